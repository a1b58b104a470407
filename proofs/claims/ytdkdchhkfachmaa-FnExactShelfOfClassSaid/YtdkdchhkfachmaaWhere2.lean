/- WhereIs: the program's search for a shelf, by a function value: contracts. Condition: a layout. -/
import Derived.Test.YtdkdchhkfachmaaWhere
namespace Go.Proofs.Ytdkdchhkfachmaa
set_option linter.unusedSimpArgs false
set_option linter.unusedVariables false
set_option maxRecDepth 100000
open Go.RowKit

set_option maxHeartbeats 1000000 in
theorem closWhere_any (X : Option Addr) (i k : Nat) (f b : Int) (B : Nat) (w : World) (hik : i ≤ k) (hk : k ≤ 60) (hb : w.cell? ⟨B, 0, none⟩ = some (.int .i64 b)) (hB : B < w.heap.size) :
    Calls Try.prog 81 #[.agg #[.int .i64 (i : Int), .slice X (k - i) (k - i), .int .i64 f], .pointer (some ⟨B, 0, none⟩)] w fun e w' => e = .returned (.bool (decide (b < (k : Int)))) ∧ Below w.heap.size w w' := by
  have HBE := Lib.hid (fun W => behind_any X i k f W hik hk)
  go_enter Try.func81, Try.ntmps81
  go_wp2
  generalize hw0 : World.alloc _ _ = W
  have p0 : W.cell? ⟨w.heap.size, 0, none⟩ = some (.int .i64 (i : Int)) := by rw [← hw0]; clear hw0; go_simp
  have p1 : W.cell? ⟨w.heap.size, 1, none⟩ = some (.slice X (k - i) (k - i)) := by rw [← hw0]; clear hw0; go_simp
  have p2 : W.cell? ⟨w.heap.size, 2, none⟩ = some (.int .i64 f) := by rw [← hw0]; clear hw0; go_simp
  have z0 : w.heap.size < W.heap.size := by rw [← hw0]; clear hw0; simp
  have g0 : Below w.heap.size w W := by rw [← hw0]; clear hw0; go_grown
  have q0 : W.cell? ⟨B, 0, none⟩ = some (.int .i64 b) := (g0.cell (p := ⟨B, 0, none⟩) hB).trans hb
  have z1 : B < W.heap.size := Nat.lt_of_lt_of_le hB g0.size
  clear hw0 hb
  have p0 := belowBy_cell z0 p0
  have p1 := belowBy_cell z0 p1
  have p2 := belowBy_cell z0 p2
  have q0 := belowBy_cell z1 q0
  refine wp_region_below (by kernel_rfl) (by kernel_rfl) ?_
  repeat (quiet_step ((go_at_call 69; exact calls_below (HBE.out _))))
  refine wpQuiet_nil ?_
  rintro _ ⟨⟨wq, hq⟩, rfl⟩
  clear p0 p1 p2 q0
  go_wp2
  go_ret
  exact ⟨rfl, bnext g0 hq⟩

set_option maxHeartbeats 4000000 in
theorem indexRows_any (c : Cs) (A : Option Addr) (xs : List Bk) (es : List Int) (b : Int) (B g cap base : Nat) (w : World) (hl : layB c xs es = true) (h60 : xs.length ≤ 60) (h0 : 0 < es.length) (h12 : es.length ≤ 12) (hlast : b < es[es.length - 1]) (ho : w.ownsRow base 79 3 (.slice (some ⟨g, 0, none⟩) es.length cap) es.length (rowsCs c A xs es es.length)) (hb : w.cell? ⟨B, 0, none⟩ = some (.int .i64 b)) (hB : B < w.heap.size) :
    Calls Try.prog 80 #[.slice (some ⟨g, 0, none⟩) es.length cap, .func (.func 81) #[] #[.pointer (some ⟨B, 0, none⟩)]] w fun e w' => e = .returned (.int .i64 (shOf es b : Int)) ∧ Below w.heap.size w w' := by
  have HO := Lib.hid ho
  have HL := Lib.hid hlast
  have LB := Lib.hid hl
  have HBC := Lib.hid hb
  clear ho hlast hl hb
  go_enter Try.func80, Try.ntmps80
  go_wp2
  go_loopw [8] (fun s wr => ∃ j : Nat, j < es.length ∧ s = .int .i64 (j : Int) ∧ shF es b (es.length - j) j = shOf es b ∧ Below w.heap.size w wr) (fun s _ => es.length - (intOf s).toNat)
  case atStart => exact ⟨0, h0, rfl, rfl, Below.refl _ _⟩
  case round =>
    obtain ⟨j, hj, rfl, hs, hbel⟩ := hrel
    have HS := Lib.hid hs
    clear hs
    obtain ⟨-, i, k, hi, hk, hik, hkn, -⟩ := lay_at LB.out hj
    have ho := ownBelow HO.out hbel
    have e0 := (ho.cellAt (j * 3 + 0) (by omega)).trans (rowsCs_at c A xs es j 0 (by omega) _ hj)
    have e1 := (ho.cellAt (j * 3 + 1) (by omega)).trans (rowsCs_at c A xs es j 1 (by omega) _ hj)
    have e2 := (ho.cellAt (j * 3 + 2) (by omega)).trans (rowsCs_at c A xs es j 2 (by omega) _ hj)
    rw [getD_ints hj, hi, hk] at e0 e1 e2
    simp only [rowCs, Int.toNat_natCast, List.getElem?_cons_zero, List.getElem?_cons_succ, Nat.add_zero] at e0 e1 e2
    have HK := Lib.hid hk
    have hbc := Lib.hid ((hbel.cell (p := ⟨B, 0, none⟩) hB).trans HBC.out)
    clear ho hi hk
    generalize freeB c (part xs i k) = fr at *
    by_cases hle : es[j] ≤ b
    · have hne : j ≠ es.length - 1 := by
        rintro rfl
        have := HL.out
        omega
      have E1 := Lib.hid (show shF es b (es.length - (j + 1)) (j + 1) = shOf es b by rw [← HS.out, shF_step hj, if_pos hle])
      have hd : decide (b < (k : Int)) = false := by have := HK.out; simp; omega
      go_wp2_with (go_at_call 81; refine (closWhere_any _ i k fr b B _ hik (by omega) hbc.out (Nat.lt_of_lt_of_le hB hbel.size)).mono ?_; rintro e w2 ⟨rfl, g2⟩)
      go_roundw
      case rel => exact ⟨j + 1, by omega, by go_num, E1.out, bnext hbel g2⟩
      case measure => simp [intOf]; omega
    · have E1 := Lib.hid (show shOf es b = j by rw [← HS.out, shF_step hj, if_neg hle])
      have hd : decide (b < (k : Int)) = true := by have := HK.out; simp; omega
      go_wp2_with (go_at_call 81; refine (closWhere_any _ i k fr b B _ hik (by omega) hbc.out (Nat.lt_of_lt_of_le hB hbel.size)).mono ?_; rintro e w2 ⟨rfl, g2⟩)
      go_ret
      exact ⟨by rw [E1.out]; rfl, bnext hbel g2⟩

end Go.Proofs.Ytdkdchhkfachmaa
