/- ShelfOfClass: the program's search for a class among books, by a function value: contracts. Condition: at most 60 books. -/
import Derived.Test.YtdkdchhkfachmaaClass
namespace Go.Proofs.Ytdkdchhkfachmaa
set_option linter.unusedSimpArgs false
set_option linter.unusedVariables false
set_option maxRecDepth 100000
open Go.RowKit

set_option maxHeartbeats 400000 in
theorem classOf_any (b : Bk) (hb : b.Wf) (w : World) :
    Calls Try.prog 87 #[.agg #[.int .i16 b.c, .int .u8 b.m0, .int .u8 b.m1, .int .u8 b.m2, .int .i16 b.v, .int .i16 b.wi, .int .i16 b.hi, .int .i16 b.we]] w fun e w' => e = .returned (.int .i64 b.c) ∧ Below w.heap.size w w' := by
  obtain ⟨⟨c1, c2⟩, ⟨x1, x2⟩, ⟨y1, y2⟩, ⟨z1, z2⟩, ⟨v1, v2⟩, ⟨i1, i2⟩, ⟨j1, j2⟩, ⟨k1, k2⟩⟩ := hb
  go_enter Try.func87, Try.ntmps87
  go_wp2
  go_ret
  exact ⟨rfl, by go_grown⟩

set_option maxHeartbeats 1000000 in
theorem closClass_any (b : Bk) (wb : b.Wf) (cl : Int) (B : Nat) (w : World) (hb : w.cell? ⟨B, 0, none⟩ = some (.int .i64 cl)) (hB : B < w.heap.size) :
    Calls Try.prog 86 #[.agg #[.int .i16 b.c, .int .u8 b.m0, .int .u8 b.m1, .int .u8 b.m2, .int .i16 b.v, .int .i16 b.wi, .int .i16 b.hi, .int .i16 b.we], .pointer (some ⟨B, 0, none⟩)] w fun e w' => e = .returned (.bool (b.c == cl)) ∧ Below w.heap.size w w' := by
  have HCL := Lib.hid (fun W => classOf_any b wb W)
  go_enter Try.func86, Try.ntmps86
  go_wp2
  generalize hw0 : World.alloc _ _ = W
  have p0 : W.cell? ⟨w.heap.size, 0, none⟩ = some (.int .i16 b.c) := by rw [← hw0]; clear hw0; go_simp
  have p1 : W.cell? ⟨w.heap.size, 1, none⟩ = some (.int .u8 b.m0) := by rw [← hw0]; clear hw0; go_simp
  have p2 : W.cell? ⟨w.heap.size, 2, none⟩ = some (.int .u8 b.m1) := by rw [← hw0]; clear hw0; go_simp
  have p3 : W.cell? ⟨w.heap.size, 3, none⟩ = some (.int .u8 b.m2) := by rw [← hw0]; clear hw0; go_simp
  have p4 : W.cell? ⟨w.heap.size, 4, none⟩ = some (.int .i16 b.v) := by rw [← hw0]; clear hw0; go_simp
  have p5 : W.cell? ⟨w.heap.size, 5, none⟩ = some (.int .i16 b.wi) := by rw [← hw0]; clear hw0; go_simp
  have p6 : W.cell? ⟨w.heap.size, 6, none⟩ = some (.int .i16 b.hi) := by rw [← hw0]; clear hw0; go_simp
  have p7 : W.cell? ⟨w.heap.size, 7, none⟩ = some (.int .i16 b.we) := by rw [← hw0]; clear hw0; go_simp
  have z0 : w.heap.size < W.heap.size := by rw [← hw0]; clear hw0; simp
  have g0 : Below w.heap.size w W := by rw [← hw0]; clear hw0; go_grown
  have q0 : W.cell? ⟨B, 0, none⟩ = some (.int .i64 cl) := (g0.cell (p := ⟨B, 0, none⟩) hB).trans hb
  have z1 : B < W.heap.size := Nat.lt_of_lt_of_le hB g0.size
  clear hw0 hb
  have p0 := belowBy_cell z0 p0
  have p1 := belowBy_cell z0 p1
  have p2 := belowBy_cell z0 p2
  have p3 := belowBy_cell z0 p3
  have p4 := belowBy_cell z0 p4
  have p5 := belowBy_cell z0 p5
  have p6 := belowBy_cell z0 p6
  have p7 := belowBy_cell z0 p7
  have q0 := belowBy_cell z1 q0
  refine wp_region_below (by kernel_rfl) (by kernel_rfl) ?_
  repeat (quiet_step ((go_at_call 87; exact calls_below (HCL.out _))))
  refine wpQuiet_nil ?_
  rintro _ ⟨⟨wq, hq⟩, rfl⟩
  clear p0 p1 p2 p3 p4 p5 p6 p7 q0
  go_wp2
  go_ret
  exact ⟨rfl, bnext g0 hq⟩

def cidx (xs : List Bk) (cl : Int) : Int := if xs.any (fun b => b.c == cl) then (xs.findIdx (fun b => b.c == cl) : Int) else -1
theorem cidx_at {xs : List Bk} {cl : Int} {j : Nat} (hj : j < xs.length) (h : (xs[j].c == cl) = true) (hp : ∀ (t : Nat) (ht : t < j), ((xs[t]'(by omega)).c == cl) = false) : cidx xs cl = j := by
  unfold cidx
  rw [if_pos (by rw [List.any_eq_true]; exact ⟨xs[j], List.getElem_mem hj, h⟩)]
  congr 1
  exact (List.findIdx_eq hj).2 ⟨h, hp⟩
theorem cidx_none {xs : List Bk} {cl : Int} (hp : ∀ (t : Nat) (ht : t < xs.length), (xs[t].c == cl) = false) : cidx xs cl = -1 := by
  unfold cidx
  rw [if_neg]
  rw [List.any_eq_true]
  rintro ⟨b, hb, h⟩
  obtain ⟨t, ht, rfl⟩ := List.getElem_of_mem hb
  rw [hp t ht] at h
  cases h
theorem cidx_any (xs : List Bk) (cl : Int) : decide (0 ≤ cidx xs cl) = xs.any (fun b => b.c == cl) := by
  unfold cidx
  cases xs.any (fun b => b.c == cl) <;> simp

set_option maxHeartbeats 4000000 in
theorem indexBooks_any (v : Value) (xs : List Bk) (cl : Int) (B : Nat) (wf : ∀ b ∈ xs, b.Wf) (w : World) (sl : SliceOf w v xs) (hn : xs.length ≤ 60) (hb : w.cell? ⟨B, 0, none⟩ = some (.int .i64 cl)) (hB : B < w.heap.size) :
    Calls Try.prog 98 #[v, .func (.func 86) #[] #[.pointer (some ⟨B, 0, none⟩)]] w fun e w' => e = .returned (.int .i64 (cidx xs cl)) ∧ Below w.heap.size w w' := by
  obtain ⟨A, m, rfl, sl⟩ := sl
  have SL := Lib.hid sl
  have HBC := Lib.hid hb
  have WF := Lib.hid wf
  clear sl hb wf
  go_enter Try.func98, Try.ntmps98
  go_wp2
  go_loopw [8] (fun s wr => ∃ j : Nat, j ≤ xs.length ∧ s = .int .i64 (j : Int) ∧ (∀ (t : Nat) (ht : t < xs.length), t < j → (xs[t].c == cl) = false) ∧ Below w.heap.size w wr) (fun s _ => xs.length - (intOf s).toNat)
  case atStart => exact ⟨0, Nat.zero_le _, rfl, fun _ _ h => absurd h (Nat.not_lt_zero _), Below.refl _ _⟩
  case round =>
    obtain ⟨j, hj, rfl, hp, hbel⟩ := hrel
    have HP := Lib.hid hp
    clear hp
    by_cases hlt : j < xs.length
    · obtain ⟨ga, oa, rfl, hga, hat⟩ := SL.out (by omega)
      obtain ⟨p0, p1, p2, p3, p4, p5, p6, p7⟩ := booksAt_some (hat.below hbel hga) hlt
      have hbc := Lib.hid ((hbel.cell (p := ⟨B, 0, none⟩) hB).trans HBC.out)
      have WB := Lib.hid (WF.out _ (List.getElem_mem hlt))
      clear hat
      cases hc : (xs[j].c == cl)
      · have E2 := Lib.hid (show ∀ (t : Nat) (ht : t < xs.length), t < j + 1 → (xs[t].c == cl) = false from fun t ht htj => by
          by_cases e : t = j
          · subst e; exact hc
          · exact HP.out t ht (by omega))
        go_wp2_with (go_at_call 86; refine (closClass_any xs[j] WB.out cl B _ hbc.out (Nat.lt_of_lt_of_le hB hbel.size)).mono ?_; rintro e w2 ⟨rfl, g2⟩)
        go_roundw
        case rel => exact ⟨j + 1, by omega, by go_num, E2.out, bnext hbel g2⟩
        case measure => simp [intOf]; omega
      · have E1 := Lib.hid (cidx_at hlt hc (fun t ht => HP.out t (by omega) ht))
        go_wp2_with (go_at_call 86; refine (closClass_any xs[j] WB.out cl B _ hbc.out (Nat.lt_of_lt_of_le hB hbel.size)).mono ?_; rintro e w2 ⟨rfl, g2⟩)
        go_ret
        exact ⟨by rw [E1.out]; rfl, bnext hbel g2⟩
    · obtain rfl : j = xs.length := by omega
      have E1 := Lib.hid (cidx_none (xs := xs) (cl := cl) (fun t ht => HP.out t ht ht))
      go_wp2
      go_ret
      exact ⟨by rw [E1.out]; rfl, hbel⟩

set_option maxHeartbeats 1000000 in
theorem containsBooks_any (v : Value) (xs : List Bk) (cl : Int) (B : Nat) (wf : ∀ b ∈ xs, b.Wf) (w : World) (sl : SliceOf w v xs) (hn : xs.length ≤ 60) (hb : w.cell? ⟨B, 0, none⟩ = some (.int .i64 cl)) (hB : B < w.heap.size) :
    Calls Try.prog 85 #[v, .func (.func 86) #[] #[.pointer (some ⟨B, 0, none⟩)]] w fun e w' => e = .returned (.bool (xs.any (fun b => b.c == cl))) ∧ Below w.heap.size w w' := by
  have C := Lib.hid (indexBooks_any v xs cl B wf w sl hn hb hB)
  have E := Lib.hid (cidx_any xs cl)
  clear wf sl hb
  go_enter Try.func85, Try.ntmps85
  go_wp2_with fail
  refine C.out.mono ?_
  rintro e w1 ⟨rfl, g1⟩
  generalize cidx xs cl = r at E ⊢
  go_wp2
  go_ret
  exact ⟨by rw [← E.out]; rfl, g1⟩

end Go.Proofs.Ytdkdchhkfachmaa
