/- The law of PlaceFor, walked. Condition: the three error variables hold three different errors of errors.New's make. -/
import Derived.Test.YtonclaakaaidlacDoorPlace
import Derived.Test.YtonclaakaaidlacDoorToBookS
import Derived.Deep.RegionHeld3
namespace Go.Proofs.YtonclaakaaidlacDoor
set_option linter.unusedSimpArgs false
set_option linter.unusedVariables false
set_option maxRecDepth 100000
open Go.RowKit

set_option maxHeartbeats 8000000 in
theorem walkPlaceFor (v : Value) (xs : List Bk) (wf : ∀ b ∈ xs, b.Wf) (b1 : Bk) (wb1 : b1.Wf) (w : World) (s i y : Addr) (he : Errs w s i y) (sl : SliceOf w v xs) (ml : xs.length ≤ maxLen) :
    Calls Tryd.prog 4 #[v, .agg #[.int .i16 b1.c, .int .u8 b1.m0, .int .u8 b1.m1, .int .u8 b1.m2, .int .i16 b1.v, .int .i16 b1.wi, .int .i16 b1.hi, .int .i16 b1.we]] w fun e w' => e = .returned (.bool true) ∧ Below w.heap.size w w' := by
  have mx : xs.length ≤ 9223372036854775807 := by unfold maxLen at ml; omega
  have SL := Lib.hid sl
  have WF := Lib.hid wf
  have HE := Lib.hid he
  obtain ⟨A, c, rfl, -⟩ := sl
  clear wf he
  by_cases hn : xs.length ≤ 1048576
  · have e0 : ¬ (1048576 - (xs.length : Int) < 0) := by omega
    go_enter Tryd.func4, Tryd.ntmps4
    go_wp2_with fail
    refine (szBookS_any _ _ _ _ mx).mono ?_
    rintro e w' ⟨rfl, rfl⟩
    rw [if_pos hn]
    go_wp2
    generalize hw0 : World.alloc _ _ = W
    have p0 : W.cell? ⟨w.heap.size, 0, none⟩ = some (.int .i16 b1.c) := by rw [← hw0]; clear hw0; go_simp
    have p1 : W.cell? ⟨w.heap.size, 1, none⟩ = some (.int .u8 b1.m0) := by rw [← hw0]; clear hw0; go_simp
    have p2 : W.cell? ⟨w.heap.size, 2, none⟩ = some (.int .u8 b1.m1) := by rw [← hw0]; clear hw0; go_simp
    have p3 : W.cell? ⟨w.heap.size, 3, none⟩ = some (.int .u8 b1.m2) := by rw [← hw0]; clear hw0; go_simp
    have p4 : W.cell? ⟨w.heap.size, 4, none⟩ = some (.int .i16 b1.v) := by rw [← hw0]; clear hw0; go_simp
    have p5 : W.cell? ⟨w.heap.size, 5, none⟩ = some (.int .i16 b1.wi) := by rw [← hw0]; clear hw0; go_simp
    have p6 : W.cell? ⟨w.heap.size, 6, none⟩ = some (.int .i16 b1.hi) := by rw [← hw0]; clear hw0; go_simp
    have p7 : W.cell? ⟨w.heap.size, 7, none⟩ = some (.int .i16 b1.we) := by rw [← hw0]; clear hw0; go_simp
    have z0 : w.heap.size < W.heap.size := by rw [← hw0]; clear hw0; simp
    have g0 : Below w.heap.size w W := by rw [← hw0]; clear hw0; go_grown
    clear hw0
    have b0 : Below W.heap.size W W.drew := (Below.refl _ _).drew
    have HK := Lib.hid (show ∀ W1, Below W.heap.size W W1 → (fun W1 => Below W.heap.size W W1 ∧ W1.cell? ⟨w.heap.size, 0, none⟩ = some (.int .i16 b1.c) ∧ W1.cell? ⟨w.heap.size, 1, none⟩ = some (.int .u8 b1.m0) ∧ W1.cell? ⟨w.heap.size, 2, none⟩ = some (.int .u8 b1.m1) ∧ W1.cell? ⟨w.heap.size, 3, none⟩ = some (.int .u8 b1.m2) ∧ W1.cell? ⟨w.heap.size, 4, none⟩ = some (.int .i16 b1.v) ∧ W1.cell? ⟨w.heap.size, 5, none⟩ = some (.int .i16 b1.wi) ∧ W1.cell? ⟨w.heap.size, 6, none⟩ = some (.int .i16 b1.hi) ∧ W1.cell? ⟨w.heap.size, 7, none⟩ = some (.int .i16 b1.we)) W1 from fun W1 hB => ⟨hB, (hB.cell (p := ⟨w.heap.size, 0, none⟩) z0).trans p0, (hB.cell (p := ⟨w.heap.size, 1, none⟩) z0).trans p1, (hB.cell (p := ⟨w.heap.size, 2, none⟩) z0).trans p2, (hB.cell (p := ⟨w.heap.size, 3, none⟩) z0).trans p3, (hB.cell (p := ⟨w.heap.size, 4, none⟩) z0).trans p4, (hB.cell (p := ⟨w.heap.size, 5, none⟩) z0).trans p5, (hB.cell (p := ⟨w.heap.size, 6, none⟩) z0).trans p6, (hB.cell (p := ⟨w.heap.size, 7, none⟩) z0).trans p7⟩)
    clear p0 p1 p2 p3 p4 p5 p6 p7
    go_region_held3 (fun W1 => Below W.heap.size W W1 ∧ W1.cell? ⟨w.heap.size, 0, none⟩ = some (.int .i16 b1.c) ∧ W1.cell? ⟨w.heap.size, 1, none⟩ = some (.int .u8 b1.m0) ∧ W1.cell? ⟨w.heap.size, 2, none⟩ = some (.int .u8 b1.m1) ∧ W1.cell? ⟨w.heap.size, 3, none⟩ = some (.int .u8 b1.m2) ∧ W1.cell? ⟨w.heap.size, 4, none⟩ = some (.int .i16 b1.v) ∧ W1.cell? ⟨w.heap.size, 5, none⟩ = some (.int .i16 b1.wi) ∧ W1.cell? ⟨w.heap.size, 6, none⟩ = some (.int .i16 b1.hi) ∧ W1.cell? ⟨w.heap.size, 7, none⟩ = some (.int .i16 b1.we)) (first | exact HK.out _ b0 | (refine HK.out _ (bnext ?_ h1); exact And.left (by assumption))) (first
      | (go_at_call 10; refine (toBookS_any _ xs _ (SL.out.below (bnext g0 (And.left (by assumption)))) hn).mono ?_; rintro e w' ⟨g, rfl, hg, hr, h1⟩; have HR := Lib.hid (fun W2 (hB : Below w'.heap.size w' W2) => SliceOf.below (Row.slice hr) hB); clear hr)
      | (go_at_call 14; with_reducible refine (toBook_any b1 _).mono ?_; rintro e w' ⟨rfl, h1⟩)
      | (go_at_call 13; refine (specPlaceFor_any _ xs b1 wb1 WF.out _ (by first | exact HR.out _ (Below.refl _ _) | exact HR.out _ h1 | exact HR.out _ (bnext (by assumption) h1)) ml).mono ?_; rintro e w9 ⟨rfl, h1⟩))
    all_goals
      have g9 : Below W.heap.size W w9 := And.left (by assumption)
      have gg := bnext g0 g9
      obtain ⟨-, p0, p1, p2, p3, p4, p5, p6, p7⟩ := HK.out w9 g9
      clear HR HK
      go_wp2_with fail
      refine (toBookS_any _ xs _ (SL.out.below gg) hn).mono ?_
      rintro e w10 ⟨gx, rfl, hgx, hrx, h10⟩
      have X := Lib.hid hrx
      clear hrx hgx
      have y0 := Nat.lt_of_lt_of_le z0 g9.size
      have p0 := (h10.cell (p := ⟨w.heap.size, 0, none⟩) y0).trans p0
      have p1 := (h10.cell (p := ⟨w.heap.size, 1, none⟩) y0).trans p1
      have p2 := (h10.cell (p := ⟨w.heap.size, 2, none⟩) y0).trans p2
      have p3 := (h10.cell (p := ⟨w.heap.size, 3, none⟩) y0).trans p3
      have p4 := (h10.cell (p := ⟨w.heap.size, 4, none⟩) y0).trans p4
      have p5 := (h10.cell (p := ⟨w.heap.size, 5, none⟩) y0).trans p5
      have p6 := (h10.cell (p := ⟨w.heap.size, 6, none⟩) y0).trans p6
      have p7 := (h10.cell (p := ⟨w.heap.size, 7, none⟩) y0).trans p7
      have zz0 := Nat.lt_of_lt_of_le y0 h10.size
      go_wp2_with fail
      with_reducible refine (toBook_any b1 _).mono ?_
      rintro e w11 ⟨rfl, h11⟩
      clear p0 p1 p2 p3 p4 p5 p6 p7
      go_wp2_with fail
      refine (placeFor_any _ xs b1 wb1 WF.out _ s i y (HE.out.below (bnext (bnext gg h10) h11)) (X.out.slice.below h11) hn ml).mono ?_
      rintro e w12 ⟨rfl, h12⟩
      generalize pfR xs b1 = r0
      generalize pfCode xs b1 = r1
      have g12 := bnext (bnext (bnext gg h10) h11) h12
      go_wp2_with fail
      refine (toBookS_any _ xs _ (SL.out.below g12) hn).mono ?_
      rintro e w13 ⟨gy, rfl, hgy, hry, h13⟩
      have Y := Lib.hid hry
      clear hry hgy
      go_wp2_with fail
      refine (eqBookS_same _ _ xs _ (X.out.slice.below (bnext (bnext h11 h12) h13)) Y.out.slice ml).mono ?_
      rintro e w14 ⟨rfl, h14⟩
      go_wp2
      go_ret
      exact ⟨rfl, bnext (bnext g12 h13) h14⟩
  · go_enter Tryd.func4, Tryd.ntmps4
    go_wp2_with fail
    refine (szBookS_any _ _ _ _ mx).mono ?_
    rintro e w' ⟨rfl, rfl⟩
    rw [if_neg hn]
    go_wp2
    go_ret
    exact ⟨rfl, by go_grown⟩

end Go.Proofs.YtonclaakaaidlacDoor
