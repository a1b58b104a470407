/- The law of ReadActs, walked. Condition: the two error variables hold two different errors of errors.New's make. -/
import Derived.Test.YtkojnepgeegalaaDoorRdU2
import Derived.Deep.RegionHeld3
namespace Go.Proofs.YtkojnepgeegalaaDoor
set_option linter.unusedSimpArgs false
set_option linter.unusedVariables false
set_option maxRecDepth 100000
open Go.RowKit

theorem specRAs {T : ByteArray} (hT : T.size ≤ 1048576) {ms : List (Int × Int × Int)} {k : Int} (hZ : axI (rtX T.data.toList) = ms) (hC : rtC T.data.toList = k) (w : World) :
    Calls Tryd.prog 26 #[.string T] w fun e w' => ∃ u, e = .returned (.tuple #[u, .int .i64 k]) ∧ ResX w' w.heap.size u ms ∧ Below w.heap.size w w' := by
  refine (specReadActs_any T hT w).mono ?_
  rintro e w' ⟨u, rfl, h1, h2⟩
  exact ⟨u, by rw [hC], by rw [← hZ]; exact ResX.of h1, h2⟩
theorem implRAs {T : ByteArray} (hT : T.size ≤ 1048576) {ms : List (Int × Int × Int)} {k : Int} (hZ : axI (rtX T.data.toList) = ms) (hC : rtC T.data.toList = k) (w : World) (s y : Addr) (he : Es2 w s y) :
    Calls Tryd.prog 27 #[.string T] w fun e w' => ∃ u, e = .returned (.tuple #[u, .int .i64 k]) ∧ ResX w' w.heap.size u ms ∧ Below w.heap.size w w' := by
  refine (readActs_any T hT w s y he).mono ?_
  rintro e w' ⟨u, rfl, h1, h2⟩
  exact ⟨u, by rw [hC], by rw [← hZ]; exact ResX.of h1, h2⟩
set_option maxHeartbeats 16000000 in
theorem walkReadActs (s0 : ByteArray) (wf0 : s0.size ≤ maxLen) (w : World) (s y : Addr) (he : Es2 w s y)  :
    Calls Tryd.prog 7 #[.string s0] w fun e w' => e = .returned (.bool true) ∧ Below w.heap.size w w' := by
  have HE := Lib.hid he
  clear he
  by_cases hn0 : (s0.size : Int) ≤ 1048576
  · have e0 : ¬ ((1048576 : Int) < (s0.size : Int)) := by omega
    have hT : s0.size ≤ 1048576 := by omega
    have le : (axI (rtX s0.data.toList)).length ≤ 300 := by rw [axI_length]; have := rtX_len s0.data.toList; omega
    obtain ⟨ms, hz⟩ : ∃ ms, axI (rtX s0.data.toList) = ms := ⟨_, rfl⟩
    obtain ⟨k, hk⟩ : ∃ k, rtC s0.data.toList = k := ⟨_, rfl⟩
    have SP := Lib.hid (fun W => specRAs hT hz hk W)
    have IM := Lib.hid (fun W h => implRAs hT hz hk W s y h)
    rw [hz] at le
    have LE := Lib.hid le
    clear hz hk le
    go_enter Tryd.func7, Tryd.ntmps7
    go_wp2_with fail
    refine (SP.out _).mono ?_
    rintro e w1 ⟨u0, rfl, hu0, h1⟩
    have B1 := Lib.hid h1
    have U1 := Lib.hid (hu0)
    clear hu0
    have LU := Lib.hid U1.out.lt
    have z1 := h1.size
    go_wp2_with fail
    refine (IM.out _ (HE.out.below B1.out)).mono ?_
    rintro e w2 ⟨t0, rfl, ht0, h2⟩
    have z2 := h2.size
    have B2 := Lib.hid (bnext B1.out h2)
    have U2 := Lib.hid (U1.out.below h2)
    have T2 := Lib.hid (ht0)
    have LT := Lib.hid T2.out.lt
    clear ht0 h1 h2
    go_wp2_with fail
    refine (eqAxS_same _ _ _ _ ms _ T2.out U2.out LE.out).mono ?_
    rintro e w3 ⟨rfl, h3⟩
    have B3 := Lib.hid (bnext B2.out h3)
    have U3 := Lib.hid (U2.out.below h3)
    have T3 := Lib.hid (T2.out.below h3)
    have z3 := h3.size
    clear h3
    go_wp2_with fail
    refine (markAx_any t0 _ ms _ T3.out LE.out).mono ?_
    rintro e w4 ⟨rfl, hm0, h4⟩
    have M4 := Lib.hid hm0
    have B4 := Lib.hid (B3.out.grown h4 B3.out.size (fun k hk => by have := (LT.out k hk).1; omega))
    have U4 := Lib.hid (U3.out.other h4 (fun k hk e => by have := (LU.out k hk).2; have := (LT.out k e.symm).1; omega))
    clear hm0 h4
    go_wp2_with fail
    refine (heldAx_any t0 _ ms.length _ M4.out LE.out).mono ?_
    rintro e w' ⟨rfl, rfl⟩
    go_wp2_with fail
    refine (IM.out _ (HE.out.below B4.out)).mono ?_
    rintro e w6 ⟨v0, rfl, hv0, h6⟩
    have V6 := Lib.hid (hv0)
    have B6 := Lib.hid (bnext B4.out h6)
    have U6 := Lib.hid (U4.out.below h6)
    have M6 := Lib.hid (M4.out.below h6)
    clear hv0 h6
    go_wp2_with fail
    refine (eqAxS_same _ _ _ _ ms _ V6.out U6.out LE.out).mono ?_
    rintro e w7 ⟨rfl, h7⟩
    have B7 := Lib.hid (bnext B6.out h7)
    have M7 := Lib.hid (M6.out.below h7)
    clear h7
    go_wp2_with fail
    refine (heldAx_any t0 _ ms.length _ M7.out LE.out).mono ?_
    rintro e w' ⟨rfl, rfl⟩
    go_wp2
    go_ret
    exact ⟨rfl, B7.out⟩
  · have e0 : (1048576 : Int) < (s0.size : Int) := by omega
    go_enter Tryd.func7, Tryd.ntmps7
    go_wp2
    go_ret
    exact ⟨rfl, by go_grown⟩

end Go.Proofs.YtkojnepgeegalaaDoor
