/- The law of ReadBooks, walked. Condition: the two error variables hold two different errors of errors.New's make. -/
import Derived.Test.YtkojnepgeegalaaDoorRdC2
import Derived.Deep.RegionHeld3
namespace Go.Proofs.YtkojnepgeegalaaDoor
set_option linter.unusedSimpArgs false
set_option linter.unusedVariables false
set_option maxRecDepth 100000
open Go.RowKit

theorem specRBs {T : ByteArray} (hT : T.size ≤ 1048576) {ms : List Bk} {k : Int} (hZ : rsB T.data.toList = ms) (hC : rsC T.data.toList = k) (w : World) :
    Calls Tryd.prog 13 #[.string T] w fun e w' => ∃ u, e = .returned (.tuple #[u, .int .i64 k]) ∧ ResB w' w.heap.size u ms ∧ Below w.heap.size w w' := by
  refine (specReadBooks_any T hT w).mono ?_
  rintro e w' ⟨u, rfl, h1, h2⟩
  exact ⟨u, by rw [hC], by rw [← hZ]; exact ResB.ofL h1 rfl, h2⟩
theorem implRBs {T : ByteArray} (hT : T.size ≤ 1048576) {ms : List Bk} {k : Int} (hZ : rsB T.data.toList = ms) (hC : rsC T.data.toList = k) (w : World) (s y : Addr) (he : Es2 w s y) :
    Calls Tryd.prog 14 #[.string T] w fun e w' => ∃ u, e = .returned (.tuple #[u, .int .i64 k]) ∧ ResB w' w.heap.size u ms ∧ Below w.heap.size w w' := by
  refine (readBooks_any T hT w s y he).mono ?_
  rintro e w' ⟨u, rfl, h1, h2⟩
  exact ⟨u, by rw [hC], by rw [← hZ]; exact ResB.ofL h1 rfl, h2⟩
set_option maxHeartbeats 16000000 in
theorem walkReadBooks (s0 : ByteArray) (wf0 : s0.size ≤ maxLen) (w : World) (s y : Addr) (he : Es2 w s y)  :
    Calls Tryd.prog 4 #[.string s0] w fun e w' => e = .returned (.bool true) ∧ Below w.heap.size w w' := by
  have HE := Lib.hid he
  clear he
  by_cases hn0 : (s0.size : Int) ≤ 1048576
  · have e0 : ¬ ((1048576 : Int) < (s0.size : Int)) := by omega
    have hT : s0.size ≤ 1048576 := by omega
    have le : (rsB s0.data.toList).length ≤ 60 := rsB_len _
    obtain ⟨ms, hz⟩ : ∃ ms, rsB s0.data.toList = ms := ⟨_, rfl⟩
    obtain ⟨k, hk⟩ : ∃ k, rsC s0.data.toList = k := ⟨_, rfl⟩
    have SP := Lib.hid (fun W => specRBs hT hz hk W)
    have IM := Lib.hid (fun W h => implRBs hT hz hk W s y h)
    rw [hz] at le
    have LE := Lib.hid (show ms.length ≤ 1048576 by omega)
    have ML := Lib.hid (show ms.length ≤ maxLen by unfold maxLen; omega)
    clear hz hk le
    go_enter Tryd.func4, Tryd.ntmps4
    go_wp2_with fail
    refine (SP.out _).mono ?_
    rintro e w1 ⟨u0, rfl, hu0, h1⟩
    have B1 := Lib.hid h1
    have U1 := Lib.hid (hu0)
    clear hu0
    have LU := Lib.hid U1.out.lt
    have z1 := h1.size
    go_wp2_with fail
    refine (IM.out _ (HE.out.below B1.out)).mono ?_
    rintro e w2 ⟨t0, rfl, ht0, h2⟩
    have z2 := h2.size
    have B2 := Lib.hid (bnext B1.out h2)
    have U2 := Lib.hid (U1.out.below h2)
    have T2 := Lib.hid (ht0)
    have LT := Lib.hid T2.out.lt
    clear ht0 h1 h2
    go_wp2_with fail
    refine (eqBookS_same _ _ ms _ T2.out.slice U2.out.slice ML.out).mono ?_
    rintro e w3 ⟨rfl, h3⟩
    have B3 := Lib.hid (bnext B2.out h3)
    have U3 := Lib.hid (U2.out.below h3)
    have T3 := Lib.hid (T2.out.below h3)
    have z3 := h3.size
    clear h3
    go_wp2_with fail
    refine (markRes_any t0 ms _ 1 _ T3.out LE.out (by omega) (by omega)).mono ?_
    rintro e w4 ⟨rfl, hm0, h4⟩
    have M4 := Lib.hid hm0
    have B4 := Lib.hid (B3.out.grown h4 B3.out.size (fun k hk => by have := (LT.out k hk).1; omega))
    have U4 := Lib.hid (U3.out.other h4 (fun k hk e => by have := (LU.out k hk).2; have := (LT.out k e.symm).1; omega))
    clear hm0 h4
    go_wp2_with fail
    refine (heldBookS_any t0 ms.length 1 _ LE.out (by omega) (by omega) M4.out.slice).mono ?_
    rintro e w' ⟨rfl, rfl⟩
    go_wp2_with fail
    refine (IM.out _ (HE.out.below B4.out)).mono ?_
    rintro e w6 ⟨v0, rfl, hv0, h6⟩
    have V6 := Lib.hid (hv0)
    have B6 := Lib.hid (bnext B4.out h6)
    have U6 := Lib.hid (U4.out.below h6)
    have M6 := Lib.hid (M4.out.below h6)
    clear hv0 h6
    go_wp2_with fail
    refine (eqBookS_same _ _ ms _ V6.out.slice U6.out.slice ML.out).mono ?_
    rintro e w7 ⟨rfl, h7⟩
    have B7 := Lib.hid (bnext B6.out h7)
    have M7 := Lib.hid (M6.out.below h7)
    clear h7
    go_wp2_with fail
    refine (heldBookS_any t0 ms.length 1 _ LE.out (by omega) (by omega) M7.out.slice).mono ?_
    rintro e w' ⟨rfl, rfl⟩
    go_wp2
    go_ret
    exact ⟨rfl, B7.out⟩
  · have e0 : (1048576 : Int) < (s0.size : Int) := by omega
    go_enter Tryd.func4, Tryd.ntmps4
    go_wp2
    go_ret
    exact ⟨rfl, by go_grown⟩

end Go.Proofs.YtkojnepgeegalaaDoor
