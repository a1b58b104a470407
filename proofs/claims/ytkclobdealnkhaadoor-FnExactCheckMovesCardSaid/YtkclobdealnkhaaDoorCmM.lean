/- Whether moves sort a list, by the model and by the program: contracts. Condition: lists no longer than can be, whose numbers lie within their kinds; the three error variables hold three different errors of errors.New's make. -/
import Derived.Test.YtkclobdealnkhaaDoorMb7
import Derived.Test.YtkclobdealnkhaaDoorSorted2
namespace Go.Proofs.YtkclobdealnkhaaDoor
set_option linter.unusedSimpArgs false
set_option linter.unusedVariables false
set_option maxRecDepth 100000
open Go.RowKit

def cmB (xs : List Bk) (ms : List Mv) : Bool := decide (swCode xs ms = 0) && decide (firstOut (mvR xs ms) < 0)
theorem mv_ok {xs : List Bk} {ms : List Mv} (h : swCode xs ms = 0) : okB (mvR xs ms) = true := by
  have h1 : okB xs = true := by
    rcases sw_cases xs ms with ⟨_, e, _⟩ | ⟨e, _⟩ | ⟨e, _⟩
    · rw [e] at h; cases h
    · exact e
    · exact e
  unfold mvR
  rw [if_pos h, okB_perm (mvTo_perm xs ms _), h1]
theorem mvR_wf {xs : List Bk} {ms : List Mv} (wf : ∀ b ∈ xs, b.Wf) : ∀ b ∈ mvR xs ms, b.Wf := by
  unfold mvR
  split
  · exact mvTo_wf wf _
  · intro b hb
    cases hb
set_option maxHeartbeats 4000000 in
theorem specCheckMoves_any (b o c : Nat) (xs : List Bk) (v : Value) (ms : List Mv) (wf : ∀ b ∈ xs, b.Wf) (wm : ∀ m ∈ ms, m.Wf) (w : World) (hs : SliceOf w (.slice (some ⟨b, o, none⟩) xs.length c) xs) (hm : MovesOf w v ms) (hn : xs.length ≤ 1048576) (ml : xs.length ≤ maxLen) (mm : ms.length ≤ maxLen) :
    Calls Tryd.prog 14 #[.slice (some ⟨b, o, none⟩) xs.length c, v] w fun e w' => e = .returned (.tuple #[.bool (cmB xs ms), .int .i64 (swCode xs ms)]) ∧ Below w.heap.size w w' := by
  have K := Lib.hid (l03All_any b o c xs v ms wf wm w hs hm hn ml mm)
  have LR := Lib.hid (mvR_length xs ms)
  have WR := Lib.hid (mvR_wf (ms := ms) wf)
  obtain ⟨B, q, rfl, -⟩ := hm
  clear hs wf wm
  have CB := Lib.hid (show cmB xs ms = (decide (swCode xs ms = 0) && decide (firstOut (mvR xs ms) < 0)) from rfl)
  by_cases hz : swCode xs ms = 0
  · rw [hz] at K CB ⊢
    go_enter Tryd.func14, Tryd.ntmps14
    go_wp2_with fail
    refine K.out.mono ?_
    rintro e w1 ⟨u, rfl, hr, g1⟩
    have HR := Lib.hid hr
    clear hr
    go_wp2_with fail
    refine (l01Out_any u (mvR xs ms) WR.out _ HR.out.slice (Nat.le_trans LR.out ml)).mono ?_
    rintro e w2 ⟨rfl, g2⟩
    generalize firstOut (mvR xs ms) = f at CB ⊢
    go_wp2
    go_ret2
    exact ⟨by rw [CB.out]; rfl, bnext g1 g2⟩
  · have HZ := Lib.hid hz
    have C2 := Lib.hid (show cmB xs ms = false by rw [CB.out, decide_eq_false hz, Bool.false_and])
    generalize swCode xs ms = q0 at *
    have hz2 : (q0 != 0) = true := by simpa using hz
    go_enter Tryd.func14, Tryd.ntmps14
    go_wp2_with fail
    refine K.out.mono ?_
    rintro e w1 ⟨u, rfl, hr, g1⟩
    clear hr
    go_wp2
    go_ret2
    exact ⟨by rw [C2.out]; rfl, g1⟩
set_option maxHeartbeats 4000000 in
theorem checkMoves_any (b o c : Nat) (xs : List Bk) (v : Value) (ms : List Mv) (wf : ∀ b ∈ xs, b.Wf) (wm : ∀ m ∈ ms, m.Wf) (w : World) (s i y : Addr) (he : Errs w s i y) (hs : SliceOf w (.slice (some ⟨b, o, none⟩) xs.length c) xs) (hm : MovesOf w v ms) (hn : xs.length ≤ 1048576) (ml : xs.length ≤ maxLen) (mm : ms.length ≤ maxLen) :
    Calls Tryd.prog 16 #[.slice (some ⟨b, o, none⟩) xs.length c, v] w fun e w' => e = .returned (.tuple #[.bool (cmB xs ms), .int .i64 (swCode xs ms)]) ∧ Below w.heap.size w w' := by
  have K := Lib.hid (moveAll_any b o c xs v ms wf wm w hs hm hn ml mm)
  have LR := Lib.hid (mvR_length xs ms)
  have WR := Lib.hid (mvR_wf (ms := ms) wf)
  have HE := Lib.hid he
  obtain ⟨B, q, rfl, -⟩ := hm
  clear hs wf wm he
  have CB := Lib.hid (show cmB xs ms = (decide (swCode xs ms = 0) && decide (firstOut (mvR xs ms) < 0)) from rfl)
  by_cases hz : swCode xs ms = 0
  · have HO := Lib.hid (mv_ok hz)
    have ES := Lib.hid (show srt (mvR xs ms) = cmB xs ms by rw [CB.out]; unfold srt; rw [HO.out, decide_eq_true hz])
    have EC := Lib.hid (show srtCode (mvR xs ms) = 0 by unfold srtCode; rw [HO.out]; rfl)
    rw [hz] at K ⊢
    clear CB hz
    go_enter Tryd.func16, Tryd.ntmps16
    go_wp2_with fail
    refine K.out.mono ?_
    rintro e w1 ⟨u, rfl, hr, g1⟩
    have HR := Lib.hid hr
    clear hr
    go_wp2_with fail
    refine (isSorted_any u (mvR xs ms) WR.out _ s i y (HE.out.below g1) HR.out.slice (Nat.le_trans LR.out hn) (Nat.le_trans LR.out ml)).mono ?_
    rintro e w2 ⟨rfl, g2⟩
    rw [ES.out, EC.out]
    go_wp2
    go_ret2
    exact ⟨rfl, bnext g1 g2⟩
  · have HZ := Lib.hid hz
    have C2 := Lib.hid (show cmB xs ms = false by rw [CB.out, decide_eq_false hz, Bool.false_and])
    generalize swCode xs ms = q0 at *
    have hz2 : (q0 != 0) = true := by simpa using hz
    go_enter Tryd.func16, Tryd.ntmps16
    go_wp2_with fail
    refine K.out.mono ?_
    rintro e w1 ⟨u, rfl, hr, g1⟩
    clear hr
    go_wp2
    go_ret2
    exact ⟨by rw [C2.out]; rfl, g1⟩
end Go.Proofs.YtkclobdealnkhaaDoor
