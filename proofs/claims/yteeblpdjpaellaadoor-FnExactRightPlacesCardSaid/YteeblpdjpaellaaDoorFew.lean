/- How many moves a shelf is away from its catalogue, by the model and by the program: contracts. Condition: the three error variables hold three different errors of errors.New's make; at most 1048576 books, whose numbers lie within their kinds. -/
import Derived.Test.YteeblpdjpaellaaDoorStkA
namespace Go.Proofs.YteeblpdjpaellaaDoor
set_option linter.unusedSimpArgs false
set_option linter.unusedVariables false
set_option maxRecDepth 100000
open Go.RowKit Go.Sort

/-- The code of a catalogue and a shelf that need the same stock. -/
def saC (xs ys : List Bk) : Int := if boC xs ys = 0 then (if stkB xs ys then 0 else 8) else boC xs ys
theorem sa_cases (xs ys : List Bk) : (boC xs ys ≠ 0 ∧ saC xs ys = boC xs ys) ∨ (boC xs ys = 0 ∧ stkB xs ys = false ∧ saC xs ys = 8) ∨ (boC xs ys = 0 ∧ stkB xs ys = true ∧ saC xs ys = 0) := by
  unfold saC
  by_cases h : boC xs ys = 0
  · cases h2 : stkB xs ys
    · exact .inr (.inl ⟨h, rfl, by rw [if_pos h]; rfl⟩)
    · exact .inr (.inr ⟨h, rfl, by rw [if_pos h]; rfl⟩)
  · exact .inl ⟨h, by rw [if_neg h]⟩
set_option maxHeartbeats 4000000 in
theorem l07Same_any (b0 o0 c0 : Nat) (v1 : Value) (xs ys : List Bk) (wf : ∀ b ∈ xs, b.Wf) (wfy : ∀ b ∈ ys, b.Wf) (w : World) (hs : SliceOf w (.slice (some ⟨b0, o0, none⟩) xs.length c0) xs) (hs1 : SliceOf w v1 ys) (hc0 : xs.length ≤ c0) (hn : xs.length ≤ 1048576) (hny : ys.length ≤ 1048576) :
    Calls Tryd.prog 25 #[.slice (some ⟨b0, o0, none⟩) xs.length c0, v1] w fun e w' => e = .returned (.int .i64 (saC xs ys)) ∧ Below w.heap.size w w' := by
  have LB := Lib.hid (fun W (h : SliceOf W (.slice (some ⟨b0, o0, none⟩) xs.length c0) xs) (h1 : SliceOf W v1 ys) => l07Both_any _ _ xs ys wf wfy W h h1 (by unfold maxLen; omega) (by unfold maxLen; omega))
  have LM := Lib.hid (fun W (h : SliceOf W (.slice (some ⟨b0, o0, none⟩) xs.length c0) xs) (h1 : SliceOf W v1 ys) => l07Stock_any b0 o0 c0 v1 xs ys W h h1 hc0 hn hny)
  have S0 := Lib.hid hs
  have S1 := Lib.hid hs1
  have SC := Lib.hid (sa_cases xs ys)
  clear hs hs1 wf wfy
  rcases SC.out with ⟨h1, h2⟩ | ⟨h1, h3, h2⟩ | ⟨h1, h3, h2⟩
  · have E := Lib.hid h2
    generalize boC xs ys = q at *
    have d1 : (q == 0) = false := by simpa using h1
    clear h1 h2 SC
    go_enter Tryd.func25, Tryd.ntmps25
    go_wp2_with fail
    refine (LB.out _ S0.out S1.out).mono ?_
    rintro e w1 ⟨rfl, h1⟩
    go_wp2
    go_ret
    exact ⟨by rw [E.out]; rfl, h1⟩
  all_goals
    have E := Lib.hid h2
    rw [h1] at LB
    rw [h3] at LM
    clear h1 h2 h3 SC
    go_enter Tryd.func25, Tryd.ntmps25
    go_wp2_with fail
    refine (LB.out _ S0.out S1.out).mono ?_
    rintro e w1 ⟨rfl, h1⟩
    go_wp2_with fail
    refine (LM.out _ (S0.out.below h1) (S1.out.below h1)).mono ?_
    rintro e w2 ⟨rfl, h2⟩
    go_wp2
    go_ret
    exact ⟨by rw [E.out]; rfl, bnext h1 h2⟩

set_option maxHeartbeats 4000000 in
theorem checkSame_any (v0 v1 : Value) (xs ys : List Bk) (wf : ∀ b ∈ xs, b.Wf) (wfy : ∀ b ∈ ys, b.Wf) (w : World) (s i y : Addr) (he : Errs w s i y) (hs : SliceOf w v0 xs) (hs1 : SliceOf w v1 ys) (hn : xs.length ≤ 1048576) (hny : ys.length ≤ 1048576) :
    Calls Tryd.prog 28 #[v0, v1] w fun e w' => e = .returned (.int .i64 (saC xs ys)) ∧ Below w.heap.size w w' := by
  have LC := Lib.hid (sameStock_any v0 v1 xs ys wf wfy w s i y he hs hs1 hn hny)
  have SC := Lib.hid (sa_cases xs ys)
  have SS := Lib.hid (fun (h : boC xs ys = 0) => show ssR xs ys = stkB xs ys by unfold ssR; rw [if_pos h])
  obtain ⟨A0, c0, rfl, -⟩ := hs
  obtain ⟨A1, c1, rfl, -⟩ := hs1
  clear he wf wfy hn hny
  rcases SC.out with ⟨h1, h2⟩ | ⟨h1, h3, h2⟩ | ⟨h1, h3, h2⟩
  · have E := Lib.hid h2
    generalize boC xs ys = q at *
    have d1 : (q == 0) = false := by simpa using h1
    clear h1 h2 SC
    go_enter Tryd.func28, Tryd.ntmps28
    go_wp2_with fail
    refine LC.out.mono ?_
    rintro e w1 ⟨rfl, h1⟩
    go_wp2
    go_ret
    exact ⟨by rw [E.out]; rfl, h1⟩
  all_goals
    have E := Lib.hid h2
    rw [SS.out h1, h1, h3] at LC
    clear h1 h2 h3 SC SS
    go_enter Tryd.func28, Tryd.ntmps28
    go_wp2_with fail
    refine LC.out.mono ?_
    rintro e w1 ⟨rfl, h1⟩
    go_wp2
    go_ret
    exact ⟨by rw [E.out]; rfl, h1⟩
theorem sa_ok {xs ys : List Bk} (h : saC xs ys = 0) : okB xs = true ∧ okB ys = true ∧ stkB xs ys = true := by
  rcases sa_cases xs ys with ⟨h1, h2⟩ | ⟨_, _, h2⟩ | ⟨h1, h3, _⟩
  · exact absurd (h2.symm.trans h) h1
  · rw [h] at h2; cases h2
  · exact ⟨(bo_ok h1).1, (bo_ok h1).2, h3⟩
end Go.Proofs.YteeblpdjpaellaaDoor
