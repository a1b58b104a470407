/- MissingBooks, ForeignBooks, SameStock, by the program: contracts. Condition: as for XStkL. -/
import Derived.Test.YtgfffbnodinkcabDoorStkL
namespace Go.Proofs.YtgfffbnodinkcabDoor
set_option linter.unusedSimpArgs false
set_option linter.unusedVariables false
set_option maxRecDepth 100000
open Go.RowKit Go.Sort

set_option maxHeartbeats 2000000 in
theorem missing_any (v0 v1 : Value) (xs ys : List Bk) (wf : ∀ b ∈ xs, b.Wf) (wfy : ∀ b ∈ ys, b.Wf) (w : World) (s i y : Addr) (he : Errs w s i y) (hs : SliceOf w v0 xs) (hs1 : SliceOf w v1 ys) (hn : xs.length ≤ 1048576) (hny : ys.length ≤ 1048576) :
    Calls Tryd.prog 13 #[v0, v1] w fun e w' => ∃ u, e = .returned (.tuple #[u, .int .i64 (boC xs ys)]) ∧ ResB w' w.heap.size u (miR xs ys) ∧ Below w.heap.size w w' := by
  have LC := Lib.hid (compare_any v0 v1 xs ys wf wfy w s i y he hs hs1 hn hny)
  obtain ⟨A0, c0, rfl, -⟩ := hs
  obtain ⟨A1, c1, rfl, -⟩ := hs1
  clear he wf wfy hn hny
  generalize boC xs ys = q at *
  go_enter Tryd.func13, Tryd.ntmps13
  go_wp2_with fail
  refine LC.out.mono ?_
  rintro e w1 ⟨u1, u2, rfl, hu1, hu2, h1⟩
  have U1 := Lib.hid hu1
  clear hu1 hu2
  go_wp2
  go_ret2
  exact ⟨_, rfl, U1.out, h1⟩
set_option maxHeartbeats 2000000 in
theorem foreign_any (v0 v1 : Value) (xs ys : List Bk) (wf : ∀ b ∈ xs, b.Wf) (wfy : ∀ b ∈ ys, b.Wf) (w : World) (s i y : Addr) (he : Errs w s i y) (hs : SliceOf w v0 xs) (hs1 : SliceOf w v1 ys) (hn : xs.length ≤ 1048576) (hny : ys.length ≤ 1048576) :
    Calls Tryd.prog 18 #[v0, v1] w fun e w' => ∃ u, e = .returned (.tuple #[u, .int .i64 (boC xs ys)]) ∧ ResB w' w.heap.size u (foR xs ys) ∧ Below w.heap.size w w' := by
  have LC := Lib.hid (compare_any v0 v1 xs ys wf wfy w s i y he hs hs1 hn hny)
  obtain ⟨A0, c0, rfl, -⟩ := hs
  obtain ⟨A1, c1, rfl, -⟩ := hs1
  clear he wf wfy hn hny
  generalize boC xs ys = q at *
  go_enter Tryd.func18, Tryd.ntmps18
  go_wp2_with fail
  refine LC.out.mono ?_
  rintro e w1 ⟨u1, u2, rfl, hu1, hu2, h1⟩
  have U2 := Lib.hid hu2
  clear hu1 hu2
  go_wp2
  go_ret2
  exact ⟨_, rfl, U2.out, h1⟩
set_option maxHeartbeats 4000000 in
theorem sameStock_any (v0 v1 : Value) (xs ys : List Bk) (wf : ∀ b ∈ xs, b.Wf) (wfy : ∀ b ∈ ys, b.Wf) (w : World) (s i y : Addr) (he : Errs w s i y) (hs : SliceOf w v0 xs) (hs1 : SliceOf w v1 ys) (hn : xs.length ≤ 1048576) (hny : ys.length ≤ 1048576) :
    Calls Tryd.prog 20 #[v0, v1] w fun e w' => e = .returned (.tuple #[.bool (ssR xs ys), .int .i64 (boC xs ys)]) ∧ Below w.heap.size w w' := by
  have LC := Lib.hid (compare_any v0 v1 xs ys wf wfy w s i y he hs hs1 hn hny)
  obtain ⟨A0, c0, rfl, -⟩ := hs
  obtain ⟨A1, c1, rfl, -⟩ := hs1
  clear he wf wfy hn hny
  by_cases hq : boC xs ys = 0
  · have E := Lib.hid (show ssR xs ys = (decide ((miR xs ys).length = 0) && decide ((foR xs ys).length = 0)) by unfold ssR miR foR; rw [if_pos hq, if_pos hq, if_pos hq]; exact stk_both xs ys)
    rw [hq] at LC ⊢
    clear hq
    go_enter Tryd.func20, Tryd.ntmps20
    go_wp2_with fail
    refine LC.out.mono ?_
    rintro e w1 ⟨u1, u2, rfl, hu1, hu2, h1⟩
    obtain ⟨A2, k2, rfl, -⟩ := hu1.slice
    obtain ⟨A3, k3, rfl, -⟩ := hu2.slice
    clear hu1 hu2
    generalize (miR xs ys).length = m1 at *
    generalize (foR xs ys).length = m2 at *
    by_cases h1z : m1 = 0
    · have d1 : ((m1 : Int) == 0) = true := by rw [h1z]; rfl
      by_cases h2z : m2 = 0
      · have d2 : ((m2 : Int) == 0) = true := by rw [h2z]; rfl
        have E2 := Lib.hid (show ssR xs ys = true by rw [E.out, decide_eq_true h1z, decide_eq_true h2z]; rfl)
        clear h1z h2z
        go_wp2
        go_ret2
        exact ⟨by rw [E2.out]; rfl, h1⟩
      · have d2 : ((m2 : Int) == 0) = false := by simp; omega
        have E2 := Lib.hid (show ssR xs ys = false by rw [E.out, decide_eq_false h2z]; simp)
        clear h1z h2z
        go_wp2
        go_ret2
        exact ⟨by rw [E2.out]; rfl, h1⟩
    · have d1 : ((m1 : Int) == 0) = false := by simp; omega
      have E2 := Lib.hid (show ssR xs ys = false by rw [E.out, decide_eq_false h1z]; rfl)
      clear h1z
      go_wp2
      go_ret2
      exact ⟨by rw [E2.out]; rfl, h1⟩
  · have E := Lib.hid (show ssR xs ys = false by unfold ssR; rw [if_neg hq])
    generalize boC xs ys = q at *
    have d1 : (q == 0) = false := by simpa using hq
    have d2 : (q != 0) = true := by simpa using hq
    clear hq
    go_enter Tryd.func20, Tryd.ntmps20
    go_wp2_with fail
    refine LC.out.mono ?_
    rintro e w1 ⟨u1, u2, rfl, hu1, hu2, h1⟩
    obtain ⟨A2, k2, rfl, -⟩ := hu1.slice
    obtain ⟨A3, k3, rfl, -⟩ := hu2.slice
    clear hu1 hu2
    go_wp2
    go_ret2
    exact ⟨by rw [E.out]; rfl, h1⟩
end Go.Proofs.YtgfffbnodinkcabDoor
