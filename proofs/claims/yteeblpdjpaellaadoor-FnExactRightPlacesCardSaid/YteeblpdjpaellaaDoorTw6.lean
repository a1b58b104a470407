/- Where each book should stand, by the program: a contract. Condition: the three error variables hold three different errors of errors.New's make; at most 1048576 books, whose numbers lie within their kinds. -/
import Derived.Test.YteeblpdjpaellaaDoorTw5
import Derived.Test.YteeblpdjpaellaaDoorTw2
namespace Go.Proofs.YteeblpdjpaellaaDoor
set_option linter.unusedSimpArgs false
set_option linter.unusedVariables false
set_option maxRecDepth 100000
open Go.RowKit Go.MapKept

set_option maxHeartbeats 4000000 in
theorem rightPlaces_any (v0 v1 : Value) (xs ys : List Bk) (wf : ∀ b ∈ xs, b.Wf) (wfy : ∀ b ∈ ys, b.Wf) (w : World) (s i y : Addr) (he : Errs w s i y) (hs : SliceOf w v0 xs) (hs1 : SliceOf w v1 ys) (hn : xs.length ≤ 1048576) (hny : ys.length ≤ 1048576) :
    Calls Tryd.prog 9 #[v0, v1] w fun e w' => ∃ u, e = .returned (.tuple #[u, .int .i64 (saC xs ys)]) ∧ w'.ownsRow w.heap.size 2 1 u (rpL xs ys).length ((rpL xs ys).map (Value.int .i64)) ∧ Below w.heap.size w w' := by
  have LC := Lib.hid (checkSame_any v0 v1 xs ys wf wfy w s i y he hs hs1 hn hny)
  have LT := Lib.hid (fun W (h : SliceOf W v0 xs) (h1 : SliceOf W v1 ys) hx hw => takeInTurn_any v0 v1 xs ys wf wfy W h h1 hx hw)
  have NIL := Lib.hid (fun (W : World) => show W.ownsRow w.heap.size 2 1 (.slice none 0 0) 0 [] from ⟨rfl, .inl ⟨rfl, rfl⟩⟩)
  have SL := Lib.hid hs
  have SW := Lib.hid hs1
  obtain ⟨A, c, rfl, -⟩ := hs
  obtain ⟨A1, c1, rfl, -⟩ := hs1
  clear wf wfy he
  rcases rp_cases xs ys with ⟨hq, e1⟩ | ⟨hq, e1, htk, x60, y60⟩
  · rw [e1]
    clear e1
    generalize saC xs ys = q at *
    have d2 : (q == 0) = false := by simpa using hq
    go_enter Tryd.func9, Tryd.ntmps9
    go_wp2_with fail
    refine LC.out.mono ?_
    rintro e w1 ⟨rfl, h1⟩
    go_wp2
    go_ret2
    exact ⟨_, rfl, NIL.out _, h1⟩
  · have TK := Lib.hid htk
    have E := Lib.hid e1
    rw [hq] at LC ⊢
    clear htk e1 hq
    go_enter Tryd.func9, Tryd.ntmps9
    go_wp2_with fail
    refine LC.out.mono ?_
    rintro e w1 ⟨rfl, h1⟩
    go_wp2_with fail
    refine (LT.out _ (SL.out.below h1) (SW.out.below h1) x60 y60).mono ?_
    rintro e w3 ⟨u, t, rfl, hr, h3⟩
    have B3 := Lib.hid (bnext h1 h3)
    have zz := h1.size
    rcases hr with ⟨h4, rfl, h5⟩ | ⟨h4, rfl⟩
    · have O5 := Lib.hid (own_low h5 zz)
      clear h4 h5 h3 h1
      go_wp2
      go_ret2
      exact ⟨_, rfl, by rw [E.out]; exact O5.out, B3.out⟩
    · exact absurd TK.out h4
end Go.Proofs.YteeblpdjpaellaaDoor
