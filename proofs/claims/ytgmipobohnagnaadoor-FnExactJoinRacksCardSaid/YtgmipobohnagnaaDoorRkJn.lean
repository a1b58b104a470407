/- JoinRacks, as plain data and by the program: contracts. Condition: at most 1048576 books, whose numbers lie within their kinds; the two error variables hold errors of errors.New's make. -/
import Derived.Test.YtgmipobohnagnaaDoorRkZb
import Derived.Test.YtgmipobohnagnaaDoorRkP3
import Derived.Test.YtgmipobohnagnaaDoorCatP
import Derived.Test.YtgmipobohnagnaaDoorResN
namespace Go.Proofs.YtgmipobohnagnaaDoor
set_option linter.unusedSimpArgs false
set_option linter.unusedVariables false
set_option maxRecDepth 100000
open Go.RowKit Go.Sort

/-- The first book behind comes ahead of the last one before. -/
def jnB (xs ys : List Bk) : Bool := decide (0 < xs.length) && (decide (0 < ys.length) && decide (usual (ys.getD 0 default) (xs.getD (xs.length - 1) default) < 0))
theorem outAt_left {xs ys : List Bk} {i : Nat} (h1 : 1 ≤ i) (h : i < xs.length) : outAt (xs ++ ys) i = outAt xs i := by
  unfold outAt
  simp only [List.getD_eq_getElem?_getD]
  rw [List.getElem?_append_left h, List.getElem?_append_left (by omega)]
theorem outAt_right {xs ys : List Bk} {i : Nat} (h1 : 1 ≤ i) : outAt (xs ++ ys) (xs.length + i) = outAt ys i := by
  unfold outAt
  simp only [List.getD_eq_getElem?_getD]
  rw [List.getElem?_append_right (by omega), List.getElem?_append_right (by omega), show xs.length + i - xs.length = i by omega, show xs.length + i - 1 - xs.length = i - 1 by omega]
theorem outAt_mid {xs ys : List Bk} (h1 : 0 < xs.length) (h2 : 0 < ys.length) : outAt (xs ++ ys) xs.length = jnB xs ys := by
  unfold outAt jnB
  rw [decide_eq_true h1, decide_eq_true h2, Bool.true_and, Bool.true_and]
  simp only [List.getD_eq_getElem?_getD]
  rw [List.getElem?_append_right (Nat.le_refl _), List.getElem?_append_left (by omega), Nat.sub_self]
theorem jn_none {xs ys : List Bk} (hx : NoneTo xs xs.length) (hy : NoneTo ys ys.length) (h : jnB xs ys = false) : NoneTo (xs ++ ys) (xs ++ ys).length := by
  intro i h1 h2
  rw [List.length_append] at h2
  by_cases e : i < xs.length
  · rw [outAt_left h1 e]
    exact hx i h1 e
  · by_cases e2 : i = xs.length
    · subst e2
      rw [outAt_mid (by omega) (by omega)]
      exact h
    · obtain ⟨j, rfl⟩ : ∃ j, i = xs.length + j := ⟨i - xs.length, by omega⟩
      rw [outAt_right (by omega)]
      exact hy j (by omega) (by omega)
theorem jn_some {xs ys : List Bk} (hx : NoneTo xs xs.length) (h : jnB xs ys = true) : ∃ r, runs (xs ++ ys) = 0 :: (xs.length : Int) :: r := by
  have h' := h
  unfold jnB at h'
  simp only [Bool.and_eq_true, decide_eq_true_eq] at h'
  refine runs_out (k := xs.length) (by omega) (by rw [List.length_append]; omega) (fun i h1 h2 => ?_) ?_
  · rw [outAt_left h1 h2]
    exact hx i h1 h2
  · rw [outAt_mid h'.1 h'.2.1]
    exact h
theorem none_of_out {xs : List Bk} (h : firstOut xs < 0) : NoneTo xs xs.length := by
  rcases none_or xs xs.length with hno | ⟨k, k1, k2, k3, k4⟩
  · exact hno
  · rw [firstOut_at k3 k1 k2 k4] at h
    omega
noncomputable def jnC (r s : Rk) : Int := if rkB r && rkB s then (if jnB (bks r.ps) (bks s.ps) then 4 else (if r.n + s.n ≤ 60 then 0 else 3)) else 1
noncomputable def jnN (r s : Rk) : Int := if jnC r s = 0 then r.n + s.n else 0
noncomputable def jnL (r s : Rk) : List Pl := if jnC r s = 0 then r.ps ++ shL s.ps r.n else []
theorem jnL_len (r s : Rk) : (jnL r s).length ≤ r.ps.length + s.ps.length := by
  unfold jnL
  split
  · simp [shL]
  · simp
theorem jn_cases (r s : Rk) : (rkB r = false ∧ jnN r s = 0 ∧ jnL r s = [] ∧ jnC r s = 1) ∨ (rkB r = true ∧ rkB s = false ∧ jnN r s = 0 ∧ jnL r s = [] ∧ jnC r s = 1) ∨
    (rkB r = true ∧ rkB s = true ∧ jnB (bks r.ps) (bks s.ps) = true ∧ jnN r s = 0 ∧ jnL r s = [] ∧ jnC r s = 4) ∨ (rkB r = true ∧ rkB s = true ∧ jnB (bks r.ps) (bks s.ps) = false ∧ ¬ r.n + s.n ≤ 60 ∧ jnN r s = 0 ∧ jnL r s = [] ∧ jnC r s = 3) ∨
    (rkB r = true ∧ rkB s = true ∧ jnB (bks r.ps) (bks s.ps) = false ∧ r.n + s.n ≤ 60 ∧ jnN r s = r.n + s.n ∧ jnL r s = r.ps ++ shL s.ps r.n ∧ jnC r s = 0) := by
  unfold jnN jnL
  cases h1 : rkB r
  · refine .inl ⟨rfl, ?_⟩
    rw [show jnC r s = 1 by unfold jnC; rw [h1]; rfl]
    exact ⟨rfl, rfl, rfl⟩
  · cases h2 : rkB s
    · refine .inr (.inl ⟨rfl, rfl, ?_⟩)
      rw [show jnC r s = 1 by unfold jnC; rw [h1, h2]; rfl]
      exact ⟨rfl, rfl, rfl⟩
    · cases h3 : jnB (bks r.ps) (bks s.ps)
      · by_cases h4 : r.n + s.n ≤ 60
        · refine .inr (.inr (.inr (.inr ⟨rfl, rfl, rfl, h4, ?_⟩)))
          rw [show jnC r s = 0 by unfold jnC; rw [h1, h2, h3]; simp [h4]]
          exact ⟨rfl, rfl, rfl⟩
        · refine .inr (.inr (.inr (.inl ⟨rfl, rfl, rfl, h4, ?_⟩)))
          rw [show jnC r s = 3 by unfold jnC; rw [h1, h2, h3]; simp [h4]]
          exact ⟨rfl, rfl, rfl⟩
      · refine .inr (.inr (.inl ⟨rfl, rfl, rfl, ?_⟩))
        rw [show jnC r s = 4 by unfold jnC; rw [h1, h2, h3]; rfl]
        exact ⟨rfl, rfl, rfl⟩
theorem flN_app {α : Type} {cel : α → List Value} (xs ys : List α) : flN cel (xs ++ ys) = flN cel xs ++ flN cel ys := by unfold flN; rw [List.flatMap_append]
theorem bks_join (ps qs : List Pl) (a : Int) : bks (ps ++ shL qs a) = bks ps ++ bks qs := by
  unfold bks shL
  rw [List.map_append, List.map_map]
  rfl
theorem flN_len (xs : List Pc) : (flN Pc.cells xs).length = xs.length * 9 := by
  induction xs with
  | nil => rfl
  | cons x t ih =>
    show (x.cells ++ flN Pc.cells t).length = _
    rw [List.length_append, ih, Pc.nine, List.length_cons]
    omega
theorem flN_one (xs : List Pc) : ∀ u ∈ flN Pc.cells xs, u.oneCell' = true := by
  intro u hu
  unfold flN at hu
  rw [List.mem_flatMap] at hu
  obtain ⟨x, _, h⟩ := hu
  simp [Pc.cells] at h
  rcases h with rfl | rfl | rfl | rfl | rfl | rfl | rfl | rfl | rfl <;> rfl
theorem RowN.flat {t : TypeId} {w : World} {g n : Nat} {xs : List Pc} (h : RowN Pc.cells t w g xs n n) (e : xs.length = n) : SlOk 9 w ⟨g, 0, n, n, flN Pc.cells xs⟩ := by
  subst e
  refine ⟨h.lt, flN_len xs, fun j u hj => ?_, flN_one xs⟩
  have hj2 : j < xs.length * 9 := by rw [← flN_len]; exact (List.getElem?_eq_some_iff.1 hj).1
  have e := flN_at (cel := Pc.cells) Pc.nine xs (j / 9) (by omega) (j % 9) (Nat.mod_lt _ (by omega))
  rw [show j / 9 * 9 + j % 9 = j by omega] at e
  have e2 := h.at_ (j / 9) (by omega) (j % 9) u (by rw [← e]; exact hj)
  simp only
  rw [show 0 + j = 0 + j / 9 * 9 + j % 9 by omega]
  exact e2
end Go.Proofs.YtgmipobohnagnaaDoor
