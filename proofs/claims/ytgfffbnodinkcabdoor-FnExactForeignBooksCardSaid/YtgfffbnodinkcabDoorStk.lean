/- What one list of books has more often than another one, as plain data. No condition. -/
import Derived.Test.YtgfffbnodinkcabDoorBooksOk
namespace Go.Proofs.YtgfffbnodinkcabDoor
set_option linter.unusedSimpArgs false
set_option linter.unusedVariables false
set_option maxRecDepth 100000
open Go.RowKit

/-- The books of the first k that a list has more often than another one. -/
def moreTo (xs ys : List Bk) : Nat → List Bk
  | 0 => []
  | k + 1 => if ys.count (xs.getD k default) ≤ (xs.take k).count (xs.getD k default) then moreTo xs ys k ++ [xs.getD k default] else moreTo xs ys k
def more (xs ys : List Bk) : List Bk := moreTo xs ys xs.length
theorem getD_at {xs : List Bk} {k : Nat} (h : k < xs.length) : xs.getD k default = xs[k] := by simp [List.getD, List.getElem?_eq_getElem h]
theorem more_yes {xs ys : List Bk} {k : Nat} (hk : k < xs.length) (h : ys.count xs[k] ≤ (xs.take k).count xs[k]) : moreTo xs ys (k + 1) = moreTo xs ys k ++ [xs[k]] := by
  rw [moreTo, getD_at hk, if_pos h]
theorem more_no {xs ys : List Bk} {k : Nat} (hk : k < xs.length) (h : ¬ ys.count xs[k] ≤ (xs.take k).count xs[k]) : moreTo xs ys (k + 1) = moreTo xs ys k := by
  rw [moreTo, getD_at hk, if_neg h]
theorem moreTo_len (xs ys : List Bk) : ∀ k, (moreTo xs ys k).length ≤ k
  | 0 => Nat.le_refl _
  | k + 1 => by
    have ih := moreTo_len xs ys k
    rw [moreTo]
    split
    · simp; omega
    · omega
theorem more_len (xs ys : List Bk) : (more xs ys).length ≤ xs.length := moreTo_len xs ys _
/-- What is left of each book in the stock of ys when the first k books of xs have been taken. -/
def leftAt (xs ys : List Bk) (k : Nat) (b : Bk) : Nat := ys.count b - (xs.take k).count b
theorem left_zero (xs ys : List Bk) (b : Bk) : leftAt xs ys 0 b = ys.count b := by simp [leftAt]
theorem take_count {xs : List Bk} {k : Nat} (hk : k < xs.length) (b : Bk) : (xs.take (k + 1)).count b = (xs.take k).count b + (if xs[k] = b then 1 else 0) := by
  rw [List.take_succ_eq_append_getElem hk, List.count_append, List.count_singleton]
  simp only [beq_iff_eq]
theorem left_other {xs ys : List Bk} {k : Nat} (hk : k < xs.length) {b : Bk} (h : xs[k] ≠ b) : leftAt xs ys (k + 1) b = leftAt xs ys k b := by
  unfold leftAt
  rw [take_count hk, if_neg h]
  rfl
theorem left_same {xs ys : List Bk} {k : Nat} (hk : k < xs.length) : leftAt xs ys (k + 1) xs[k] = leftAt xs ys k xs[k] - 1 := by
  unfold leftAt
  rw [take_count hk, if_pos rfl]
  omega
theorem left_none {xs ys : List Bk} {k : Nat} (hk : k < xs.length) : leftAt xs ys k xs[k] = 0 ↔ ys.count xs[k] ≤ (xs.take k).count xs[k] := by
  unfold leftAt
  omega
theorem moreTo_nil {xs ys : List Bk} : ∀ k, k ≤ xs.length → (moreTo xs ys k = [] ↔ ∀ b, (xs.take k).count b ≤ ys.count b)
  | 0, _ => by simp [moreTo]
  | k + 1, h => by
    have ih := moreTo_nil (xs := xs) (ys := ys) k (by omega)
    have hk : k < xs.length := by omega
    by_cases hm : ys.count xs[k] ≤ (xs.take k).count xs[k]
    · rw [more_yes hk hm]
      constructor
      · intro h; simp at h
      · intro h
        have := h xs[k]
        rw [take_count hk, if_pos rfl] at this
        omega
    · rw [more_no hk hm, ih]
      constructor
      · intro h b
        rw [take_count hk]
        by_cases e : xs[k] = b
        · subst e; rw [if_pos rfl]; omega
        · rw [if_neg e]; exact h b
      · intro h b
        have := h b
        rw [take_count hk] at this
        omega
theorem more_nil {xs ys : List Bk} : more xs ys = [] ↔ ∀ b, xs.count b ≤ ys.count b := by
  have := moreTo_nil (xs := xs) (ys := ys) xs.length (Nat.le_refl _)
  rw [List.take_length] at this
  exact this
theorem count_le_len : ∀ (xs ys : List Bk), (∀ b, xs.count b ≤ ys.count b) → xs.length ≤ ys.length ∧ (xs.length = ys.length → ∀ b, ys.count b ≤ xs.count b)
  | [], ys, _ => ⟨by simp, fun h b => by rw [List.eq_nil_of_length_eq_zero h.symm]; exact Nat.le_refl _⟩
  | x :: t, ys, h => by
    have hx : x ∈ ys := by
      have := h x
      rw [List.count_cons_self] at this
      exact List.count_pos_iff.1 (by omega)
    have hl := List.length_erase_of_mem hx
    have hp : 0 < ys.length := List.length_pos_of_mem hx
    have ht : ∀ b, t.count b ≤ (ys.erase x).count b := fun b => by
      have := h b
      rw [List.count_cons] at this
      rw [List.count_erase]
      split at this <;> rename_i e
      · rw [if_pos (by simpa [BEq.comm] using e)]; omega
      · rw [if_neg (by simpa [BEq.comm] using e)]; omega
    obtain ⟨i1, i2⟩ := count_le_len t (ys.erase x) ht
    refine ⟨by simp only [List.length_cons]; omega, fun e b => ?_⟩
    have := i2 (by simp only [List.length_cons] at e; omega) b
    rw [List.count_erase] at this
    rw [List.count_cons]
    split at this <;> rename_i e
    · rw [if_pos (by simpa [BEq.comm] using e)]; omega
    · rw [if_neg (by simpa [BEq.comm] using e)]; omega
/-- Both lists have the same stock. -/
def stkB (xs ys : List Bk) : Bool := decide (xs.length = ys.length) && decide ((more xs ys).length = 0)
theorem stk_both (xs ys : List Bk) : stkB xs ys = (decide ((more xs ys).length = 0) && decide ((more ys xs).length = 0)) := by
  unfold stkB
  by_cases h1 : more xs ys = []
  · have h1' := more_nil.1 h1
    obtain ⟨_, c2⟩ := count_le_len xs ys h1'
    by_cases h2 : xs.length = ys.length
    · have h3 : more ys xs = [] := more_nil.2 (c2 h2)
      simp [h1, h2, h3]
    · have h3 : more ys xs ≠ [] := fun e => h2 (by
        have a := (count_le_len xs ys h1').1
        have b := (count_le_len ys xs (more_nil.1 e)).1
        omega)
      have h4 : (more ys xs).length ≠ 0 := fun e => h3 (List.eq_nil_of_length_eq_zero e)
      simp [h2, h4]
  · have h4 : (more xs ys).length ≠ 0 := fun e => h1 (List.eq_nil_of_length_eq_zero e)
    simp [h4]
end Go.Proofs.YtgfffbnodinkcabDoor
