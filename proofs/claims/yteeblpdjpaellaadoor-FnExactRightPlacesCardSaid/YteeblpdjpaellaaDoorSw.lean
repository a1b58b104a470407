/- One exchange that puts a shelf right, as plain data. No condition. -/
import Derived.Test.YteeblpdjpaellaaDoorFew
namespace Go.Proofs.YteeblpdjpaellaaDoor
set_option linter.unusedSimpArgs false
set_option linter.unusedVariables false
set_option maxRecDepth 100000
open Go.RowKit

/-- The places below k at which two lists differ. -/
def dfTo (xs ys : List Bk) : Nat → List Nat
  | 0 => []
  | k + 1 => if ys.getD k default = xs.getD k default then dfTo xs ys k else dfTo xs ys k ++ [k]
def dfL (xs ys : List Bk) : List Nat := dfTo xs ys ys.length
/-- Two books exchanged. -/
def swp (ys : List Bk) (i j : Nat) : List Bk := (ys.set i (ys.getD j default)).set j (ys.getD i default)
theorem swp_len (ys : List Bk) (i j : Nat) : (swp ys i j).length = ys.length := by simp [swp]
theorem swp_at (ys : List Bk) (i j k : Nat) (hk : k < ys.length) : (swp ys i j).getD k default = if k = j then ys.getD i default else if k = i then ys.getD j default else ys.getD k default := by
  unfold swp
  rw [List.getD_eq_getElem?_getD (l := List.set _ _ _), List.getElem?_set]
  by_cases h1 : j = k
  · rw [if_pos h1, if_pos (by simpa using h1 ▸ hk), if_pos h1.symm]; rfl
  · rw [if_neg h1, if_neg (fun h => h1 h.symm), List.getElem?_set]
    by_cases h2 : i = k
    · rw [if_pos h2, if_pos (h2 ▸ hk), if_pos h2.symm]; rfl
    · rw [if_neg h2, if_neg (fun h => h2 h.symm), List.getD_eq_getElem?_getD]
theorem ext_getD {xs ys : List Bk} (hl : xs.length = ys.length) (h : ∀ k, k < ys.length → xs.getD k default = ys.getD k default) : xs = ys := by
  refine List.ext_getElem hl fun k h1 h2 => ?_
  have := h k h2
  rwa [getD_at h1, getD_at h2] at this
theorem df_mem (xs ys : List Bk) : ∀ n k, k ∈ dfTo xs ys n ↔ (k < n ∧ ys.getD k default ≠ xs.getD k default)
  | 0, k => by simp [dfTo]
  | n + 1, k => by
    rw [dfTo]
    split
    · rename_i he
      rw [df_mem xs ys n k]
      constructor
      · rintro ⟨a, b⟩; exact ⟨by omega, b⟩
      · rintro ⟨a, b⟩
        refine ⟨?_, b⟩
        by_cases e : k = n
        · subst e; exact absurd he b
        · omega
    · rename_i he
      rw [List.mem_append, df_mem xs ys n k, List.mem_singleton]
      constructor
      · rintro (⟨a, b⟩ | rfl)
        · exact ⟨by omega, b⟩
        · exact ⟨by omega, he⟩
      · rintro ⟨a, b⟩
        by_cases e : k = n
        · exact .inr e
        · exact .inl ⟨by omega, b⟩
theorem df_sorted (xs ys : List Bk) : ∀ n, (dfTo xs ys n).Pairwise (· < ·)
  | 0 => List.Pairwise.nil
  | n + 1 => by
    rw [dfTo]
    split
    · exact df_sorted xs ys n
    · rw [List.pairwise_append]
      refine ⟨df_sorted xs ys n, List.pairwise_singleton _ _, fun a ha b hb => ?_⟩
      rw [List.mem_singleton] at hb
      have := ((df_mem xs ys n a).1 ha).1
      omega
theorem df_len (xs ys : List Bk) : ∀ n, (dfTo xs ys n).length ≤ n
  | 0 => Nat.le_refl _
  | n + 1 => by
    have := df_len xs ys n
    rw [dfTo]
    split
    · omega
    · simp; omega
theorem two_of {L : List Nat} (hs : L.Pairwise (· < ·)) {i j : Nat} (hij : i < j) (hm : ∀ k, k ∈ L ↔ (k = i ∨ k = j)) : L = [i, j] := by
  match L, hs, hm with
  | [], _, hm => exact absurd ((hm i).2 (.inl rfl)) (by simp)
  | [a], _, hm =>
    have h1 := (hm i).2 (.inl rfl)
    have h2 := (hm j).2 (.inr rfl)
    rw [List.mem_singleton] at h1 h2
    omega
  | a :: b :: t, hs, hm =>
    rw [List.pairwise_cons, List.pairwise_cons] at hs
    obtain ⟨h1, h2, _⟩ := hs
    have hab := h1 b (by simp)
    have ha := (hm a).1 (by simp)
    have hb := (hm b).1 (by simp)
    have ht : t = [] := by
      match t with
      | [] => rfl
      | c :: t =>
        have hc := (hm c).1 (by simp)
        have := h2 c (by simp)
        omega
    subst ht
    have : a = i ∧ b = j := by omega
    rw [this.1, this.2]
/-- Whoever exchanges to the other list, finds the two differing places. -/
theorem swp_df {xs ys : List Bk} (hne : ys ≠ xs) {a b : Nat} (ha : a < ys.length) (hb : b < ys.length) (h : swp ys a b = xs) : (a < b ∧ dfL xs ys = [a, b]) ∨ (b < a ∧ dfL xs ys = [b, a]) := by
  have hv : ∀ k, k < ys.length → xs.getD k default = if k = b then ys.getD a default else if k = a then ys.getD b default else ys.getD k default := fun k hk => by rw [← h]; exact swp_at ys a b k hk
  have hd : ys.getD a default ≠ ys.getD b default := by
    intro e
    apply hne
    refine ext_getD (by rw [← h, swp_len]) fun k hk => ?_
    rw [← h, swp_len] at hk
    rw [hv k hk]
    split
    · rename_i e2; rw [e2]; exact e.symm
    · split
      · rename_i e2; rw [e2]; exact e
      · rfl
  have hm : ∀ k, k ∈ dfL xs ys ↔ (k = a ∨ k = b) := by
    intro k
    unfold dfL
    rw [df_mem]
    constructor
    · rintro ⟨hk, hn⟩
      rw [hv k hk] at hn
      by_cases e1 : k = a
      · exact .inl e1
      · by_cases e2 : k = b
        · exact .inr e2
        · rw [if_neg e2, if_neg e1] at hn
          exact absurd rfl hn
    · rintro (rfl | rfl)
      · refine ⟨ha, ?_⟩
        rw [hv k ha]
        split
        · rename_i e; subst e; exact absurd rfl hd
        · rw [if_pos rfl]; exact hd
      · refine ⟨hb, ?_⟩
        rw [hv k hb, if_pos rfl]
        exact fun e => hd e.symm
  have hab : a ≠ b := fun e => hd (by rw [e])
  have hs := df_sorted xs ys ys.length
  rcases Nat.lt_or_gt_of_ne hab with hlt | hgt
  · exact .inl ⟨hlt, two_of hs hlt hm⟩
  · exact .inr ⟨hgt, two_of hs hgt (fun k => (hm k).trans Or.comm)⟩
theorem swp_comm (ys : List Bk) (i j : Nat) : swp ys i j = swp ys j i := by
  refine ext_getD (by rw [swp_len, swp_len]) fun k hk => ?_
  rw [swp_len] at hk
  rw [swp_at ys i j k hk, swp_at ys j i k hk]
  by_cases h1 : k = j
  · by_cases h2 : k = i
    · rw [if_pos h1, if_pos h2, ← h1, ← h2]
    · rw [if_pos h1, if_neg h2, if_pos h1]
  · by_cases h2 : k = i
    · rw [if_neg h1, if_pos h2, if_pos h2]
    · rw [if_neg h1, if_neg h2, if_neg h2, if_neg h1]
/-- Two lists with the same stock that differ in two places alone: the exchange makes one into the other. -/
theorem df_swp {xs ys : List Bk} (hl : xs.length = ys.length) (hc : ∀ b, xs.count b = ys.count b) {i j : Nat} (h : dfL xs ys = [i, j]) : i < j ∧ j < ys.length ∧ swp ys i j = xs := by
  have hs := df_sorted xs ys ys.length
  have hm := df_mem xs ys ys.length
  have h' : dfTo xs ys ys.length = [i, j] := h
  rw [h'] at hs
  simp only [h'] at hm
  have hij : i < j := by
    rw [List.pairwise_cons] at hs
    exact hs.1 j (by simp)
  obtain ⟨hi, ni⟩ := (hm i).1 (by simp)
  obtain ⟨hj, nj⟩ := (hm j).1 (by simp)
  have same : ∀ k, k < ys.length → k ≠ i → k ≠ j → ys.getD k default = xs.getD k default := fun k hk h1 h2 => by
    by_cases e : ys.getD k default = xs.getD k default
    · exact e
    · have := (hm k).2 ⟨hk, e⟩
      simp only [List.mem_cons, List.not_mem_nil, or_false] at this
      omega
  have ex : xs = (ys.set i (xs.getD i default)).set j (xs.getD j default) := by
    refine ext_getD (by simp [hl]) fun k hk => ?_
    simp only [List.length_set] at hk
    rw [List.getD_eq_getElem?_getD (l := List.set _ _ _), List.getElem?_set, List.getElem?_set]
    by_cases h1 : j = k
    · subst h1; simp [hk]
    · rw [if_neg h1]
      by_cases h2 : i = k
      · subst h2; simp [hk]
      · rw [if_neg h2, ← List.getD_eq_getElem?_getD]
        exact (same k hk (fun e => h2 e.symm) (fun e => h1 e.symm)).symm
  have cs : ∀ b, xs.count b = ys.count b - (if ys.getD i default = b then 1 else 0) + (if xs.getD i default = b then 1 else 0) - (if ys.getD j default = b then 1 else 0) + (if xs.getD j default = b then 1 else 0) := by
    intro b
    have hj2 : j < (ys.set i (xs.getD i default)).length := by simpa using hj
    have e1 : (ys.set i (xs.getD i default))[j] = ys.getD j default := by
      rw [List.getElem_set, if_neg (by omega), getD_at hj]
    conv => lhs; rw [ex]
    rw [List.count_set hj2, List.count_set hi, e1, ← getD_at hi]
    simp only [beq_iff_eq]
  have pos : ∀ b k, k < ys.length → ys.getD k default = b → 1 ≤ ys.count b := fun b k hk e => by
    rw [← e, getD_at hk]
    exact List.count_pos_iff.2 (List.getElem_mem hk)
  generalize ei : ys.getD i default = yi at *
  generalize ej : ys.getD j default = yj at *
  have c1 := cs (xs.getD i default)
  have c2 := cs yi
  rw [hc] at c1 c2
  have p2 := pos yi i hi ei
  generalize exi : xs.getD i default = xi at *
  generalize exj : xs.getD j default = xj at *
  rw [if_neg ni, if_pos rfl] at c1
  rw [if_pos rfl, if_neg (fun e => ni e.symm)] at c2
  have g1 : yj = xi := by
    by_cases e : yj = xi
    · exact e
    · rw [if_neg e] at c1
      omega
  have g2 : xj = yi := by
    by_cases e : xj = yi
    · exact e
    · rw [if_neg e] at c2
      split at c2 <;> omega
  refine ⟨hij, hj, ?_⟩
  unfold swp
  rw [ei, ej, g1, ex, g2]
end Go.Proofs.YteeblpdjpaellaaDoor
