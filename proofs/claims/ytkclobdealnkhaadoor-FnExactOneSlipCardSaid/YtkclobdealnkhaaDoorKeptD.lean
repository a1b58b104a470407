/- The books that are kept, as plain data. No condition. -/
import Derived.Test.YtkclobdealnkhaaDoorUse
namespace Go.Proofs.YtkclobdealnkhaaDoor
set_option linter.unusedSimpArgs false
set_option linter.unusedVariables false
set_option maxRecDepth 100000
open Go.RowKit

/-- For each book, the most books that can be kept of which it is the first one. -/
def backs (xs : List Bk) : List Int := (chains (geP xs.reverse) xs.length).reverse
theorem backs_length (xs : List Bk) : (backs xs).length = xs.length := by
  unfold backs
  rw [List.length_reverse, chains_length]
theorem getD_reverse {l : List Int} {k : Nat} (h : k < l.length) : l.reverse.getD k 0 = l.getD (l.length - 1 - k) 0 := by
  rw [List.getD_eq_getElem?_getD, List.getElem?_reverse h, List.getD_eq_getElem?_getD]
theorem backs_bd (xs : List Bk) {k : Nat} (h : k < xs.length) : 1 ≤ (backs xs).getD k 0 ∧ (backs xs).getD k 0 ≤ xs.length := by
  unfold backs
  rw [getD_reverse (by rw [chains_length]; exact h), chains_length]
  exact ⟨chains_pos _ _ _ (by omega), (chains_bd _ _ _).2⟩
def mostOf (xs : List Bk) : Int := mostTo (fun _ => true) (backs xs) xs.length
theorem mostTo_all_bd (xs : List Bk) : ∀ k, k ≤ xs.length → 0 ≤ mostTo (fun _ => true) (backs xs) k ∧ mostTo (fun _ => true) (backs xs) k ≤ xs.length
  | 0, _ => by simp [mostTo]
  | k + 1, h => by
    have ih := mostTo_all_bd xs k (by omega)
    have hk := backs_bd xs (k := k) (by omega)
    rw [mostTo, if_pos rfl]
    omega

/-- The book at i is taken behind those that are kept. -/
def takeB (xs : List Bk) (ks : List Nat) (i : Nat) : Bool := decide ((backs xs).getD i 0 = mostOf xs - (ks.length : Int)) && (decide (ks.length = 0) || decide (keyU (xs.getD (ks.getLastD 0) default) ≤ keyU (xs.getD i default)))
def keptTo (xs : List Bk) : Nat → List Nat
  | 0 => []
  | i + 1 => if takeB xs (keptTo xs i) i then keptTo xs i ++ [i] else keptTo xs i
def keptL (xs : List Bk) : List Int := (keptTo xs xs.length).map fun n : Nat => (n : Int)

theorem keptTo_lt (xs : List Bk) : ∀ i, ∀ k ∈ keptTo xs i, k < i
  | 0, k, h => by simp [keptTo] at h
  | i + 1, k, h => by
    rw [keptTo] at h
    split at h
    · rcases List.mem_append.1 h with h | h
      · have := keptTo_lt xs i k h; omega
      · have := List.mem_singleton.1 h; omega
    · have := keptTo_lt xs i k h; omega
theorem keptTo_len (xs : List Bk) : ∀ i, (keptTo xs i).length ≤ i
  | 0 => Nat.le_refl _
  | i + 1 => by
    have ih := keptTo_len xs i
    rw [keptTo]
    split <;> simp <;> omega
theorem keptL_len (xs : List Bk) : (keptL xs).length ≤ xs.length := by
  unfold keptL
  rw [List.length_map]
  exact keptTo_len xs xs.length
theorem last_lt (xs : List Bk) (i : Nat) (h : 0 < (keptTo xs i).length) : (keptTo xs i).getLastD 0 < i := by
  have hne : keptTo xs i ≠ [] := by intro e; rw [e] at h; simp at h
  rw [List.getLastD_eq_getLast?, List.getLast?_eq_some_getLast hne]
  exact keptTo_lt xs i _ (List.getLast_mem hne)
theorem kept_take {xs : List Bk} {i : Nat} {ks : List Nat} (h : ks = keptTo xs i) (ht : takeB xs ks i = true) : ks ++ [i] = keptTo xs (i + 1) := by
  rw [keptTo, ← h, if_pos ht]
theorem kept_leave {xs : List Bk} {i : Nat} {ks : List Nat} (h : ks = keptTo xs i) (ht : takeB xs ks i = false) : ks = keptTo xs (i + 1) := by
  rw [keptTo, ← h, if_neg (by rw [ht]; simp)]
theorem kept_stop {xs : List Bk} {i : Nat} (h : mostOf xs - ((keptTo xs i).length : Int) ≤ 0) : ∀ d, i + d ≤ xs.length → keptTo xs (i + d) = keptTo xs i
  | 0, _ => rfl
  | d + 1, hd => by
    have ih := kept_stop h d (by omega)
    have hb := backs_bd xs (k := i + d) (by omega)
    rw [show i + (d + 1) = (i + d) + 1 by omega, keptTo, ih, if_neg]
    unfold takeB
    rw [decide_eq_false (by omega)]
    simp

/-- A row of n numbers, the last m of which are the chains', from the end on, the others 0. -/
def bakR (P : Nat → Nat → Bool) (n m : Nat) : List Int := List.replicate (n - m) 0 ++ (chains P m).reverse
theorem bakR_zero (P : Nat → Nat → Bool) (n : Nat) : bakR P n 0 = rowR P n 0 := by
  unfold bakR
  rw [rowR_zero]
  simp [chains]
theorem bakR_all (xs : List Bk) : bakR (geP xs.reverse) xs.length xs.length = backs xs := by
  unfold bakR backs
  simp
theorem bakR_set (P : Nat → Nat → Bool) {n m i : Nat} (h : i + 1 + m = n) :
    ((bakR P n m).map (Value.int .i64)).set i (.int .i64 (mostTo (P m) (chains P m) m + 1)) = (bakR P n (m + 1)).map (Value.int .i64) := by
  unfold bakR
  rw [show n - m = i + 1 by omega, show n - (m + 1) = i by omega, chains, List.reverse_append, List.replicate_succ', List.append_assoc, List.map_append, List.map_append, List.set_append_right _ _ (by simp)]
  simp
theorem bakR_at (P : Nat → Nat → Bool) {n m k t : Nat} (h : k + 1 + t = n) (ht : t < m) (hm : m ≤ n) : ((bakR P n m).map (Value.int .i64))[k]? = some (.int .i64 ((chains P m).getD t 0)) := by
  have hl := chains_length P m
  unfold bakR
  rw [List.map_append, List.getElem?_append_right (by simp; omega), List.length_map, List.length_replicate, List.getElem?_map, List.getElem?_reverse (by omega), List.getD_eq_getElem?_getD]
  rw [show (chains P m).length - 1 - (k - (n - m)) = t by omega, List.getElem?_eq_getElem (by omega)]
  rfl
theorem bakR_has (P : Nat → Nat → Bool) {n m k : Nat} (hk : k < n) (hm : m ≤ n) : ∃ u, ((bakR P n m).map (Value.int .i64))[k]? = some u := by
  refine ⟨_, List.getElem?_eq_getElem ?_⟩
  unfold bakR
  simp [chains_length]
  omega
theorem getD_revB {xs : List Bk} {i m : Nat} (h : i + 1 + m = xs.length) : xs.reverse.getD m default = xs.getD i default := by
  rw [List.getD_eq_getElem?_getD, List.getElem?_reverse (by omega), List.getD_eq_getElem?_getD, show xs.length - 1 - m = i by omega]
theorem geP_rev {xs : List Bk} (wf : ∀ b ∈ xs, b.Wf) {i k m t : Nat} (hi : i + 1 + m = xs.length) (hk : k + 1 + t = xs.length) : geP xs.reverse m t = decide (0 ≤ usual (xs[k]'(by omega)) (xs[i]'(by omega))) := by
  unfold geP
  rw [getD_revB hi, getD_revB hk, getD_nth (show i < xs.length by omega), getD_nth (show k < xs.length by omega)]
  exact decide_eq_decide.2 (usual_ge _ _ (wf _ (List.getElem_mem _)) (wf _ (List.getElem_mem _))).symm

theorem take_no {xs : List Bk} {ks : List Nat} {i : Nat} (h : (backs xs).getD i 0 ≠ mostOf xs - (ks.length : Int)) : takeB xs ks i = false := by
  unfold takeB
  rw [decide_eq_false h]
  rfl
theorem take_first {xs : List Bk} {ks : List Nat} {i : Nat} (h : (backs xs).getD i 0 = mostOf xs - (ks.length : Int)) (h0 : ks.length = 0) : takeB xs ks i = true := by
  unfold takeB
  rw [decide_eq_true h, decide_eq_true h0]
  rfl
theorem take_later {xs : List Bk} (wf : ∀ b ∈ xs, b.Wf) {ks : List Nat} {i l : Nat} (h : (backs xs).getD i 0 = mostOf xs - (ks.length : Int)) (h0 : ks.length ≠ 0) (hl : ks.getLastD 0 = l) (hi : i < xs.length) (hlx : l < xs.length) : takeB xs ks i = decide (0 ≤ usual xs[i] xs[l]) := by
  unfold takeB
  rw [decide_eq_true h, decide_eq_false h0, hl, getD_nth hi, getD_nth hlx]
  simp only [Bool.true_and, Bool.false_or]
  exact decide_eq_decide.2 (usual_ge _ _ (wf _ (List.getElem_mem _)) (wf _ (List.getElem_mem _))).symm
theorem take_later' {xs : List Bk} (wf : ∀ b ∈ xs, b.Wf) {ks : List Nat} {i l : Nat} (h : (backs xs).getD i 0 = mostOf xs - (ks.length : Int)) (h0 : ks.length ≠ 0) (hl : ks.getLastD 0 = l) (hi : i < xs.length) (hlx : l < xs.length) : takeB xs ks i = decide (usual xs[l] xs[i] ≤ 0) := by
  unfold takeB
  rw [decide_eq_true h, decide_eq_false h0, hl, getD_nth hi, getD_nth hlx]
  simp only [Bool.true_and, Bool.false_or]
  exact decide_eq_decide.2 (usual_le _ _ (wf _ (List.getElem_mem _)) (wf _ (List.getElem_mem _))).symm
theorem last_snoc (ks : List Nat) (i : Nat) : (ks ++ [i]).getLastD 0 = i := by simp

end Go.Proofs.YtkclobdealnkhaaDoor
