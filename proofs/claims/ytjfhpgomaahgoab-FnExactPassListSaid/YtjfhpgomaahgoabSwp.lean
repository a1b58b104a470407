/- Swaps that sort a list, as plain lists. No condition. -/
import Derived.Test.YtjfhpgomaahgoabIdx
import Derived.Test.YtjfhpgomaahgoabRanks
namespace Go.Proofs.Ytjfhpgomaahgoab
set_option linter.unusedSimpArgs false
set_option linter.unusedVariables false
set_option maxRecDepth 100000
open Go.RowKit Stab

def swG : List Int → Nat → List Int → List (Nat × Nat)
  | [], _, _ => []
  | b :: t, i, row => if row.idxOf b = i then swG t (i + 1) row else (i, row.idxOf b) :: swG t (i + 1) (sw row i (row.idxOf b))
def swL (xs : List Bk) : List (Nat × Nat) := swG (srt xs) 0 (rngI xs.length)

theorem sw_perm {l : List Int} {i j : Nat} (hij : i < j) (hj : j < l.length) : (sw l i j).Perm l := by
  obtain ⟨A, x, M, y, B, rfl, hA, hM⟩ : ∃ A x M y B, l = A ++ x :: (M ++ y :: B) ∧ i = A.length ∧ j = A.length + 1 + M.length := by
    refine ⟨l.take i, l[i], (l.drop (i + 1)).take (j - i - 1), l[j], l.drop (j + 1), ?_, by simp; omega, by simp; omega⟩
    have e1 : l = l.take i ++ l.drop i := (List.take_append_drop i l).symm
    have e2 : l.drop i = l[i] :: l.drop (i + 1) := List.drop_eq_getElem_cons (by omega)
    have e3 : l.drop (i + 1) = (l.drop (i + 1)).take (j - i - 1) ++ (l.drop (i + 1)).drop (j - i - 1) := (List.take_append_drop _ _).symm
    have e4 : (l.drop (i + 1)).drop (j - i - 1) = l[j] :: l.drop (j + 1) := by
      rw [List.drop_drop, show i + 1 + (j - i - 1) = j by omega]
      exact List.drop_eq_getElem_cons hj
    rw [e4] at e3
    rw [← e3, ← e2, ← e1]
  rw [sw_mid A M B x y i j hA hM]
  refine List.Perm.append_left A ?_
  exact (List.perm_middle.cons y).trans ((List.Perm.swap x y _).trans (List.perm_middle.symm.cons x))

theorem nd_inj {l : List Int} (h : l.Nodup) {i j : Nat} (hi : i < l.length) (hj : j < l.length) (e : l[i] = l[j]) : i = j := by
  rcases Nat.lt_trichotomy i j with h1 | h1 | h1
  · exact absurd e (List.pairwise_iff_getElem.1 h i j hi hj h1)
  · exact h1
  · exact absurd e.symm (List.pairwise_iff_getElem.1 h j i hj hi h1)
theorem getD_setN {l : List Int} {i k : Nat} {z : Int} (hi : i < l.length) : (l.set i z).getD k default = if i = k then z else l.getD k default := by
  rw [List.getD_eq_getElem?_getD, List.getElem?_set, List.getD_eq_getElem?_getD]
  by_cases e : i = k
  · subst e; simp [hi]
  · simp [e]
/-- What stands where, when i books are in their places. -/
structure Inv (xs : List Bk) (i : Nat) (row : List Int) : Prop where
  perm : row.Perm (rngI xs.length)
  done : ∀ j, j < i → j < xs.length → row.getD j default = (srt xs).getD j default
theorem rngI_nodup (n : Nat) : (rngI n).Nodup := (rngI_pairwise n).imp (fun h => by omega)
theorem Inv.len {xs : List Bk} {i : Nat} {row : List Int} (h : Inv xs i row) : row.length = xs.length := by rw [h.perm.length_eq, rngI_length]
theorem Inv.nodup {xs : List Bk} {i : Nat} {row : List Int} (h : Inv xs i row) : row.Nodup := h.perm.nodup_iff.2 (rngI_nodup _)
theorem srt_nodup {xs : List Bk} (wf : ∀ b ∈ xs, b.Wf) : (srt xs).Nodup := (srt_ok wf).1.nodup_iff.2 (rngI_nodup _)
theorem inv0 (xs : List Bk) : Inv xs 0 (rngI xs.length) := ⟨List.Perm.refl _, fun j h => absurd h (Nat.not_lt_zero _)⟩
theorem getD_get {l : List Int} {j : Nat} (h : j < l.length) : l.getD j default = l[j] := by rw [List.getD_eq_getElem?_getD, List.getElem?_eq_getElem h, Option.getD_some]

section
variable {xs : List Bk} {i : Nat} {row : List Int}
theorem Inv.idx (wf : ∀ b ∈ xs, b.Wf) (h : Inv xs i row) (hi : i < (srt xs).length) : ∃ k, row.idxOf (srt xs)[i] = k ∧ i ≤ k ∧ k < xs.length ∧ row.getD k default = (srt xs)[i] := by
  have hm : (srt xs)[i] ∈ row := h.perm.mem_iff.2 ((srt_ok wf).1.mem_iff.1 (List.getElem_mem hi))
  have hk := List.idxOf_lt_length_iff.2 hm
  have hl := h.len
  have hsl := srt_length wf
  have hg : row[row.idxOf (srt xs)[i]] = (srt xs)[i] := List.getElem_idxOf hk
  refine ⟨_, rfl, ?_, by omega, by rw [getD_get hk]; exact hg⟩
  rcases Nat.lt_or_ge (row.idxOf (srt xs)[i]) i with hlt | hge
  · have e := h.done _ hlt (by omega)
    rw [getD_get hk, hg, getD_get (show row.idxOf (srt xs)[i] < (srt xs).length by omega)] at e
    have := nd_inj (srt_nodup wf) _ _ e
    omega
  · exact hge
theorem rk_iff (wf : ∀ b ∈ xs, b.Wf) (hi : i < (srt xs).length) {b : Int} (hb : b ∈ rngI xs.length) : rk xs b = i ↔ b = (srt xs)[i] := by
  obtain ⟨p, hp, rfl⟩ := List.getElem_of_mem ((srt_ok wf).1.mem_iff.2 hb)
  rw [rk_srt wf hp]
  constructor
  · rintro rfl; rfl
  · intro e
    exact nd_inj (srt_nodup wf) _ _ e
/-- Place j holds the book of rank i just if it is the place that is found. -/
theorem Inv.rank (wf : ∀ b ∈ xs, b.Wf) (h : Inv xs i row) (hi : i < (srt xs).length) {j : Nat} (hj : j < xs.length) : ((rk xs (row.getD j default) : Int) = (i : Int)) ↔ row.idxOf (srt xs)[i] = j := by
  have hl := h.len
  have hjr : j < row.length := by omega
  rw [getD_get hjr]
  have hm := h.perm.mem_iff.1 (List.getElem_mem hjr)
  have e := rk_iff wf hi hm
  constructor
  · intro he
    have e2 := e.1 (by omega)
    rw [← e2]
    exact List.Nodup.idxOf_getElem h.nodup j hjr
  · intro he
    have hk : row.idxOf (srt xs)[i] < row.length := by omega
    have hg : row[row.idxOf (srt xs)[i]] = (srt xs)[i] := List.getElem_idxOf hk
    have : row[j] = (srt xs)[i] := by rw [← hg]; congr 1; exact he.symm
    have := e.2 this
    omega
theorem Inv.stay (wf : ∀ b ∈ xs, b.Wf) (h : Inv xs i row) (hi : i < (srt xs).length) (hk : row.idxOf (srt xs)[i] = i) : Inv xs (i + 1) row := by
  refine ⟨h.perm, fun j hj hjn => ?_⟩
  by_cases e : j = i
  · subst e
    obtain ⟨k, h1, -, h3, h4⟩ := h.idx wf hi
    rw [getD_get hi, ← h4, ← h1, hk]
  · exact h.done j (by omega) hjn
theorem Inv.swap (wf : ∀ b ∈ xs, b.Wf) (h : Inv xs i row) (hi : i < (srt xs).length) (hk : row.idxOf (srt xs)[i] ≠ i) : Inv xs (i + 1) (sw row i (row.idxOf (srt xs)[i])) := by
  obtain ⟨k, h1, h2, h3, h4⟩ := h.idx wf hi
  rw [h1] at hk ⊢
  have hl := h.len
  refine ⟨(sw_perm (by omega) (by omega)).trans h.perm, fun j hj hjn => ?_⟩
  unfold sw
  rw [getD_setN (by rw [List.length_set]; omega), if_neg (by omega), getD_setN (by omega)]
  by_cases e : i = j
  · subst e
    rw [if_pos rfl, h4, getD_get hi]
  · rw [if_neg e]
    exact h.done j (by omega) hjn
end
theorem swG_cons {S : List Int} {i : Nat} {row : List Int} (hi : i < S.length) : swG (S.drop i) i row = if row.idxOf S[i] = i then swG (S.drop (i + 1)) (i + 1) row else (i, row.idxOf S[i]) :: swG (S.drop (i + 1)) (i + 1) (sw row i (row.idxOf S[i])) := by
  rw [List.drop_eq_getElem_cons hi, swG]
theorem swG_le : ∀ (S : List Int) (i : Nat) (row : List Int), (swG S i row).length ≤ S.length
  | [], _, _ => Nat.le_refl _
  | b :: t, i, row => by
    rw [swG]
    split
    · have := swG_le t (i + 1) row; simp; omega
    · have := swG_le t (i + 1) (sw row i (row.idxOf b)); simp; omega

/-! ### moves as cells -/
def mvC (ms : List (Nat × Nat)) : List Value := ms.flatMap (fun m => [.int .i16 (m.1 : Int), .int .i16 (m.2 : Int)])
theorem mvC_snoc (ms : List (Nat × Nat)) (a b : Nat) : mvC (ms ++ [(a, b)]) = mvC ms ++ [.int .i16 (a : Int), .int .i16 (b : Int)] := by simp [mvC]
def rkR (xs : List Bk) (row : List Int) : List Int := row.map (fun b => (rk xs b : Int))
theorem rkR_length (xs : List Bk) (row : List Int) : (rkR xs row).length = row.length := by simp [rkR]
theorem rkR_getD {xs : List Bk} {row : List Int} {j : Nat} (h : j < row.length) : (rkR xs row).getD j default = (rk xs (row.getD j default) : Int) := by
  rw [getD_get (by rw [rkR_length]; exact h), getD_get h]
  simp [rkR]
theorem rkR_sw {xs : List Bk} {row : List Int} {i k : Nat} (hik : i ≠ k) (hi : i < row.length) (hk : k < row.length) (he : (rk xs (row.getD k default) : Int) = (i : Int)) : ((rkR xs row).set k ((rkR xs row).getD i default)).set i (i : Int) = rkR xs (sw row i k) := by
  rw [rkR_getD hi]
  unfold rkR sw
  rw [List.map_set, List.map_set, he, List.set_comm _ _ (Ne.symm hik)]
theorem rksT_rkR (xs : List Bk) : rksT xs xs.length = rkR xs (rngI xs.length) := by
  unfold rksT rkR rngI
  rw [List.map_map]
  rfl

end Go.Proofs.Ytjfhpgomaahgoab
