/- The usual order as one number; the longest lists that can be kept, as plain data. No condition. -/
import Derived.Test.YtjeflpohokjjkaaCmp
namespace Go.Proofs.Ytjeflpohokjjkaa
set_option linter.unusedSimpArgs false
set_option linter.unusedVariables false
set_option maxRecDepth 100000
open Go.RowKit

/-- A book's place in the usual order. -/
def keyU (b : Bk) : Int := (b.c * 16777216 + (b.m0 * 65536 + b.m1 * 256 + b.m2)) * 65536 + b.v

theorem sgn3 (x1 y1 x2 y2 x3 y3 : Int) (a : 0 ≤ x2 ∧ x2 < 16777216) (b : 0 ≤ y2 ∧ y2 < 16777216) (c : -32768 ≤ x3 ∧ x3 < 32768) (d : -32768 ≤ y3 ∧ y3 < 32768) :
    (if sgn x1 y1 ≠ 0 then sgn x1 y1 else if sgn x2 y2 ≠ 0 then sgn x2 y2 else if sgn x3 y3 ≠ 0 then sgn x3 y3 else 0) = sgn ((x1 * 16777216 + x2) * 65536 + x3) ((y1 * 16777216 + y2) * 65536 + y3) := by
  have lt : ∀ {x y : Int}, x < y → sgn x y = -1 := fun h => by unfold sgn; rw [if_pos h]
  have gt : ∀ {x y : Int}, y < x → sgn x y = 1 := fun h => by unfold sgn; rw [if_neg (by omega), if_pos h]
  have eq : ∀ {x y : Int}, x = y → sgn x y = 0 := fun h => by unfold sgn; rw [if_neg (by omega), if_neg (by omega)]
  rcases Int.lt_trichotomy x1 y1 with h | h | h
  · rw [lt h, if_pos (by decide), lt (by omega)]
  · rw [eq h, if_neg (by decide)]
    rcases Int.lt_trichotomy x2 y2 with h2 | h2 | h2
    · rw [lt h2, if_pos (by decide), lt (by omega)]
    · rw [eq h2, if_neg (by decide)]
      rcases Int.lt_trichotomy x3 y3 with h3 | h3 | h3
      · rw [lt h3, if_pos (by decide), lt (by omega)]
      · rw [eq h3, if_neg (by decide), eq (by omega)]
      · rw [gt h3, if_pos (by decide), gt (by omega)]
    · rw [gt h2, if_pos (by decide), gt (by omega)]
  · rw [gt h, if_pos (by decide), gt (by omega)]

theorem usual_key (a b : Bk) (ha : a.Wf) (hb : b.Wf) : usual a b = sgn (keyU a) (keyU b) := by
  have e1 := cmp1_pos 1 (by omega) a b ha hb
  have e2 := cmp1_pos 2 (by omega) a b ha hb
  have e3 := cmp1_pos 3 (by omega) a b ha hb
  obtain ⟨_, a1, a2, a3, av, _⟩ := ha
  obtain ⟨_, b1, b2, b3, bv, _⟩ := hb
  unfold usual keyU
  rw [cmpL, cmpL, cmpL, cmpL, e1, e2, e3]
  have k1 : ∀ x : Bk, keyOf 1 x = x.c := fun x => rfl
  have k2 : ∀ x : Bk, keyOf 2 x = x.m0 * 65536 + x.m1 * 256 + x.m2 := fun x => rfl
  have k3 : ∀ x : Bk, keyOf 3 x = x.v := fun x => rfl
  rw [k1, k1, k2, k2, k3, k3]
  exact sgn3 _ _ _ _ _ _ (by omega) (by omega) (by omega) (by omega)

theorem usual_le (a b : Bk) (ha : a.Wf) (hb : b.Wf) : usual a b ≤ 0 ↔ keyU a ≤ keyU b := by
  rw [usual_key a b ha hb]
  unfold sgn
  split
  · omega
  · split <;> omega
theorem usual_ge (a b : Bk) (ha : a.Wf) (hb : b.Wf) : 0 ≤ usual a b ↔ keyU b ≤ keyU a := by
  rw [usual_key a b ha hb]
  unfold sgn
  split
  · omega
  · split <;> omega
theorem usual_lt (a b : Bk) (ha : a.Wf) (hb : b.Wf) : usual a b < 0 ↔ keyU a < keyU b := by
  rw [usual_key a b ha hb]
  unfold sgn
  split
  · omega
  · split <;> omega

theorem getD_nth {xs : List Bk} {i : Nat} (h : i < xs.length) : xs.getD i default = xs[i] := by
  rw [List.getD_eq_getElem?_getD, List.getElem?_eq_getElem h]; rfl

/-- The most that stands in a list at the first k places that a test lets by, 0 if there is none. -/
def mostTo (P : Nat → Bool) (out : List Int) : Nat → Int
  | 0 => 0
  | k + 1 => if P k then max (mostTo P out k) (out.getD k 0) else mostTo P out k
/-- The lengths of the longest chains that end at each of the first i places. -/
def chains (P : Nat → Nat → Bool) : Nat → List Int
  | 0 => []
  | i + 1 => chains P i ++ [mostTo (P i) (chains P i) i + 1]

theorem getD_snoc (l : List Int) (x : Int) (k : Nat) : (l ++ [x]).getD k 0 = if k < l.length then l.getD k 0 else if k = l.length then x else 0 := by
  rw [List.getD_eq_getElem?_getD, List.getElem?_append]
  by_cases h : k < l.length
  · rw [if_pos h, if_pos h, List.getD_eq_getElem?_getD]
  · rw [if_neg h, if_neg h]
    by_cases e : k = l.length
    · subst e; simp
    · rw [if_neg e, List.getElem?_eq_none (by simp; omega)]; rfl

theorem chains_length (P : Nat → Nat → Bool) : ∀ i, (chains P i).length = i
  | 0 => rfl
  | i + 1 => by rw [chains, List.length_append, chains_length P i]; rfl
theorem mostTo_bd (P : Nat → Bool) (out : List Int) (m : Int) (hm : 0 ≤ m) (h : ∀ k, out.getD k 0 ≤ m) : ∀ k, 0 ≤ mostTo P out k ∧ mostTo P out k ≤ m
  | 0 => ⟨Int.le_refl _, hm⟩
  | k + 1 => by
    have ih := mostTo_bd P out m hm h k
    have hk := h k
    rw [mostTo]
    split <;> omega
theorem chains_bd (P : Nat → Nat → Bool) : ∀ i k, 0 ≤ (chains P i).getD k 0 ∧ (chains P i).getD k 0 ≤ i
  | 0, k => by simp [chains]
  | i + 1, k => by
    have ih := chains_bd P i
    have hm := mostTo_bd (P i) (chains P i) i (by omega) (fun k => (ih k).2) i
    have hk := ih k
    rw [chains, getD_snoc]
    split
    · omega
    · split <;> omega
theorem chains_pos (P : Nat → Nat → Bool) : ∀ i k, k < i → 1 ≤ (chains P i).getD k 0
  | 0, k, h => absurd h (Nat.not_lt_zero _)
  | i + 1, k, h => by
    have ih := chains_bd P i
    have hm := mostTo_bd (P i) (chains P i) i (by omega) (fun k => (ih k).2) i
    rw [chains, getD_snoc, chains_length]
    split
    · rename_i h1; exact chains_pos P i k h1
    · rw [if_pos (by omega)]; omega
theorem chains_old (P : Nat → Nat → Bool) {i k : Nat} (h : k < i) : (chains P (i + 1)).getD k 0 = (chains P i).getD k 0 := by
  rw [chains, getD_snoc, chains_length, if_pos h]

/-- A row of n numbers, the first i of which are the chains', the next one c, the others 0. -/
def midR (P : Nat → Nat → Bool) (n i : Nat) (c : Int) : List Int := chains P i ++ c :: List.replicate (n - i - 1) 0
theorem midR_length (P : Nat → Nat → Bool) {n i : Nat} (h : i < n) (c : Int) : (midR P n i c).length = n := by
  unfold midR
  simp [chains_length]
  omega
def rowR (P : Nat → Nat → Bool) (n i : Nat) : List Int := chains P i ++ List.replicate (n - i) 0
theorem rowR_mid (P : Nat → Nat → Bool) {n i : Nat} (h : i < n) : rowR P n i = midR P n i 0 := by
  unfold rowR midR
  rw [show n - i = (n - i - 1) + 1 by omega, List.replicate_succ, Nat.add_sub_cancel]
theorem rowR_succ (P : Nat → Nat → Bool) {n i : Nat} (h : i < n) : midR P n i (mostTo (P i) (chains P i) i + 1) = rowR P n (i + 1) := by
  unfold rowR midR
  rw [chains, List.append_assoc, List.singleton_append, show n - (i + 1) = n - i - 1 by omega]
theorem rowR_zero (P : Nat → Nat → Bool) (n : Nat) : rowR P n 0 = List.replicate n 0 := by
  unfold rowR
  simp [chains]
theorem rowR_all (P : Nat → Nat → Bool) (n : Nat) : rowR P n n = chains P n := by
  unfold rowR
  simp
theorem midR_set (P : Nat → Nat → Bool) (n i : Nat) (c d : Int) : ((midR P n i c).map (Value.int .i64)).set i (.int .i64 d) = (midR P n i d).map (Value.int .i64) := by
  unfold midR
  rw [List.map_append, List.map_append, List.set_append_right _ _ (by simp [chains_length])]
  simp [chains_length]
theorem midR_at (P : Nat → Nat → Bool) (n i : Nat) (c : Int) : ((midR P n i c).map (Value.int .i64))[i]? = some (.int .i64 c) := by
  unfold midR
  rw [List.map_append, List.getElem?_append_right (by simp [chains_length])]
  simp [chains_length]
theorem midR_old (P : Nat → Nat → Bool) (n i : Nat) (c : Int) {k : Nat} (h : k < i) : ((midR P n i c).map (Value.int .i64))[k]? = some (.int .i64 ((chains P i).getD k 0)) := by
  unfold midR
  rw [List.map_append, List.getElem?_append_left (by simp [chains_length]; exact h), List.getElem?_map, List.getD_eq_getElem?_getD]
  rw [List.getElem?_eq_getElem (by rw [chains_length]; exact h)]
  rfl

/-- The book at k does not come behind the one at i. -/
def leP (xs : List Bk) (i k : Nat) : Bool := decide (keyU (xs.getD k default) ≤ keyU (xs.getD i default))
def geP (xs : List Bk) (i k : Nat) : Bool := decide (keyU (xs.getD i default) ≤ keyU (xs.getD k default))
def labs (xs : List Bk) : List Int := chains (leP xs) xs.length
theorem labs_len (xs : List Bk) : (labs xs).length ≤ xs.length := by
  unfold labs
  rw [chains_length]
  exact Nat.le_refl _
theorem leP_eq {xs : List Bk} (wf : ∀ b ∈ xs, b.Wf) {i k : Nat} (hi : i < xs.length) (hk : k < xs.length) : leP xs i k = decide (usual xs[k] xs[i] ≤ 0) := by
  unfold leP
  rw [getD_nth hi, getD_nth hk]
  exact decide_eq_decide.2 (usual_le _ _ (wf _ (List.getElem_mem _)) (wf _ (List.getElem_mem _))).symm
theorem leP_ge {xs : List Bk} (wf : ∀ b ∈ xs, b.Wf) {i k : Nat} (hi : i < xs.length) (hk : k < xs.length) : leP xs i k = decide (0 ≤ usual xs[i] xs[k]) := by
  unfold leP
  rw [getD_nth hi, getD_nth hk]
  exact decide_eq_decide.2 (usual_ge _ _ (wf _ (List.getElem_mem _)) (wf _ (List.getElem_mem _))).symm
theorem geP_eq {xs : List Bk} (wf : ∀ b ∈ xs, b.Wf) {i k : Nat} (hi : i < xs.length) (hk : k < xs.length) : geP xs i k = decide (usual xs[i] xs[k] ≤ 0) := by
  unfold geP
  rw [getD_nth hi, getD_nth hk]
  exact decide_eq_decide.2 (usual_le _ _ (wf _ (List.getElem_mem _)) (wf _ (List.getElem_mem _))).symm
theorem geP_ge {xs : List Bk} (wf : ∀ b ∈ xs, b.Wf) {i k : Nat} (hi : i < xs.length) (hk : k < xs.length) : geP xs i k = decide (0 ≤ usual xs[k] xs[i]) := by
  unfold geP
  rw [getD_nth hi, getD_nth hk]
  exact decide_eq_decide.2 (usual_ge _ _ (wf _ (List.getElem_mem _)) (wf _ (List.getElem_mem _))).symm

/-- The same most, counted from the end: d places. -/
def mostDn (P : Nat → Bool) (out : List Int) (m : Nat) : Nat → Int
  | 0 => 0
  | d + 1 => if P (m - 1 - d) then max (mostDn P out m d) (out.getD (m - 1 - d) 0) else mostDn P out m d
theorem mostTo_le (P : Nat → Bool) (out : List Int) (z : Int) : ∀ k, mostTo P out k ≤ z ↔ 0 ≤ z ∧ ∀ j, j < k → P j = true → out.getD j 0 ≤ z
  | 0 => by simp [mostTo]
  | k + 1 => by
    have ih := mostTo_le P out z k
    rw [mostTo]
    constructor
    · intro h
      have h1 : mostTo P out k ≤ z := by split at h <;> omega
      refine ⟨(ih.1 h1).1, fun j hj hp => ?_⟩
      by_cases e : j = k
      · subst e; rw [if_pos hp] at h; omega
      · exact (ih.1 h1).2 j (by omega) hp
    · rintro ⟨h0, h⟩
      have h1 := ih.2 ⟨h0, fun j hj hp => h j (by omega) hp⟩
      split
      · rename_i hp; have := h k (by omega) hp; omega
      · exact h1
theorem mostDn_le (P : Nat → Bool) (out : List Int) (m : Nat) (z : Int) : ∀ d, d ≤ m → (mostDn P out m d ≤ z ↔ 0 ≤ z ∧ ∀ j, m - d ≤ j → j < m → P j = true → out.getD j 0 ≤ z)
  | 0, _ => by
    rw [mostDn]
    exact ⟨fun h => ⟨h, fun j h1 h2 => by omega⟩, fun h => h.1⟩
  | d + 1, hd => by
    have ih := mostDn_le P out m z d (by omega)
    rw [mostDn]
    constructor
    · intro h
      have h1 : mostDn P out m d ≤ z := by split at h <;> omega
      refine ⟨(ih.1 h1).1, fun j hj hm hp => ?_⟩
      by_cases e : j = m - 1 - d
      · subst e; rw [if_pos hp] at h; omega
      · exact (ih.1 h1).2 j (by omega) hm hp
    · rintro ⟨h0, h⟩
      have h1 := ih.2 ⟨h0, fun j hj hm hp => h j (by omega) hm hp⟩
      split
      · rename_i hp; have := h (m - 1 - d) (by omega) (by omega) hp; omega
      · exact h1
theorem mostDn_all (P : Nat → Bool) (out : List Int) (m : Nat) : mostDn P out m m = mostTo P out m := by
  apply Int.le_antisymm
  · refine (mostDn_le P out m _ m (Nat.le_refl _)).2 ?_
    have h := (mostTo_le P out (mostTo P out m) m).1 (Int.le_refl _)
    exact ⟨h.1, fun j _ hj hp => h.2 j hj hp⟩
  · refine (mostTo_le P out _ m).2 ?_
    have h := (mostDn_le P out m (mostDn P out m m) m (Nat.le_refl _)).1 (Int.le_refl _)
    exact ⟨h.1, fun j hj hp => h.2 j (by omega) hj hp⟩
theorem mostDn_bd (P : Nat → Bool) (out : List Int) (m : Nat) (z : Int) (hz : 0 ≤ z) (h : ∀ k, out.getD k 0 ≤ z) : ∀ d, 0 ≤ mostDn P out m d ∧ mostDn P out m d ≤ z
  | 0 => ⟨Int.le_refl _, hz⟩
  | d + 1 => by
    have ih := mostDn_bd P out m z hz h d
    have hk := h (m - 1 - d)
    rw [mostDn]
    split <;> omega

end Go.Proofs.Ytjeflpohokjjkaa
