/- The stable sort of slices.SortStableFunc as plain lists: exchanges of ranges, the turn, the search, the merge, the blocks: each is what it should be; the whole is all elements in the order. No condition. -/
import Derived.Test.YtecpddkbbfpeeaaBk
namespace Go.Proofs.Ytecpddkbbfpeeaa.Stab
set_option linter.unusedSimpArgs false
set_option linter.unusedVariables false
set_option maxRecDepth 100000
variable {α : Type} [Inhabited α]

def sw (l : List α) (i j : Nat) : List α := (l.set i (l.getD j default)).set j (l.getD i default)
theorem sw_length (l : List α) (i j : Nat) : (sw l i j).length = l.length := by simp [sw]
theorem sw_mid (A M B : List α) (x y : α) (i j : Nat) (hi : i = A.length) (hj : j = A.length + 1 + M.length) : sw (A ++ x :: (M ++ y :: B)) i j = A ++ y :: (M ++ x :: B) := by
  subst hi hj
  have h1 : (A ++ x :: (M ++ y :: B)).getD A.length default = x := by simp [List.getD]
  have h2 : (A ++ x :: (M ++ y :: B)).getD (A.length + 1 + M.length) default = y := by
    simp [List.getD, Nat.add_assoc, Nat.add_comm 1]
  unfold sw
  rw [h1, h2, List.set_append_right _ _ (Nat.le_refl _), Nat.sub_self, List.set_cons_zero, List.set_append_right _ _ (by omega), show A.length + 1 + M.length - A.length = M.length + 1 by omega, List.set_cons_succ, List.set_append_right _ _ (Nat.le_refl _), Nat.sub_self, List.set_cons_zero]
theorem sw_same (A B : List α) (x : α) (i : Nat) (hi : i = A.length) : sw (A ++ x :: B) i i = A ++ x :: B := by
  subst hi
  have h1 : (A ++ x :: B).getD A.length default = x := by simp [List.getD]
  unfold sw
  rw [h1]
  simp

/-- The first n of two ranges exchanged. -/
def swR (l : List α) (a b : Nat) : Nat → List α
  | 0 => l
  | n + 1 => sw (swR l a b n) (a + n) (b + n)
theorem swR_length (l : List α) (a b : Nat) : ∀ n, (swR l a b n).length = l.length
  | 0 => rfl
  | n + 1 => by rw [swR, sw_length, swR_length l a b n]
theorem swR_part (A X M Y B : List α) (h : X.length = Y.length) : ∀ n, n ≤ X.length → swR (A ++ (X ++ (M ++ (Y ++ B)))) A.length (A.length + X.length + M.length) n = A ++ ((Y.take n ++ X.drop n) ++ (M ++ ((X.take n ++ Y.drop n) ++ B)))
  | 0, _ => by simp [swR]
  | n + 1, hn => by
    rw [swR, swR_part A X M Y B h n (by omega)]
    have hx : X.drop n = X[n] :: X.drop (n + 1) := List.drop_eq_getElem_cons (by omega)
    have hy : Y.drop n = Y[n] :: Y.drop (n + 1) := List.drop_eq_getElem_cons (by omega)
    have tx : X.take (n + 1) = X.take n ++ [X[n]] := (List.take_append_getElem (by omega)).symm
    have ty : Y.take (n + 1) = Y.take n ++ [Y[n]] := (List.take_append_getElem (by omega)).symm
    rw [hx, hy, tx, ty]
    have e := sw_mid (A ++ Y.take n) (X.drop (n + 1) ++ (M ++ X.take n)) (Y.drop (n + 1) ++ B) X[n] Y[n] (A.length + n) (A.length + X.length + M.length + n) (by simp; omega) (by simp; omega)
    simp only [List.append_assoc, List.cons_append, List.nil_append] at e ⊢
    exact e
theorem swR_blocks (A X M Y B : List α) (h : X.length = Y.length) (a b n : Nat) (ha : a = A.length) (hb : b = A.length + X.length + M.length) (hn : n = X.length) : swR (A ++ (X ++ (M ++ (Y ++ B)))) a b n = A ++ (Y ++ (M ++ (X ++ B))) := by
  subst ha hb hn
  rw [swR_part A X M Y B h _ (Nat.le_refl _), List.take_of_length_le (Nat.le_of_eq h.symm), List.drop_of_length_le (Nat.le_refl _), List.take_of_length_le (Nat.le_refl _), List.drop_of_length_le (Nat.le_of_eq h.symm), List.append_nil, List.append_nil]

/-- rotateCmpFunc: the loop, behind it the last exchange. -/
def rotF : Nat → List α → Nat → Nat → Nat → List α
  | 0, l, _, _, _ => l
  | f + 1, l, m, i, j => if i = j then swR l (m - i) m i else if j < i then rotF f (swR l (m - i) m j) m (i - j) j else rotF f (swR l (m - i) (m + j - i) i) m i (j - i)
theorem rotF_ok : ∀ (f : Nat) (A X Y B : List α) (m i j : Nat), X.length = i → Y.length = j → m = A.length + i → 0 < i → 0 < j → i + j ≤ f → rotF f (A ++ (X ++ (Y ++ B))) m i j = A ++ (Y ++ (X ++ B))
  | 0, _, _, _, _, _, _, _, _, _, _, hi, hj, hf => by omega
  | f + 1, A, X, Y, B, m, i, j, hX, hY, hm, hi, hj, hf => by
    rw [rotF]
    split
    · rename_i e
      have := swR_blocks A X [] Y B (by omega) (m - i) m i (by omega) (by simp; omega) (by omega)
      simpa using this
    · split
      · rename_i _ e
        have e1 : X = X.take j ++ X.drop j := (List.take_append_drop j X).symm
        have h1 := swR_blocks A (X.take j) (X.drop j) Y B (by simp; omega) (m - i) m j (by omega) (by simp; omega) (by simp; omega)
        have h2 : A ++ (X ++ (Y ++ B)) = A ++ (X.take j ++ (X.drop j ++ (Y ++ B))) := by
          rw [← List.append_assoc (X.take j), ← e1]
        rw [h2, h1]
        have h3 := rotF_ok f (A ++ Y) (X.drop j) (X.take j) B m (i - j) j (by simp; omega) (by simp; omega) (by simp; omega) (by omega) hj (by omega)
        rw [show A ++ (Y ++ (X.drop j ++ (X.take j ++ B))) = (A ++ Y) ++ (X.drop j ++ (X.take j ++ B)) by simp, h3]
        rw [show (A ++ Y) ++ (X.take j ++ (X.drop j ++ B)) = A ++ (Y ++ ((X.take j ++ X.drop j) ++ B)) by simp only [List.append_assoc], ← e1]
      · rename_i e e'
        have e1 : Y = Y.take (j - i) ++ Y.drop (j - i) := (List.take_append_drop (j - i) Y).symm
        have h1 := swR_blocks A X (Y.take (j - i)) (Y.drop (j - i)) B (by simp; omega) (m - i) (m + j - i) i (by omega) (by simp; omega) (by omega)
        have h2 : A ++ (X ++ (Y ++ B)) = A ++ (X ++ (Y.take (j - i) ++ (Y.drop (j - i) ++ B))) := by
          rw [← List.append_assoc (Y.take (j - i)), ← e1]
        rw [h2, h1]
        have h3 := rotF_ok f A (Y.drop (j - i)) (Y.take (j - i)) (X ++ B) m i (j - i) (by simp; omega) (by simp; omega) (by omega) hi (by omega) (by omega)
        rw [h3]
        rw [show A ++ (Y.take (j - i) ++ (Y.drop (j - i) ++ (X ++ B))) = A ++ ((Y.take (j - i) ++ Y.drop (j - i)) ++ (X ++ B)) by simp only [List.append_assoc], ← e1]

/-- The binary search: while i < j. -/
def bsF (P : Nat → Bool) : Nat → Nat → Nat → Nat
  | 0, i, _ => i
  | f + 1, i, j => if i < j then (if P ((i + j) / 2) then bsF P f ((i + j) / 2 + 1) j else bsF P f i ((i + j) / 2)) else i
theorem bsF_ok (P : Nat → Bool) : ∀ (f i j i0 j0 : Nat), i0 ≤ i → i ≤ j → j ≤ j0 → (i = i0 ∨ P (i - 1) = true) → (j = j0 ∨ P j = false) → j - i < f →
    i0 ≤ bsF P f i j ∧ bsF P f i j ≤ j0 ∧ (bsF P f i j = i0 ∨ P (bsF P f i j - 1) = true) ∧ (bsF P f i j = j0 ∨ P (bsF P f i j) = false)
  | 0, _, _, _, _, _, _, _, _, _, hf => by omega
  | f + 1, i, j, i0, j0, h1, h2, h3, h4, h5, hf => by
    rw [bsF]
    split
    · split
      · rename_i hp
        exact bsF_ok P f _ j i0 j0 (by omega) (by omega) h3 (.inr (by simpa using hp)) h5 (by omega)
      · rename_i hp
        exact bsF_ok P f i _ i0 j0 h1 (by omega) (by omega) h4 (.inr (by simpa using hp)) (by omega)
    · obtain rfl : i = j := by omega
      exact ⟨h1, h3, h4, h5⟩

/-- An element carried up n places. -/
def upF (l : List α) (a : Nat) : Nat → List α
  | 0 => l
  | n + 1 => sw (upF l a n) (a + n) (a + n + 1)
theorem upF_ok (A U V : List α) (x : α) (a : Nat) (ha : a = A.length) : ∀ n, n ≤ U.length → upF (A ++ x :: (U ++ V)) a n = A ++ (U.take n ++ x :: (U.drop n ++ V))
  | 0, _ => by simp [upF]
  | n + 1, hn => by
    subst ha
    rw [upF, upF_ok A U V x _ rfl n (by omega)]
    have hx : U.drop n = U[n] :: U.drop (n + 1) := List.drop_eq_getElem_cons (by omega)
    have tx : U.take (n + 1) = U.take n ++ [U[n]] := (List.take_append_getElem (by omega)).symm
    rw [hx, tx]
    have e := sw_mid (A ++ U.take n) [] (U.drop (n + 1) ++ V) x U[n] (A.length + n) (A.length + n + 1) (by simp; omega) (by simp; omega)
    simp only [List.append_assoc, List.cons_append, List.nil_append] at e ⊢
    exact e
/-- .. down n places. -/
def downF (l : List α) (k : Nat) : Nat → List α
  | 0 => l
  | n + 1 => sw (downF l k n) (k - n) (k - n - 1)
theorem sw_comm (l : List α) (i j : Nat) (h : i ≠ j) : sw l i j = sw l j i := by
  unfold sw
  exact List.set_comm _ _ h
theorem downF_ok (U V B : List α) (y : α) (k : Nat) (hk : k = U.length + V.length) : ∀ n, n ≤ V.length → downF (U ++ (V ++ y :: B)) k n = U ++ (V.take (V.length - n) ++ y :: (V.drop (V.length - n) ++ B))
  | 0, _ => by simp [downF]
  | n + 1, hn => by
    rw [downF, downF_ok U V B y k hk n (by omega)]
    have h0 : V.length - (n + 1) < V.length := by omega
    have hx : V.drop (V.length - (n + 1)) = V[V.length - (n + 1)] :: V.drop (V.length - n) := by
      rw [List.drop_eq_getElem_cons h0]
      congr 2
      omega
    have tx : V.take (V.length - n) = V.take (V.length - (n + 1)) ++ [V[V.length - (n + 1)]] := by
      have h3 := List.take_append_getElem h0
      rw [show V.length - (n + 1) + 1 = V.length - n by omega] at h3
      exact h3.symm
    rw [hx, tx]
    generalize V[V.length - (n + 1)] = z
    have e := sw_mid (U ++ V.take (V.length - (n + 1))) [] (V.drop (V.length - n) ++ B) z y (k - n - 1) (k - n) (by simp; omega) (by simp; omega)
    rw [sw_comm _ _ _ (by omega)]
    simp only [List.append_assoc, List.cons_append, List.nil_append] at e ⊢
    exact e

/-- What the comparison says of an element x that stood ahead of y. -/
def Cr (lt : α → α → Bool) (L : α → α → Prop) (x y : α) : Prop := (lt y x = true → L y x) ∧ (lt y x = false → L x y)
theorem getD_mid (A B : List α) (x : α) (i : Nat) (h : i = A.length) : (A ++ x :: B).getD i default = x := by subst h; simp [List.getD]

def symF (lt : α → α → Bool) : Nat → List α → Nat → Nat → Nat → List α
  | 0, l, _, _, _ => l
  | f + 1, l, a, m, b =>
    if m - a = 1 then upF l a (bsF (fun h => lt (l.getD h default) (l.getD a default)) (b - m + 1) m b - 1 - a)
    else if b - m = 1 then downF l m (m - bsF (fun h => !(lt (l.getD m default) (l.getD h default))) (m - a + 1) a m)
    else
      let mid := (a + b) / 2
      let n := mid + m
      let s0 := if mid < m then n - b else a
      let r0 := if mid < m then mid else m
      let s := bsF (fun c => !(lt (l.getD (n - 1 - c) default) (l.getD c default))) (r0 - s0 + 1) s0 r0
      let e := n - s
      let l1 := if s < m ∧ m < e then rotF (e - s) l m (m - s) (e - m) else l
      let l2 := if a < s ∧ s < mid then symF lt f l1 a s mid else l1
      if mid < e ∧ e < b then symF lt f l2 mid e b else l2

section
variable {lt : α → α → Bool} {L : α → α → Prop}
theorem pw_last {γ : Type} {L : γ → γ → Prop} {X : List γ} {x : γ} (h : (X ++ [x]).Pairwise L) : ∀ y ∈ X, L y x := fun y hy => (List.pairwise_append.1 h).2.2 y hy x (by simp)
theorem ne_last {γ : Type} {X : List γ} (h : 0 < X.length) : ∃ X' x, X = X' ++ [x] := by
  rcases List.eq_nil_or_concat X with rfl | ⟨X', x, rfl⟩
  · simp at h
  · exact ⟨X', x, by simp⟩
theorem ne_first {γ : Type} {X : List γ} (h : 0 < X.length) : ∃ X' x, X = x :: X' := by
  cases X with
  | nil => simp at h
  | cons x X => exact ⟨X, x, rfl⟩

/-- One element ahead: it is carried up. -/
theorem up_ok (tr : ∀ x y z, L x y → L y z → L x z) (A Y B : List α) (x : α) (a m b : Nat) (ha : a = A.length) (hm : m = a + 1) (hb : b = m + Y.length) (hY : Y.Pairwise L) (hc : ∀ y ∈ Y, Cr lt L x y) :
    ∃ Z, upF (A ++ (x :: (Y ++ B))) a (bsF (fun h => lt ((A ++ (x :: (Y ++ B))).getD h default) ((A ++ (x :: (Y ++ B))).getD a default)) (b - m + 1) m b - 1 - a) = A ++ (Z ++ B) ∧ Z.Perm (x :: Y) ∧ Z.Pairwise L := by
  have hx : (A ++ (x :: (Y ++ B))).getD a default = x := getD_mid _ _ _ _ ha
  rw [hx]
  obtain ⟨h1, h2, h3, h4⟩ := bsF_ok (fun h => lt ((A ++ (x :: (Y ++ B))).getD h default) x) (b - m + 1) m b m b (Nat.le_refl _) (by omega) (Nat.le_refl _) (.inl rfl) (.inl rfl) (by omega)
  generalize bsF (fun h => lt ((A ++ (x :: (Y ++ B))).getD h default) x) (b - m + 1) m b = r at *
  have hr : r - 1 - a = r - m := by omega
  have e1 : Y = Y.take (r - m) ++ Y.drop (r - m) := (List.take_append_drop _ Y).symm
  have hl : (Y.take (r - m)).length = r - m := by simp; omega
  generalize hU : Y.take (r - m) = U at *
  generalize hV : Y.drop (r - m) = V at *
  clear hU hV
  subst e1
  refine ⟨U ++ x :: V, ?_, List.perm_middle, ?_⟩
  · rw [hr]
    have := upF_ok A U (V ++ B) x a ha (r - m) (by omega)
    rw [show A ++ x :: (U ++ V ++ B) = A ++ x :: (U ++ (V ++ B)) by simp, this, List.take_of_length_le (by omega), List.drop_of_length_le (by omega)]
    simp
  · obtain ⟨pU, pV, pUV⟩ := List.pairwise_append.1 hY
    have cU : ∀ y ∈ U, L y x := by
      intro y hy
      have h0 : 0 < U.length := List.length_pos_of_mem hy
      obtain ⟨U', u, rfl⟩ := ne_last h0
      simp at hl
      have hlt : lt u x = true := by
        rcases h3 with h3 | h3
        · omega
        · have e := getD_mid (A ++ x :: U') (V ++ B) u (r - 1) (by simp; omega)
          rw [show A ++ x :: U' ++ u :: (V ++ B) = A ++ x :: (U' ++ [u] ++ V ++ B) by simp] at e
          rwa [e] at h3
      have hu : L u x := (hc u (by simp)).1 hlt
      rcases List.mem_append.1 hy with hy | hy
      · exact tr _ _ _ (pw_last pU y hy) hu
      · simp at hy; subst hy; exact hu
    have cV : ∀ y ∈ V, L x y := by
      intro y hy
      have h0 : 0 < V.length := List.length_pos_of_mem hy
      obtain ⟨V', v, rfl⟩ := ne_first h0
      have hlt : lt v x = false := by
        rcases h4 with h4 | h4
        · simp at hb; omega
        · have e := getD_mid (A ++ x :: U) (V' ++ B) v r (by simp; omega)
          rw [show A ++ x :: U ++ v :: (V' ++ B) = A ++ x :: (U ++ v :: V' ++ B) by simp] at e
          rwa [e] at h4
      have hu : L x v := (hc v (by simp)).2 hlt
      rcases List.mem_cons.1 hy with rfl | hy
      · exact hu
      · exact tr _ _ _ hu ((List.pairwise_cons.1 pV).1 y hy)
    refine List.pairwise_append.2 ⟨pU, List.pairwise_cons.2 ⟨cV, pV⟩, fun y hy z hz => ?_⟩
    rcases List.mem_cons.1 hz with rfl | hz
    · exact cU y hy
    · exact pUV y hy z hz

/-- One element behind: it is carried down. -/
theorem down_ok (tr : ∀ x y z, L x y → L y z → L x z) (A X B : List α) (y : α) (a m : Nat) (ha : a = A.length) (hm : m = a + X.length) (hX : X.Pairwise L) (hc : ∀ x ∈ X, Cr lt L x y) :
    ∃ Z, downF (A ++ (X ++ y :: B)) m (m - bsF (fun h => !(lt ((A ++ (X ++ y :: B)).getD m default) ((A ++ (X ++ y :: B)).getD h default))) (m - a + 1) a m) = A ++ (Z ++ B) ∧ Z.Perm (X ++ [y]) ∧ Z.Pairwise L := by
  have hy : (A ++ (X ++ y :: B)).getD m default = y := by
    have := getD_mid (A ++ X) B y m (by simp; omega)
    simpa using this
  rw [hy]
  obtain ⟨h1, h2, h3, h4⟩ := bsF_ok (fun h => !(lt y ((A ++ (X ++ y :: B)).getD h default))) (m - a + 1) a m a m (Nat.le_refl _) (by omega) (Nat.le_refl _) (.inl rfl) (.inl rfl) (by omega)
  generalize bsF (fun h => !(lt y ((A ++ (X ++ y :: B)).getD h default))) (m - a + 1) a m = r at *
  have e1 : X = X.take (r - a) ++ X.drop (r - a) := (List.take_append_drop _ X).symm
  have hl : (X.take (r - a)).length = r - a := by simp; omega
  generalize hU : X.take (r - a) = U at *
  generalize hV : X.drop (r - a) = V at *
  clear hU hV
  subst e1
  have hlen : V.length = m - r := by simp at hm; omega
  refine ⟨U ++ y :: V, ?_, ?_, ?_⟩
  · have := downF_ok (A ++ U) V B y m (by simp; simp at hm; omega) (m - r) (by omega)
    rw [show A ++ (U ++ V ++ y :: B) = A ++ U ++ (V ++ y :: B) by simp, this, hlen, Nat.sub_self]
    simp
  · have : (U ++ y :: V).Perm (U ++ (V ++ [y])) := List.Perm.append_left _ (by simpa using (List.perm_append_comm (l₁ := [y]) (l₂ := V)))
    simpa using this
  · obtain ⟨pU, pV, pUV⟩ := List.pairwise_append.1 hX
    have cU : ∀ z ∈ U, L z y := by
      intro z hz
      have h0 : 0 < U.length := List.length_pos_of_mem hz
      obtain ⟨U', u, rfl⟩ := ne_last h0
      simp at hl
      have hlt : lt y u = false := by
        rcases h3 with h3 | h3
        · omega
        · have e := getD_mid (A ++ U') (V ++ y :: B) u (r - 1) (by simp; omega)
          rw [show A ++ U' ++ u :: (V ++ y :: B) = A ++ (U' ++ [u] ++ V ++ y :: B) by simp] at e
          rw [e] at h3
          simpa using h3
      have hu : L u y := (hc u (by simp)).2 hlt
      rcases List.mem_append.1 hz with hz | hz
      · exact tr _ _ _ (pw_last pU z hz) hu
      · simp at hz; subst hz; exact hu
    have cV : ∀ z ∈ V, L y z := by
      intro z hz
      have h0 : 0 < V.length := List.length_pos_of_mem hz
      obtain ⟨V', v, rfl⟩ := ne_first h0
      have hlt : lt y v = true := by
        rcases h4 with h4 | h4
        · omega
        · have e := getD_mid (A ++ U) (V' ++ y :: B) v r (by simp; omega)
          rw [show A ++ U ++ v :: (V' ++ y :: B) = A ++ (U ++ v :: V' ++ y :: B) by simp] at e
          rw [e] at h4
          simpa using h4
      have hu : L y v := (hc v (by simp)).1 hlt
      rcases List.mem_cons.1 hz with rfl | hz
      · exact hu
      · exact tr _ _ _ hu ((List.pairwise_cons.1 pV).1 z hz)
    refine List.pairwise_append.2 ⟨pU, List.pairwise_cons.2 ⟨cV, pV⟩, fun z hz x hx => ?_⟩
    rcases List.mem_cons.1 hx with rfl | hx
    · exact cU z hz
    · exact pUV z hz x hx

theorem pw_of_empty {γ : Type} {L : γ → γ → Prop} {X Y : List γ} (hX : X.Pairwise L) (hY : Y.Pairwise L) (h : X.length = 0 ∨ Y.length = 0) : (X ++ Y).Pairwise L := by
  rcases h with h | h
  · rw [List.eq_nil_of_length_eq_zero h]; simpa using hY
  · rw [List.eq_nil_of_length_eq_zero h]; simpa using hX

theorem symF_ok (tr : ∀ x y z, L x y → L y z → L x z) : ∀ (f : Nat) (A X Y B : List α) (a m b : Nat), a = A.length → m = a + X.length → b = m + Y.length → 0 < X.length → 0 < Y.length → b - a ≤ f → X.Pairwise L → Y.Pairwise L → (∀ x ∈ X, ∀ y ∈ Y, Cr lt L x y) →
    ∃ Z, symF lt f (A ++ (X ++ (Y ++ B))) a m b = A ++ (Z ++ B) ∧ Z.Perm (X ++ Y) ∧ Z.Pairwise L
  | 0, _, _, _, _, _, _, _, _, hm, hb, hX, hY, hf, _, _, _ => by omega
  | f + 1, A, X, Y, B, a, m, b, ha, hm, hb, hX, hY, hf, pX, pY, hc => by
    rw [symF]
    by_cases h1 : m - a = 1
    · rw [if_pos h1]
      match X, hm, hX, pX, hc with
      | [x], hm, _, _, hc => exact up_ok tr A Y B x a m b ha (by omega) hb pY (fun y hy => hc x (by simp) y hy)
      | [], _, hX, _, _ => simp at hX
      | x :: x' :: X, hm, _, _, _ => simp at hm; omega
    · rw [if_neg h1]
      by_cases h2 : b - m = 1
      · rw [if_pos h2]
        match Y, hb, hY, pY, hc with
        | [y], hb, _, _, hc => exact down_ok tr A X B y a m ha hm pX (fun x hx => hc x hx y (by simp))
        | [], _, hY, _, _ => simp at hY
        | y :: y' :: Y, hb, _, _, _ => simp at hb; omega
      · rw [if_neg h2]
        simp only []
        generalize hmid : (a + b) / 2 = mid
        have m1 : a + 1 ≤ mid := by omega
        have m2 : mid + 1 ≤ b := by omega
        have m3 : 2 * mid ≤ a + b := by omega
        have m4 : a + b ≤ 2 * mid + 1 := by omega
        clear hmid
        generalize hs0 : (if mid < m then mid + m - b else a) = s0
        generalize hr0 : (if mid < m then mid else m) = r0
        have s1 : a ≤ s0 := by rw [← hs0]; split <;> omega
        have s2 : s0 ≤ r0 := by rw [← hs0, ← hr0]; split <;> omega
        have s3 : r0 ≤ m := by rw [← hr0]; split <;> omega
        have s4 : r0 ≤ mid := by rw [← hr0]; split <;> omega
        have s5 : mid + m - b ≤ s0 := by rw [← hs0]; split <;> omega
        have s6 : s0 = a ∨ s0 = mid + m - b := by rw [← hs0]; split <;> omega
        have s7 : r0 = m ∨ r0 = mid := by rw [← hr0]; split <;> omega
        clear hs0 hr0
        generalize hl : A ++ (X ++ (Y ++ B)) = l
        obtain ⟨b1, b2, b3, b4⟩ := bsF_ok (fun c => !(lt (l.getD (mid + m - 1 - c) default) (l.getD c default))) (r0 - s0 + 1) s0 r0 s0 r0 (Nat.le_refl _) s2 (Nat.le_refl _) (.inl rfl) (.inl rfl) (by omega)
        generalize bsF (fun c => !(lt (l.getD (mid + m - 1 - c) default) (l.getD c default))) (r0 - s0 + 1) s0 r0 = s at *
        generalize he : mid + m - s = e
        have e1 : m ≤ e := by omega
        have e2 : e ≤ b := by omega
        have eX : X = X.take (s - a) ++ X.drop (s - a) := (List.take_append_drop _ X).symm
        have eY : Y = Y.take (e - m) ++ Y.drop (e - m) := (List.take_append_drop _ Y).symm
        have lX1 : (X.take (s - a)).length = s - a := by simp; omega
        have lX2 : (X.drop (s - a)).length = m - s := by simp; omega
        have lY1 : (Y.take (e - m)).length = e - m := by simp; omega
        have lY2 : (Y.drop (e - m)).length = b - e := by simp; omega
        generalize X.take (s - a) = X1 at *
        generalize X.drop (s - a) = X2 at *
        generalize Y.take (e - m) = Y1 at *
        generalize Y.drop (e - m) = Y2 at *
        subst eX eY
        obtain ⟨pX1, pX2, pX12⟩ := List.pairwise_append.1 pX
        obtain ⟨pY1, pY2, pY12⟩ := List.pairwise_append.1 pY
        -- what the search says
        have c12 : ∀ x ∈ X1, ∀ y ∈ Y2, L x y := by
          intro x hx y hy
          obtain ⟨X', xl, rfl⟩ := ne_last (List.length_pos_of_mem hx)
          obtain ⟨Y', yf, rfl⟩ := ne_first (List.length_pos_of_mem hy)
          simp at lX1 lY2
          have hlt : lt yf xl = false := by
            rcases b3 with b3 | b3
            · omega
            · have g1 := getD_mid (A ++ X') (X2 ++ (Y1 ++ (yf :: Y' ++ B))) xl (s - 1) (by simp; omega)
              have g2 := getD_mid (A ++ (X' ++ [xl]) ++ X2 ++ Y1) (Y' ++ B) yf (mid + m - 1 - (s - 1)) (by simp; omega)
              rw [show A ++ X' ++ xl :: (X2 ++ (Y1 ++ (yf :: Y' ++ B))) = l by rw [← hl]; simp] at g1
              rw [show A ++ (X' ++ [xl]) ++ X2 ++ Y1 ++ yf :: (Y' ++ B) = l by rw [← hl]; simp] at g2
              rw [g1, g2] at b3
              simpa using b3
          have h0 : L xl yf := (hc xl (by simp) yf (by simp)).2 hlt
          have h1 : L x yf := by
            rcases List.mem_append.1 hx with hx | hx
            · exact tr _ _ _ (pw_last pX1 x hx) h0
            · simp at hx; subst hx; exact h0
          rcases List.mem_cons.1 hy with rfl | hy
          · exact h1
          · exact tr _ _ _ h1 ((List.pairwise_cons.1 pY2).1 y hy)
        have c21 : ∀ y ∈ Y1, ∀ x ∈ X2, L y x := by
          intro y hy x hx
          obtain ⟨Y', yl, rfl⟩ := ne_last (List.length_pos_of_mem hy)
          obtain ⟨X', xf, rfl⟩ := ne_first (List.length_pos_of_mem hx)
          simp at lY1 lX2
          have hlt : lt yl xf = true := by
            rcases b4 with b4 | b4
            · omega
            · have g1 := getD_mid (A ++ X1) (X' ++ ((Y' ++ [yl]) ++ (Y2 ++ B))) xf s (by simp; omega)
              have g2 := getD_mid (A ++ X1 ++ (xf :: X') ++ Y') (Y2 ++ B) yl (mid + m - 1 - s) (by simp; omega)
              rw [show A ++ X1 ++ xf :: (X' ++ ((Y' ++ [yl]) ++ (Y2 ++ B))) = l by rw [← hl]; simp] at g1
              rw [show A ++ X1 ++ (xf :: X') ++ Y' ++ yl :: (Y2 ++ B) = l by rw [← hl]; simp] at g2
              rw [g1, g2] at b4
              simpa using b4
          have h0 : L yl xf := (hc xf (by simp) yl (by simp)).1 hlt
          have h1 : L y xf := by
            rcases List.mem_append.1 hy with hy | hy
            · exact tr _ _ _ (pw_last pY1 y hy) h0
            · simp at hy; subst hy; exact h0
          rcases List.mem_cons.1 hx with rfl | hx
          · exact h1
          · exact tr _ _ _ h1 ((List.pairwise_cons.1 pX2).1 x hx)
        -- the turn
        have t1 : (if s < m ∧ m < e then rotF (e - s) l m (m - s) (e - m) else l) = A ++ (X1 ++ (Y1 ++ (X2 ++ (Y2 ++ B)))) := by
          split
          · have := rotF_ok (e - s) (A ++ X1) X2 Y1 (Y2 ++ B) m (m - s) (e - m) lX2 lY1 (by simp; omega) (by omega) (by omega) (by omega)
            rw [← hl, show A ++ (X1 ++ X2 ++ (Y1 ++ Y2 ++ B)) = A ++ X1 ++ (X2 ++ (Y1 ++ (Y2 ++ B))) by simp, this]
            simp
          · rename_i hno
            rw [← hl]
            have : X2.length = 0 ∨ Y1.length = 0 := by omega
            rcases this with h | h
            · rw [List.eq_nil_of_length_eq_zero h]; simp
            · rw [List.eq_nil_of_length_eq_zero h]; simp
        rw [t1]
        -- the first half
        have t2 : ∃ Z1, (if a < s ∧ s < mid then symF lt f (A ++ (X1 ++ (Y1 ++ (X2 ++ (Y2 ++ B))))) a s mid else A ++ (X1 ++ (Y1 ++ (X2 ++ (Y2 ++ B))))) = A ++ (Z1 ++ (X2 ++ (Y2 ++ B))) ∧ Z1.Perm (X1 ++ Y1) ∧ Z1.Pairwise L := by
          split
          · exact symF_ok tr f A X1 Y1 (X2 ++ (Y2 ++ B)) a s mid ha (by omega) (by omega) (by omega) (by omega) (by omega) pX1 pY1 (fun x hx y hy => hc x (List.mem_append_left _ hx) y (List.mem_append_left _ hy))
          · exact ⟨X1 ++ Y1, by simp, List.Perm.refl _, pw_of_empty pX1 pY1 (by omega)⟩
        obtain ⟨Z1, t2, q1, p1⟩ := t2
        rw [t2]
        have lZ1 : Z1.length = mid - a := by rw [q1.length_eq]; simp; omega
        have t3 : ∃ Z2, (if mid < e ∧ e < b then symF lt f (A ++ (Z1 ++ (X2 ++ (Y2 ++ B)))) mid e b else A ++ (Z1 ++ (X2 ++ (Y2 ++ B)))) = A ++ (Z1 ++ (Z2 ++ B)) ∧ Z2.Perm (X2 ++ Y2) ∧ Z2.Pairwise L := by
          split
          · obtain ⟨Z2, h, q, p⟩ := symF_ok tr f (A ++ Z1) X2 Y2 B mid e b (by simp; omega) (by omega) (by omega) (by omega) (by omega) (by omega) pX2 pY2 (fun x hx y hy => hc x (List.mem_append_right _ hx) y (List.mem_append_right _ hy))
            refine ⟨Z2, ?_, q, p⟩
            rw [show A ++ (Z1 ++ (X2 ++ (Y2 ++ B))) = A ++ Z1 ++ (X2 ++ (Y2 ++ B)) by simp, h]
            simp
          · exact ⟨X2 ++ Y2, by simp, List.Perm.refl _, pw_of_empty pX2 pY2 (by omega)⟩
        obtain ⟨Z2, t3, q2, p2⟩ := t3
        rw [t3]
        refine ⟨Z1 ++ Z2, by simp, ?_, List.pairwise_append.2 ⟨p1, p2, fun x hx y hy => ?_⟩⟩
        · have h := q1.append q2
          refine h.trans ?_
          have h2 : (Y1 ++ (X2 ++ Y2)).Perm (X2 ++ (Y1 ++ Y2)) := by
            have := (List.perm_append_comm (l₁ := Y1) (l₂ := X2)).append_right Y2
            simpa using this
          have := h2.append_left X1
          simpa using this
        · rcases List.mem_append.1 (q1.mem_iff.1 hx) with hx | hx <;> rcases List.mem_append.1 (q2.mem_iff.1 hy) with hy | hy
          · exact pX12 x hx y hy
          · exact c12 x hx y hy
          · exact c21 x hx y hy
          · exact pY12 x hx y hy
end

/-! ### insertion -/
def insIn (lt : α → α → Bool) : Nat → List α → Nat → Nat → List α
  | 0, l, _, _ => l
  | f + 1, l, a, j => if a < j then (if lt (l.getD j default) (l.getD (j - 1) default) then insIn lt f (sw l j (j - 1)) a (j - 1) else l) else l
def insOut (lt : α → α → Bool) : Nat → List α → Nat → Nat → Nat → List α
  | 0, l, _, _, _ => l
  | f + 1, l, a, b, i => if i < b then insOut lt f (insIn lt (i - a + 1) l a i) a b (i + 1) else l
def insF (lt : α → α → Bool) (l : List α) (a b : Nat) : List α := insOut lt (b - a + 1) l a b (a + 1)

section
variable {lt : α → α → Bool} {L : α → α → Prop}
theorem insIn_ok (tr : ∀ x y z, L x y → L y z → L x z) : ∀ (f : Nat) (A X B : List α) (y : α) (a j : Nat), a = A.length → j = a + X.length → X.length < f → X.Pairwise L → (∀ x ∈ X, Cr lt L x y) →
    ∃ Z, insIn lt f (A ++ (X ++ y :: B)) a j = A ++ (Z ++ B) ∧ Z.Perm (X ++ [y]) ∧ Z.Pairwise L
  | 0, _, _, _, _, _, _, _, _, hf, _, _ => by omega
  | f + 1, A, X, B, y, a, j, ha, hj, hf, pX, hc => by
    rw [insIn]
    by_cases h0 : a < j
    · rw [if_pos h0]
      obtain ⟨X', x, rfl⟩ := ne_last (X := X) (by omega)
      simp at hj hf
      have g1 : (A ++ (X' ++ [x] ++ y :: B)).getD j default = y := by
        have := getD_mid (A ++ (X' ++ [x])) B y j (by simp; omega)
        simpa using this
      have g2 : (A ++ (X' ++ [x] ++ y :: B)).getD (j - 1) default = x := by
        have := getD_mid (A ++ X') (y :: B) x (j - 1) (by simp; omega)
        simpa using this
      rw [g1, g2]
      have pX' := (List.pairwise_append.1 pX).1
      by_cases hlt : lt y x = true
      · rw [if_pos hlt]
        have e := sw_mid (A ++ X') [] B x y (j - 1) j (by simp; omega) (by simp; omega)
        have e2 : sw (A ++ (X' ++ [x] ++ y :: B)) j (j - 1) = A ++ (X' ++ y :: (x :: B)) := by
          rw [sw_comm _ _ _ (by omega)]
          simpa using e
        rw [e2]
        obtain ⟨Z, h, q, p⟩ := insIn_ok tr f A X' (x :: B) y a (j - 1) ha (by omega) (by omega) pX' (fun z hz => hc z (by simp [hz]))
        refine ⟨Z ++ [x], by rw [h]; simp, ?_, List.pairwise_append.2 ⟨p, by simp, fun z hz w hw => ?_⟩⟩
        · have h1 := q.append_right [x]
          refine h1.trans ?_
          have h2 : ([y] ++ [x]).Perm ([x] ++ [y]) := List.perm_append_comm
          have := h2.append_left X'
          simpa using this
        · simp at hw
          subst hw
          rcases List.mem_append.1 (q.mem_iff.1 hz) with hz | hz
          · exact pw_last pX z hz
          · simp at hz; subst hz; exact (hc w (by simp)).1 hlt
      · rw [if_neg hlt]
        have hlt : lt y x = false := by simpa using hlt
        have h0 : L x y := (hc x (by simp)).2 hlt
        refine ⟨X' ++ [x] ++ [y], by simp, List.Perm.refl _, List.pairwise_append.2 ⟨pX, by simp, fun z hz w hw => ?_⟩⟩
        simp at hw
        subst hw
        rcases List.mem_append.1 hz with hz | hz
        · exact tr _ _ _ (pw_last pX z hz) h0
        · simp at hz; subst hz; exact h0
    · rw [if_neg h0]
      have : X = [] := List.eq_nil_of_length_eq_zero (by omega)
      subst this
      exact ⟨[y], by simp, by simp, by simp⟩
theorem insOut_ok (tr : ∀ x y z, L x y → L y z → L x z) : ∀ (f : Nat) (A Z D1 D2 B : List α) (a b i : Nat), a = A.length → i = a + Z.length → b = i + D2.length → D2.length < f → Z.Perm D1 → Z.Pairwise L → (D1 ++ D2).Pairwise (Cr lt L) →
    ∃ Z', insOut lt f (A ++ (Z ++ (D2 ++ B))) a b i = A ++ (Z' ++ B) ∧ Z'.Perm (D1 ++ D2) ∧ Z'.Pairwise L
  | 0, _, _, _, _, _, _, _, _, _, _, _, hf, _, _, _ => by omega
  | f + 1, A, Z, D1, D2, B, a, b, i, ha, hi, hb, hf, q, p, hc => by
    rw [insOut]
    cases D2 with
    | nil =>
      rw [if_neg (by simp at hb; omega)]
      exact ⟨Z, by simp, by simpa using q, p⟩
    | cons y D2 =>
      simp at hb hf
      rw [if_pos (by omega)]
      obtain ⟨Z', h, q', p'⟩ := insIn_ok (lt := lt) tr (i - a + 1) A Z (D2 ++ B) y a i ha hi (by omega) p (fun x hx => (List.pairwise_append.1 hc).2.2 x (q.mem_iff.1 hx) y (by simp))
      rw [show A ++ (Z ++ (y :: D2 ++ B)) = A ++ (Z ++ y :: (D2 ++ B)) by simp, h]
      have lZ : Z'.length = Z.length + 1 := by rw [q'.length_eq]; simp
      obtain ⟨Z'', h2, q2, p2⟩ := insOut_ok tr f A Z' (D1 ++ [y]) D2 B a b (i + 1) ha (by omega) (by omega) (by omega) (q'.trans (q.append_right [y])) p' (by simpa using hc)
      exact ⟨Z'', h2, by simpa using q2, p2⟩
theorem insF_ok (tr : ∀ x y z, L x y → L y z → L x z) (A D B : List α) (a b : Nat) (ha : a = A.length) (hb : b = a + D.length) (hc : D.Pairwise (Cr lt L)) :
    ∃ Z, insF lt (A ++ (D ++ B)) a b = A ++ (Z ++ B) ∧ Z.Perm D ∧ Z.Pairwise L := by
  unfold insF
  cases D with
  | nil =>
    refine ⟨[], ?_, List.Perm.refl _, List.Pairwise.nil⟩
    rw [insOut, if_neg (by simp at hb; omega)]
  | cons y D =>
    simp at hb
    have := insOut_ok (lt := lt) (L := L) tr (b - a + 1) A [y] [y] D B a b (a + 1) ha (by simp) (by omega) (by omega) (List.Perm.refl _) (by simp) (by simpa using hc)
    simpa using this

/-! ### blocks -/
/-- Blocks of bs elements (the last one may be shorter), each in order; what they were. -/
inductive Bl (L : α → α → Prop) (bs : Nat) : List α → List α → Prop
  | last {X X0 : List α} : X.Perm X0 → X.Pairwise L → X.length ≤ bs → Bl L bs X X0
  | cons {X X0 R R0 : List α} : X.Perm X0 → X.Pairwise L → X.length = bs → Bl L bs R R0 → Bl L bs (X ++ R) (X0 ++ R0)
theorem Bl.length {γ : Type} {L : γ → γ → Prop} {bs : Nat} {T T0 : List γ} (h : Bl L bs T T0) : T.length = T0.length := by
  induction h with
  | last q _ _ => exact q.length_eq
  | cons q _ _ _ ih => simp [q.length_eq, ih]
theorem Bl.whole {γ : Type} {L : γ → γ → Prop} {bs : Nat} {T T0 : List γ} (h : Bl L bs T T0) (hl : T.length ≤ bs) : T.Perm T0 ∧ T.Pairwise L := by
  cases h with
  | last q p _ => exact ⟨q, p⟩
  | @cons X X0 R R0 q p hx hr =>
    simp at hl
    have h1 : R = [] := List.eq_nil_of_length_eq_zero (by omega)
    have h2 := hr.length
    rw [h1] at h2
    have h3 := List.eq_nil_of_length_eq_zero h2.symm
    subst h1 h3
    simpa using ⟨q, p⟩
end

def blk1 (lt : α → α → Bool) : Nat → List α → Nat → Nat → Nat → List α
  | 0, l, _, _, _ => l
  | f + 1, l, a, b, n => if b ≤ n then blk1 lt f (insF lt l a b) b (b + 20) n else insF lt l a n
def mrg1 (lt : α → α → Bool) (bs : Nat) : Nat → List α → Nat → Nat → Nat → List α
  | 0, l, _, _, _ => l
  | f + 1, l, a, b, n => if b ≤ n then mrg1 lt bs f (symF lt (b - a) l a (a + bs) b) b (b + 2 * bs) n else if a + bs < n then symF lt (n - a) l a (a + bs) n else l
def mrg2 (lt : α → α → Bool) : Nat → List α → Nat → Nat → List α
  | 0, l, _, _ => l
  | f + 1, l, bs, n => if bs < n then mrg2 lt f (mrg1 lt bs (n + 1) l 0 (2 * bs) n) (bs * 2) n else l
def stableF (lt : α → α → Bool) (l : List α) : List α := mrg2 lt (l.length + 1) (blk1 lt (l.length + 1) l 0 20 l.length) 20 l.length

section
variable {lt : α → α → Bool} {L : α → α → Prop}
theorem blk1_ok (tr : ∀ x y z, L x y → L y z → L x z) : ∀ (f : Nat) (A R : List α) (a n : Nat), a = A.length → n = a + R.length → R.length < f → R.Pairwise (Cr lt L) →
    ∃ T, blk1 lt f (A ++ R) a (a + 20) n = A ++ T ∧ Bl L 20 T R
  | 0, _, _, _, _, _, _, hf, _ => by omega
  | f + 1, A, R, a, n, ha, hn, hf, hc => by
    rw [blk1]
    by_cases h : a + 20 ≤ n
    · rw [if_pos h]
      have e : R = R.take 20 ++ R.drop 20 := (List.take_append_drop 20 R).symm
      have l1 : (R.take 20).length = 20 := by simp; omega
      have l2 : (R.drop 20).length = R.length - 20 := by simp
      generalize R.take 20 = D at *
      generalize R.drop 20 = R' at *
      subst e
      obtain ⟨c1, c2, -⟩ := List.pairwise_append.1 hc
      obtain ⟨Z, h1, q, p⟩ := insF_ok (lt := lt) tr A D R' a (a + 20) ha (by omega) c1
      rw [h1]
      have lZ : Z.length = 20 := by rw [q.length_eq]; exact l1
      obtain ⟨T, h2, hb⟩ := blk1_ok tr f (A ++ Z) R' (a + 20) n (by simp; omega) (by simp at hn; omega) (by simp at hf; omega) c2
      refine ⟨Z ++ T, ?_, .cons q p lZ hb⟩
      rw [show A ++ (Z ++ R') = A ++ Z ++ R' by simp, h2]
      simp
    · rw [if_neg h]
      obtain ⟨Z, h1, q, p⟩ := insF_ok (lt := lt) tr A R [] a n ha (by omega) hc
      refine ⟨Z, by simpa using h1, .last q p ?_⟩
      rw [q.length_eq]
      omega

theorem mrg1_ok (tr : ∀ x y z, L x y → L y z → L x z) (bs : Nat) (hbs : 0 < bs) : ∀ (f : Nat) (A T T0 : List α) (a n : Nat), a = A.length → n = a + T.length → T.length < f → Bl L bs T T0 → T0.Pairwise (Cr lt L) →
    ∃ T', mrg1 lt bs f (A ++ T) a (a + 2 * bs) n = A ++ T' ∧ Bl L (bs * 2) T' T0
  | 0, _, _, _, _, _, _, _, hf, _, _ => by omega
  | f + 1, A, T, T0, a, n, ha, hn, hf, hB, hc => by
    rw [mrg1]
    cases hB with
    | last q p hl =>
      rw [if_neg (by omega), if_neg (by omega)]
      exact ⟨T, rfl, .last q p (by omega)⟩
    | @cons X X0 R R0 q p hl hR =>
      simp at hn hf
      obtain ⟨c1, c2, c3⟩ := List.pairwise_append.1 hc
      have crs : ∀ Y Y0 : List α, Y.Perm Y0 → (∀ y ∈ Y0, y ∈ R0) → ∀ x ∈ X, ∀ y ∈ Y, Cr lt L x y := fun Y Y0 qy hm x hx y hy => c3 x (q.mem_iff.1 hx) y (hm y (qy.mem_iff.1 hy))
      cases hR with
      | @last Y Y0 qy py hly =>
        by_cases h0 : R.length = 0
        · rw [if_neg (by omega), if_neg (by omega)]
          have e := List.eq_nil_of_length_eq_zero h0
          have e0 := List.eq_nil_of_length_eq_zero (qy.length_eq.symm.trans h0)
          subst e e0
          exact ⟨X ++ [], rfl, .last (by simpa using q) (by simpa using p) (by simp; omega)⟩
        · by_cases h1 : a + 2 * bs ≤ n
          · rw [if_pos h1]
            obtain ⟨Z, h, qz, pz⟩ := symF_ok (lt := lt) tr (a + 2 * bs - a) A X R [] a (a + bs) (a + 2 * bs) ha (by omega) (by omega) (by omega) (by omega) (by omega) p py (crs R R0 qy (fun y hy => hy))
            rw [show A ++ (X ++ R) = A ++ (X ++ (R ++ [])) by simp, h]
            have lZ : Z.length = 2 * bs := by rw [qz.length_eq]; simp; omega
            obtain ⟨T', h2, hb⟩ := mrg1_ok tr bs hbs f (A ++ Z) [] [] (a + 2 * bs) n (by simp; omega) (by simp; omega) (by simp; omega) (Bl.last (X := []) (X0 := []) (List.Perm.refl _) List.Pairwise.nil (Nat.zero_le _)) List.Pairwise.nil
            have hT : T' = [] := List.eq_nil_of_length_eq_zero (by have := hb.length; simpa using this)
            subst hT
            refine ⟨Z, by rw [show A ++ (Z ++ []) = A ++ Z ++ [] by simp, h2]; simp, .last (qz.trans (q.append qy)) pz (by omega)⟩
          · rw [if_neg h1, if_pos (by omega)]
            obtain ⟨Z, h, qz, pz⟩ := symF_ok (lt := lt) tr (n - a) A X R [] a (a + bs) n ha (by omega) (by omega) (by omega) (by omega) (by omega) p py (crs R R0 qy (fun y hy => hy))
            have lZ : Z.length = n - a := by rw [qz.length_eq]; simp; omega
            refine ⟨Z, by rw [show A ++ (X ++ R) = A ++ (X ++ (R ++ [])) by simp, h]; simp, .last (qz.trans (q.append qy)) pz (by omega)⟩
      | @cons Y Y0 R' R0' qy py hly hR' =>
        simp at hn hf
        rw [if_pos (by omega)]
        obtain ⟨Z, h, qz, pz⟩ := symF_ok (lt := lt) tr (a + 2 * bs - a) A X Y R' a (a + bs) (a + 2 * bs) ha (by omega) (by omega) (by omega) (by omega) (by omega) p py (crs Y Y0 qy (fun y hy => by simp [hy]))
        rw [h]
        have lZ : Z.length = 2 * bs := by rw [qz.length_eq]; simp; omega
        obtain ⟨T', h2, hb⟩ := mrg1_ok tr bs hbs f (A ++ Z) R' R0' (a + 2 * bs) n (by simp; omega) (by omega) (by omega) hR' (List.pairwise_append.1 c2).2.1
        refine ⟨Z ++ T', by rw [show A ++ (Z ++ R') = A ++ Z ++ R' by simp, h2]; simp, ?_⟩
        have := Bl.cons (L := L) (bs := bs * 2) (qz.trans (q.append qy)) pz (by omega) hb
        simpa using this

theorem mrg2_ok (tr : ∀ x y z, L x y → L y z → L x z) : ∀ (f : Nat) (l l0 : List α) (bs : Nat), 0 < bs → l.length < bs + f → Bl L bs l l0 → l0.Pairwise (Cr lt L) → (mrg2 lt f l bs l.length).Perm l0 ∧ (mrg2 lt f l bs l.length).Pairwise L
  | 0, l, l0, bs, _, hf, hB, _ => by rw [mrg2]; exact hB.whole (by omega)
  | f + 1, l, l0, bs, hbs, hf, hB, hc => by
    rw [mrg2]
    by_cases h : bs < l.length
    · rw [if_pos h]
      obtain ⟨T, h1, hT⟩ := mrg1_ok (lt := lt) tr bs hbs (l.length + 1) [] l l0 0 l.length rfl (by simp) (by omega) hB hc
      simp at h1
      rw [h1]
      have e : T.length = l.length := by rw [hT.length, hB.length]
      have := mrg2_ok tr f T l0 (bs * 2) (by omega) (by omega) hT hc
      rwa [e] at this
    · rw [if_neg h]
      exact hB.whole (by omega)

/-- The stable sort: all elements, in the order. -/
theorem stable_ok (tr : ∀ x y z, L x y → L y z → L x z) (l : List α) (hc : l.Pairwise (Cr lt L)) : (stableF lt l).Perm l ∧ (stableF lt l).Pairwise L := by
  unfold stableF
  obtain ⟨T, h, hB⟩ := blk1_ok (lt := lt) tr (l.length + 1) [] l 0 l.length rfl (by simp) (by omega) hc
  simp at h
  rw [h]
  have e : T.length = l.length := hB.length
  have := mrg2_ok (lt := lt) tr (l.length + 1) T l 20 (by omega) (by omega) hB hc
  rwa [e] at this

/-- Two lists of the same elements that are in a strict order are one. -/
theorem sorted_unique {γ : Type} {L : γ → γ → Prop} (tr : ∀ x y z, L x y → L y z → L x z) (ir : ∀ x, ¬ L x x) : ∀ (X Y : List γ), X.Perm Y → X.Pairwise L → Y.Pairwise L → X = Y
  | [], Y, h, _, _ => (List.nil_perm.1 h).symm
  | x :: X, [], h, _, _ => by have := h.length_eq; simp at this
  | x :: X, y :: Y, h, pX, pY => by
    have hxy : x = y := by
      have h1 : x ∈ y :: Y := h.mem_iff.1 (by simp)
      have h2 : y ∈ x :: X := h.mem_iff.2 (by simp)
      rcases List.mem_cons.1 h1 with h1 | h1
      · exact h1
      · rcases List.mem_cons.1 h2 with h2 | h2
        · exact h2.symm
        · exact absurd (tr _ _ _ ((List.pairwise_cons.1 pX).1 y h2) ((List.pairwise_cons.1 pY).1 x h1)) (ir x)
    subst hxy
    rw [sorted_unique tr ir X Y ((List.perm_cons x).1 h) (List.pairwise_cons.1 pX).2 (List.pairwise_cons.1 pY).2]
end
end Go.Proofs.Ytecpddkbbfpeeaa.Stab
