/- Rows of elements of nine cells; books in places: plain data, how a rack reads when it comes in, the law's copies and comparisons: contracts. Condition: no longer than a slice can be (the copies: than the law tests). -/
import Derived.Test.YtkojnepgeegalaaDoorNums
import Derived.Test.YtkojnepgeegalaaDoorQuiet
namespace Go.Proofs.YtkojnepgeegalaaDoor
set_option linter.unusedSimpArgs false
set_option linter.unusedVariables false
set_option maxRecDepth 100000
open Go.ChangeShapes Go.WideShapes Go.ChangeAt Go.RowKit Go.Deep

/-! ### rows of nine cells -/
section
variable {α : Type}
def AtN (cel : α → List Value) (w : World) (g o : Nat) (xs : List α) : Prop := ∀ (i : Nat) (hi : i < xs.length) (j : Nat) (v : Value), (cel xs[i])[j]? = some v → w.cell? ⟨g, o + i * 9 + j, none⟩ = some v
def SliceN (cel : α → List Value) (w : World) (v : Value) (xs : List α) : Prop :=
  ∃ A c, v = .slice A xs.length c ∧ (0 < xs.length → ∃ g o, A = some ⟨g, o, none⟩ ∧ g < w.heap.size ∧ AtN cel w g o xs)
/-- Block g is a row of n elements, the first k of which are those of the list. -/
def RowN (cel : α → List Value) (t : TypeId) (w : World) (g : Nat) (xs : List α) (k n : Nat) : Prop :=
  ∃ cs : Array Value, w.heap[g]? = some (.cells cs t (0, 0)) ∧ cs.size = n * 9 ∧ ∀ (i : Nat) (hi : i < xs.length), i < k → ∀ (j : Nat) (v : Value), (cel xs[i])[j]? = some v → cs[i * 9 + j]? = some v
variable {cel : α → List Value}
theorem AtN.below {w w' : World} {B g o : Nat} {xs : List α} (h : AtN cel w g o xs) (hb : Below B w w') (hg : g < B) : AtN cel w' g o xs :=
  fun i hi j v hv => (hb.cell (p := ⟨g, o + i * 9 + j, none⟩) hg).trans (h i hi j v hv)
theorem SliceN.below {w w' : World} {v : Value} {xs : List α} (h : SliceN cel w v xs) (hb : Below w.heap.size w w') : SliceN cel w' v xs := by
  obtain ⟨A, c, rfl, h⟩ := h
  refine ⟨A, c, rfl, fun h0 => ?_⟩
  obtain ⟨g, o, rfl, hg, hh⟩ := h h0
  exact ⟨g, o, rfl, Nat.lt_of_lt_of_le hg hb.size, hh.below hb hg⟩
theorem RowN.lt {t : TypeId} {w : World} {g k n : Nat} {xs : List α} (h : RowN cel t w g xs k n) : g < w.heap.size := by
  obtain ⟨cs, h, _⟩ := h
  exact (Array.getElem?_eq_some_iff.1 h).1
theorem RowN.below {t : TypeId} {w w' : World} {B g k n : Nat} {xs : List α} (h : RowN cel t w g xs k n) (hb : Below B w w') (hg : g < B) : RowN cel t w' g xs k n := by
  obtain ⟨cs, h, h2⟩ := h
  exact ⟨cs, (hb.block g hg).trans h, h2⟩
theorem RowN.at_ {t : TypeId} {w : World} {g N : Nat} {xs : List α} (h : RowN cel t w g xs xs.length N) : AtN cel w g 0 xs := by
  obtain ⟨cs, h, _, h3⟩ := h
  intro i hi j v hv
  rw [cell_of_row w g _ cs _ _ h, Nat.zero_add]
  exact h3 i hi hi j v hv
theorem RowN.slice {t : TypeId} {w : World} {g N c : Nat} {xs : List α} (h : RowN cel t w g xs xs.length N) : SliceN cel w (.slice (some ⟨g, 0, none⟩) xs.length c) xs :=
  ⟨_, _, rfl, fun _ => ⟨g, 0, rfl, h.lt, h.at_⟩⟩
theorem RowN.frozen {t : TypeId} {w : World} {g k n : Nat} {xs : List α} (h : RowN cel t w g xs k n) (o : Nat) : w.frozen? ⟨g, o, none⟩ = false := by
  obtain ⟨cs, h, _⟩ := h
  exact frozen_of_row w g _ cs _ h
theorem RowN.cells9 {t : TypeId} {w : World} {g k n : Nat} {xs : List α} (h : RowN cel t w g xs k n) (i : Nat) (hi : i < n) :
    (∃ u, w.cell? ⟨g, i * 9, none⟩ = some u) ∧ (∃ u, w.cell? ⟨g, i * 9 + 1, none⟩ = some u) ∧ (∃ u, w.cell? ⟨g, i * 9 + 2, none⟩ = some u) ∧ (∃ u, w.cell? ⟨g, i * 9 + 3, none⟩ = some u) ∧
    (∃ u, w.cell? ⟨g, i * 9 + 4, none⟩ = some u) ∧ (∃ u, w.cell? ⟨g, i * 9 + 5, none⟩ = some u) ∧ (∃ u, w.cell? ⟨g, i * 9 + 6, none⟩ = some u) ∧ (∃ u, w.cell? ⟨g, i * 9 + 7, none⟩ = some u) ∧ (∃ u, w.cell? ⟨g, i * 9 + 8, none⟩ = some u) := by
  obtain ⟨cs, h, h2, _⟩ := h
  have e : ∀ j, j < 9 → ∃ u, w.cell? ⟨g, i * 9 + j, none⟩ = some u := fun j hj => by
    rw [cell_of_row w g _ cs _ _ h]
    exact ⟨cs[i * 9 + j]'(by omega), Array.getElem?_eq_getElem (by omega)⟩
  exact ⟨e 0 (by omega), e 1 (by omega), e 2 (by omega), e 3 (by omega), e 4 (by omega), e 5 (by omega), e 6 (by omega), e 7 (by omega), e 8 (by omega)⟩
/-- Nine stores: a whole element. -/
def set9 (w : World) (g o : Nat) (v0 v1 v2 v3 v4 v5 v6 v7 v8 : Value) : World :=
  ((((((((w.setCell ⟨g, o, none⟩ v0).setCell ⟨g, o + 1, none⟩ v1).setCell ⟨g, o + 2, none⟩ v2).setCell ⟨g, o + 3, none⟩ v3).setCell ⟨g, o + 4, none⟩ v4).setCell ⟨g, o + 5, none⟩ v5).setCell ⟨g, o + 6, none⟩ v6).setCell ⟨g, o + 7, none⟩ v7).setCell ⟨g, o + 8, none⟩ v8
theorem set9_heap {w : World} {g o : Nat} {v0 v1 v2 v3 v4 v5 v6 v7 v8 : Value} {cs : Array Value} {t : TypeId} (h : w.heap[g]? = some (.cells cs t (0, 0))) :
    (set9 w g o v0 v1 v2 v3 v4 v5 v6 v7 v8).heap[g]? = some (.cells (((((((((cs.setIfInBounds o v0).setIfInBounds (o + 1) v1).setIfInBounds (o + 2) v2).setIfInBounds (o + 3) v3).setIfInBounds (o + 4) v4).setIfInBounds (o + 5) v5).setIfInBounds (o + 6) v6).setIfInBounds (o + 7) v7).setIfInBounds (o + 8) v8) t (0, 0)) := by
  unfold set9
  exact heap_setCell_same _ _ _ _ _ _ (heap_setCell_same _ _ _ _ _ _ (heap_setCell_same _ _ _ _ _ _ (heap_setCell_same _ _ _ _ _ _ (heap_setCell_same _ _ _ _ _ _ (heap_setCell_same _ _ _ _ _ _ (heap_setCell_same _ _ _ _ _ _ (heap_setCell_same _ _ _ _ _ _ (heap_setCell_same _ _ _ _ _ _ h))))))))
theorem set9_below {a w : World} {B g o : Nat} {v0 v1 v2 v3 v4 v5 v6 v7 v8 : Value} (h : Below B a w) (hg : B ≤ g) : Below B a (set9 w g o v0 v1 v2 v3 v4 v5 v6 v7 v8) :=
  ((((((((h.setCell (p := ⟨g, o, none⟩) hg _).setCell (p := ⟨g, o + 1, none⟩) hg _).setCell (p := ⟨g, o + 2, none⟩) hg _).setCell (p := ⟨g, o + 3, none⟩) hg _).setCell (p := ⟨g, o + 4, none⟩) hg _).setCell (p := ⟨g, o + 5, none⟩) hg _).setCell (p := ⟨g, o + 6, none⟩) hg _).setCell (p := ⟨g, o + 7, none⟩) hg _).setCell (p := ⟨g, o + 8, none⟩) hg _
theorem nine {j : Nat} (h : j < 9) : j = 0 ∨ j = 1 ∨ j = 2 ∨ j = 3 ∨ j = 4 ∨ j = 5 ∨ j = 6 ∨ j = 7 ∨ j = 8 := by omega
theorem set9_get {cs : Array Value} {n : Nat} (v0 v1 v2 v3 v4 v5 v6 v7 v8 : Value) (hs : cs.size = n * 9) (i j k : Nat) (hj : j < 9) (hk : k < n) (hi : i < n) :
    (((((((((cs.setIfInBounds (k * 9) v0).setIfInBounds (k * 9 + 1) v1).setIfInBounds (k * 9 + 2) v2).setIfInBounds (k * 9 + 3) v3).setIfInBounds (k * 9 + 4) v4).setIfInBounds (k * 9 + 5) v5).setIfInBounds (k * 9 + 6) v6).setIfInBounds (k * 9 + 7) v7).setIfInBounds (k * 9 + 8) v8)[i * 9 + j]? =
      if i = k then [v0, v1, v2, v3, v4, v5, v6, v7, v8][j]? else cs[i * 9 + j]? := by
  simp only [Array.getElem?_setIfInBounds, Array.size_setIfInBounds, hs]
  by_cases e : i = k
  · subst e
    rw [if_pos rfl]
    rcases nine hj with rfl | rfl | rfl | rfl | rfl | rfl | rfl | rfl | rfl
    all_goals (repeat first | rw [if_neg (by omega)] | rw [if_pos (by omega), if_pos (by omega)] | rw [if_pos (by omega)])
    all_goals rfl
  · rw [if_neg e]
    iterate 9 (rw [if_neg (by omega)])
theorem RowN.put {t : TypeId} {w : World} {g k n : Nat} {xs : List α} (h : RowN cel t w g xs k n) (i : Nat) (hi : i < xs.length) (hn : i < n) (x : α) (v0 v1 v2 v3 v4 v5 v6 v7 v8 : Value) (e : cel x = [v0, v1, v2, v3, v4, v5, v6, v7, v8]) (h9 : ∀ y, (cel y).length = 9) (hl : xs.length ≤ n) :
    RowN cel t (set9 w g (i * 9) v0 v1 v2 v3 v4 v5 v6 v7 v8) g (xs.set i x) k n := by
  obtain ⟨cs, h1, h2, h3⟩ := h
  refine ⟨_, set9_heap h1, by simpa using h2, fun i' hi' hik j v hv => ?_⟩
  have hl' : i' < xs.length := by simpa using hi'
  have hj : j < 9 := by have := (List.getElem?_eq_some_iff.1 hv).1; rwa [h9] at this
  rw [set9_get v0 v1 v2 v3 v4 v5 v6 v7 v8 h2 i' j i hj hn (by omega)]
  by_cases e1 : i' = i
  · subst e1
    rw [List.getElem_set_self, e] at hv
    rw [if_pos rfl]
    exact hv
  · rw [List.getElem_set_ne (by omega)] at hv
    rw [if_neg e1]
    exact h3 i' hl' hik j v hv
theorem RowN.step {t : TypeId} {w : World} {g k n : Nat} {xs : List α} (h : RowN cel t w g xs k n) (hk : k < xs.length) (hl : xs.length ≤ n) (v0 v1 v2 v3 v4 v5 v6 v7 v8 : Value) (e : cel xs[k] = [v0, v1, v2, v3, v4, v5, v6, v7, v8]) (h9 : ∀ y, (cel y).length = 9) :
    RowN cel t (set9 w g (k * 9) v0 v1 v2 v3 v4 v5 v6 v7 v8) g xs (k + 1) n := by
  obtain ⟨cs, h1, h2, h3⟩ := h
  refine ⟨_, set9_heap h1, by simpa using h2, fun i' hi' hik j v hv => ?_⟩
  have hj : j < 9 := by have := (List.getElem?_eq_some_iff.1 hv).1; rwa [h9] at this
  rw [set9_get v0 v1 v2 v3 v4 v5 v6 v7 v8 h2 i' j k hj (by omega) (by omega)]
  by_cases e1 : i' = k
  · subst e1
    rw [e] at hv
    rw [if_pos rfl]
    exact hv
  · rw [if_neg e1]
    exact h3 i' hi' (by omega) j v hv
theorem RowN.made (t : TypeId) (w : World) (zs : Array Value) (xs : List α) (n : Nat) : RowN cel t (w.alloc (.cells (madeCells zs (n * 9)) t)) w.heap.size xs 0 n :=
  ⟨_, heap_alloc_new w _, size_madeCells _ _, fun _ _ h => absurd h (Nat.not_lt_zero _)⟩
theorem list_ofN (n : Nat) (p : Nat → α → Prop) (h : ∀ i, i < n → ∃ b, p i b) : ∃ xs : List α, xs.length = n ∧ ∀ i (hi : i < xs.length), p i xs[i] := by
  induction n with
  | zero => exact ⟨[], rfl, fun i hi => absurd hi (Nat.not_lt_zero _)⟩
  | succ n ih =>
    obtain ⟨xs, hl, hp⟩ := ih fun i hi => h i (by omega)
    obtain ⟨b, hb⟩ := h n (by omega)
    refine ⟨xs ++ [b], by simp [hl], fun i hi => ?_⟩
    by_cases e : i < xs.length
    · rw [List.getElem_append_left e]; exact hp i e
    · have : i = n := by simp at hi; omega
      subst this
      rw [List.getElem_append_right (by omega)]
      simpa [hl] using hb
/-- The cells of a list, one behind the other. -/
def flN (cel : α → List Value) (xs : List α) : List Value := xs.flatMap cel
theorem flN_snoc (xs : List α) (x : α) : flN cel (xs ++ [x]) = flN cel xs ++ cel x := by unfold flN; rw [List.flatMap_append]; simp
theorem flN_at (h9 : ∀ y, (cel y).length = 9) : ∀ (L : List α) (i : Nat) (h : i < L.length) (j : Nat), j < 9 → (flN cel L)[i * 9 + j]? = (cel L[i])[j]?
  | [], i, h, _, _ => absurd h (Nat.not_lt_zero _)
  | b :: t, 0, _, j, hj => by
    show (cel b ++ flN cel t)[0 * 9 + j]? = _
    rw [Nat.zero_mul, Nat.zero_add, List.getElem?_append_left (by rw [h9]; exact hj)]
    rfl
  | b :: t, i + 1, h, j, hj => by
    show (cel b ++ flN cel t)[(i + 1) * 9 + j]? = _
    rw [List.getElem?_append_right (by rw [h9]; omega), h9, show (i + 1) * 9 + j - 9 = i * 9 + j by omega]
    exact flN_at h9 t i (by simpa using h) j hj
/-- No list, or a block of its own. -/
def ResN (cel : α → List Value) (t : TypeId) (w : World) (base : Nat) (v : Value) (ys : List α) : Prop :=
  (v = .slice none 0 0 ∧ ys = []) ∨ ∃ g N, v = .slice (some ⟨g, 0, none⟩) ys.length N ∧ base ≤ g ∧ RowN cel t w g ys ys.length N ∧ ys.length ≤ N
theorem ResN.slice {t : TypeId} {w : World} {base : Nat} {v : Value} {ys : List α} (h : ResN cel t w base v ys) : SliceN cel w v ys := by
  rcases h with ⟨rfl, rfl⟩ | ⟨g, N, rfl, hb, hr, hn⟩
  · exact ⟨none, 0, rfl, fun h => absurd h (Nat.lt_irrefl _)⟩
  · exact ⟨_, N, rfl, fun _ => ⟨g, 0, rfl, hr.lt, hr.at_⟩⟩
theorem ResN.below {t : TypeId} {w w' : World} {base : Nat} {v : Value} {ys : List α} (h : ResN cel t w base v ys) (hb : Below w.heap.size w w') : ResN cel t w' base v ys := by
  rcases h with h | ⟨g, N, rfl, h1, hr, hn⟩
  · exact .inl h
  · exact .inr ⟨g, N, rfl, h1, hr.below hb hr.lt, hn⟩
theorem ResN.mono {t : TypeId} {w : World} {base base' : Nat} {v : Value} {ys : List α} (h : ResN cel t w base v ys) (hb : base' ≤ base) : ResN cel t w base' v ys := by
  rcases h with h | ⟨g, N, rfl, h1, hr, hn⟩
  · exact .inl h
  · exact .inr ⟨g, N, rfl, Nat.le_trans hb h1, hr, hn⟩
theorem ResN.lt {t : TypeId} {w : World} {base : Nat} {v : Value} {ys : List α} (h : ResN cel t w base v ys) : ∀ k, v.ownBlock = some k → base ≤ k ∧ k < w.heap.size := by
  intro k hk
  rcases h with ⟨rfl, _⟩ | ⟨g, N, rfl, h1, hr, hn⟩
  · cases hk
  · obtain rfl : g = k := by injection hk
    exact ⟨h1, hr.lt⟩
theorem ResN.other {t : TypeId} {w w' : World} {base : Nat} {v : Value} {ys : List α} {row : Option Nat} (h : ResN cel t w base v ys) (hg : w.grownBy w' row) (hne : ∀ k, v.ownBlock = some k → some k ≠ row) : ResN cel t w' base v ys := by
  rcases h with h | ⟨g, N, rfl, h1, hr, hn⟩
  · exact .inl h
  · obtain ⟨cs, e1, e2⟩ := hr
    exact .inr ⟨g, N, rfl, h1, ⟨cs, (hg.block g (Array.getElem?_eq_some_iff.1 e1).1 (hne g rfl)).trans e1, e2⟩, hn⟩
theorem ResN.of {t : TypeId} {w : World} {base n : Nat} {v : Value} {ys : List α} (h9 : ∀ y, (cel y).length = 9) (h : w.ownsRow base t 9 v n (flN cel ys)) (hn : n = ys.length) : ResN cel t w base v ys := by
  rcases h.2 with ⟨rfl, h0⟩ | ⟨g, cap, cur, rfl, hb, hg, hc, _, hs, ht⟩
  · exact .inl ⟨rfl, List.eq_nil_of_length_eq_zero (by omega)⟩
  · subst hn
    refine .inr ⟨g, cap, rfl, hb, ⟨cur, hg, hs, fun i hi _ j v hv => ?_⟩, hc⟩
    have hj : j < 9 := by have := (List.getElem?_eq_some_iff.1 hv).1; rwa [h9] at this
    have e := flN_at h9 ys i hi j hj
    rw [← ht, List.getElem?_take, if_pos (by omega), Array.getElem?_toList] at e
    rw [e]
    exact hv
end

/-! ### books in places -/
structure Pl where
  p : Int
  b : Bk
  deriving DecidableEq, Inhabited
structure Pl.Wf (x : Pl) : Prop where
  p : -32768 ≤ x.p ∧ x.p ≤ 32767
  b : x.b.Wf
def Pl.cells (x : Pl) : List Value := [.int .i16 x.p, .int .i16 x.b.c, .int .u8 x.b.m0, .int .u8 x.b.m1, .int .u8 x.b.m2, .int .i16 x.b.v, .int .i16 x.b.wi, .int .i16 x.b.hi, .int .i16 x.b.we]
theorem Pl.nine (x : Pl) : x.cells.length = 9 := rfl
abbrev PlsOf := SliceN Pl.cells
theorem plAt_some {w : World} {g o : Nat} {xs : List Pl} (h : AtN Pl.cells w g o xs) {i : Nat} (hi : i < xs.length) :
    w.cell? ⟨g, o + i * 9, none⟩ = some (.int .i16 xs[i].p) ∧ w.cell? ⟨g, o + i * 9 + 1, none⟩ = some (.int .i16 xs[i].b.c) ∧ w.cell? ⟨g, o + i * 9 + 2, none⟩ = some (.int .u8 xs[i].b.m0) ∧ w.cell? ⟨g, o + i * 9 + 3, none⟩ = some (.int .u8 xs[i].b.m1) ∧ w.cell? ⟨g, o + i * 9 + 4, none⟩ = some (.int .u8 xs[i].b.m2) ∧
    w.cell? ⟨g, o + i * 9 + 5, none⟩ = some (.int .i16 xs[i].b.v) ∧ w.cell? ⟨g, o + i * 9 + 6, none⟩ = some (.int .i16 xs[i].b.wi) ∧ w.cell? ⟨g, o + i * 9 + 7, none⟩ = some (.int .i16 xs[i].b.hi) ∧ w.cell? ⟨g, o + i * 9 + 8, none⟩ = some (.int .i16 xs[i].b.we) :=
  ⟨h i hi 0 _ rfl, h i hi 1 _ rfl, h i hi 2 _ rfl, h i hi 3 _ rfl, h i hi 4 _ rfl, h i hi 5 _ rfl, h i hi 6 _ rfl, h i hi 7 _ rfl, h i hi 8 _ rfl⟩

structure Rk where
  n : Int
  ps : List Pl
structure Rk.Wf (r : Rk) : Prop where
  n : -32768 ≤ r.n ∧ r.n ≤ 32767
  ps : ∀ x ∈ r.ps, x.Wf


/-! ### the law's functions -/
theorem infoPlaced : (Tryd.prog.info? 99).map (fun i => (i.zero, i.size, i.bytes)) = some (some (.agg #[.int .i16 0, .int .i16 0, .int .u8 0, .int .u8 0, .int .u8 0, .int .i16 0, .int .i16 0, .int .i16 0, .int .i16 0]), 9, 16) := by kernel_rfl
end Go.Proofs.YtkojnepgeegalaaDoor
