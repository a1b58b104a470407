/- Rows of elements of nine cells; books in places: plain data, how a rack reads when it comes in, the law's copies and comparisons: contracts. Condition: no longer than a slice can be (the copies: than the law tests). -/
import Derived.Test.YtgmipobohnagnaaDoorNums
import Derived.Test.YtgmipobohnagnaaDoorQuiet
namespace Go.Proofs.YtgmipobohnagnaaDoor
set_option linter.unusedSimpArgs false
set_option linter.unusedVariables false
set_option maxRecDepth 100000
open Go.ChangeShapes Go.WideShapes Go.ChangeAt Go.RowKit Go.Deep

/-! ### rows of nine cells -/
section
variable {α : Type}
def AtN (cel : α → List Value) (w : World) (g o : Nat) (xs : List α) : Prop := ∀ (i : Nat) (hi : i < xs.length) (j : Nat) (v : Value), (cel xs[i])[j]? = some v → w.cell? ⟨g, o + i * 9 + j, none⟩ = some v
def SliceN (cel : α → List Value) (w : World) (v : Value) (xs : List α) : Prop :=
  ∃ A c, v = .slice A xs.length c ∧ (0 < xs.length → ∃ g o, A = some ⟨g, o, none⟩ ∧ g < w.heap.size ∧ AtN cel w g o xs)
/-- Block g is a row of n elements, the first k of which are those of the list. -/
def RowN (cel : α → List Value) (t : TypeId) (w : World) (g : Nat) (xs : List α) (k n : Nat) : Prop :=
  ∃ cs : Array Value, w.heap[g]? = some (.cells cs t (0, 0)) ∧ cs.size = n * 9 ∧ ∀ (i : Nat) (hi : i < xs.length), i < k → ∀ (j : Nat) (v : Value), (cel xs[i])[j]? = some v → cs[i * 9 + j]? = some v
variable {cel : α → List Value}
theorem AtN.below {w w' : World} {B g o : Nat} {xs : List α} (h : AtN cel w g o xs) (hb : Below B w w') (hg : g < B) : AtN cel w' g o xs :=
  fun i hi j v hv => (hb.cell (p := ⟨g, o + i * 9 + j, none⟩) hg).trans (h i hi j v hv)
theorem SliceN.below {w w' : World} {v : Value} {xs : List α} (h : SliceN cel w v xs) (hb : Below w.heap.size w w') : SliceN cel w' v xs := by
  obtain ⟨A, c, rfl, h⟩ := h
  refine ⟨A, c, rfl, fun h0 => ?_⟩
  obtain ⟨g, o, rfl, hg, hh⟩ := h h0
  exact ⟨g, o, rfl, Nat.lt_of_lt_of_le hg hb.size, hh.below hb hg⟩
theorem RowN.lt {t : TypeId} {w : World} {g k n : Nat} {xs : List α} (h : RowN cel t w g xs k n) : g < w.heap.size := by
  obtain ⟨cs, h, _⟩ := h
  exact (Array.getElem?_eq_some_iff.1 h).1
theorem RowN.below {t : TypeId} {w w' : World} {B g k n : Nat} {xs : List α} (h : RowN cel t w g xs k n) (hb : Below B w w') (hg : g < B) : RowN cel t w' g xs k n := by
  obtain ⟨cs, h, h2⟩ := h
  exact ⟨cs, (hb.block g hg).trans h, h2⟩
theorem RowN.at_ {t : TypeId} {w : World} {g N : Nat} {xs : List α} (h : RowN cel t w g xs xs.length N) : AtN cel w g 0 xs := by
  obtain ⟨cs, h, _, h3⟩ := h
  intro i hi j v hv
  rw [cell_of_row w g _ cs _ _ h, Nat.zero_add]
  exact h3 i hi hi j v hv
theorem RowN.slice {t : TypeId} {w : World} {g N c : Nat} {xs : List α} (h : RowN cel t w g xs xs.length N) : SliceN cel w (.slice (some ⟨g, 0, none⟩) xs.length c) xs :=
  ⟨_, _, rfl, fun _ => ⟨g, 0, rfl, h.lt, h.at_⟩⟩
theorem RowN.frozen {t : TypeId} {w : World} {g k n : Nat} {xs : List α} (h : RowN cel t w g xs k n) (o : Nat) : w.frozen? ⟨g, o, none⟩ = false := by
  obtain ⟨cs, h, _⟩ := h
  exact frozen_of_row w g _ cs _ h
theorem RowN.cells9 {t : TypeId} {w : World} {g k n : Nat} {xs : List α} (h : RowN cel t w g xs k n) (i : Nat) (hi : i < n) :
    (∃ u, w.cell? ⟨g, i * 9, none⟩ = some u) ∧ (∃ u, w.cell? ⟨g, i * 9 + 1, none⟩ = some u) ∧ (∃ u, w.cell? ⟨g, i * 9 + 2, none⟩ = some u) ∧ (∃ u, w.cell? ⟨g, i * 9 + 3, none⟩ = some u) ∧
    (∃ u, w.cell? ⟨g, i * 9 + 4, none⟩ = some u) ∧ (∃ u, w.cell? ⟨g, i * 9 + 5, none⟩ = some u) ∧ (∃ u, w.cell? ⟨g, i * 9 + 6, none⟩ = some u) ∧ (∃ u, w.cell? ⟨g, i * 9 + 7, none⟩ = some u) ∧ (∃ u, w.cell? ⟨g, i * 9 + 8, none⟩ = some u) := by
  obtain ⟨cs, h, h2, _⟩ := h
  have e : ∀ j, j < 9 → ∃ u, w.cell? ⟨g, i * 9 + j, none⟩ = some u := fun j hj => by
    rw [cell_of_row w g _ cs _ _ h]
    exact ⟨cs[i * 9 + j]'(by omega), Array.getElem?_eq_getElem (by omega)⟩
  exact ⟨e 0 (by omega), e 1 (by omega), e 2 (by omega), e 3 (by omega), e 4 (by omega), e 5 (by omega), e 6 (by omega), e 7 (by omega), e 8 (by omega)⟩
/-- Nine stores: a whole element. -/
def set9 (w : World) (g o : Nat) (v0 v1 v2 v3 v4 v5 v6 v7 v8 : Value) : World :=
  ((((((((w.setCell ⟨g, o, none⟩ v0).setCell ⟨g, o + 1, none⟩ v1).setCell ⟨g, o + 2, none⟩ v2).setCell ⟨g, o + 3, none⟩ v3).setCell ⟨g, o + 4, none⟩ v4).setCell ⟨g, o + 5, none⟩ v5).setCell ⟨g, o + 6, none⟩ v6).setCell ⟨g, o + 7, none⟩ v7).setCell ⟨g, o + 8, none⟩ v8
theorem set9_heap {w : World} {g o : Nat} {v0 v1 v2 v3 v4 v5 v6 v7 v8 : Value} {cs : Array Value} {t : TypeId} (h : w.heap[g]? = some (.cells cs t (0, 0))) :
    (set9 w g o v0 v1 v2 v3 v4 v5 v6 v7 v8).heap[g]? = some (.cells (((((((((cs.setIfInBounds o v0).setIfInBounds (o + 1) v1).setIfInBounds (o + 2) v2).setIfInBounds (o + 3) v3).setIfInBounds (o + 4) v4).setIfInBounds (o + 5) v5).setIfInBounds (o + 6) v6).setIfInBounds (o + 7) v7).setIfInBounds (o + 8) v8) t (0, 0)) := by
  unfold set9
  exact heap_setCell_same _ _ _ _ _ _ (heap_setCell_same _ _ _ _ _ _ (heap_setCell_same _ _ _ _ _ _ (heap_setCell_same _ _ _ _ _ _ (heap_setCell_same _ _ _ _ _ _ (heap_setCell_same _ _ _ _ _ _ (heap_setCell_same _ _ _ _ _ _ (heap_setCell_same _ _ _ _ _ _ (heap_setCell_same _ _ _ _ _ _ h))))))))
theorem set9_below {a w : World} {B g o : Nat} {v0 v1 v2 v3 v4 v5 v6 v7 v8 : Value} (h : Below B a w) (hg : B ≤ g) : Below B a (set9 w g o v0 v1 v2 v3 v4 v5 v6 v7 v8) :=
  ((((((((h.setCell (p := ⟨g, o, none⟩) hg _).setCell (p := ⟨g, o + 1, none⟩) hg _).setCell (p := ⟨g, o + 2, none⟩) hg _).setCell (p := ⟨g, o + 3, none⟩) hg _).setCell (p := ⟨g, o + 4, none⟩) hg _).setCell (p := ⟨g, o + 5, none⟩) hg _).setCell (p := ⟨g, o + 6, none⟩) hg _).setCell (p := ⟨g, o + 7, none⟩) hg _).setCell (p := ⟨g, o + 8, none⟩) hg _
theorem nine {j : Nat} (h : j < 9) : j = 0 ∨ j = 1 ∨ j = 2 ∨ j = 3 ∨ j = 4 ∨ j = 5 ∨ j = 6 ∨ j = 7 ∨ j = 8 := by omega
theorem set9_get {cs : Array Value} {n : Nat} (v0 v1 v2 v3 v4 v5 v6 v7 v8 : Value) (hs : cs.size = n * 9) (i j k : Nat) (hj : j < 9) (hk : k < n) (hi : i < n) :
    (((((((((cs.setIfInBounds (k * 9) v0).setIfInBounds (k * 9 + 1) v1).setIfInBounds (k * 9 + 2) v2).setIfInBounds (k * 9 + 3) v3).setIfInBounds (k * 9 + 4) v4).setIfInBounds (k * 9 + 5) v5).setIfInBounds (k * 9 + 6) v6).setIfInBounds (k * 9 + 7) v7).setIfInBounds (k * 9 + 8) v8)[i * 9 + j]? =
      if i = k then [v0, v1, v2, v3, v4, v5, v6, v7, v8][j]? else cs[i * 9 + j]? := by
  simp only [Array.getElem?_setIfInBounds, Array.size_setIfInBounds, hs]
  by_cases e : i = k
  · subst e
    rw [if_pos rfl]
    rcases nine hj with rfl | rfl | rfl | rfl | rfl | rfl | rfl | rfl | rfl
    all_goals (repeat first | rw [if_neg (by omega)] | rw [if_pos (by omega), if_pos (by omega)] | rw [if_pos (by omega)])
    all_goals rfl
  · rw [if_neg e]
    iterate 9 (rw [if_neg (by omega)])
theorem RowN.put {t : TypeId} {w : World} {g k n : Nat} {xs : List α} (h : RowN cel t w g xs k n) (i : Nat) (hi : i < xs.length) (hn : i < n) (x : α) (v0 v1 v2 v3 v4 v5 v6 v7 v8 : Value) (e : cel x = [v0, v1, v2, v3, v4, v5, v6, v7, v8]) (h9 : ∀ y, (cel y).length = 9) (hl : xs.length ≤ n) :
    RowN cel t (set9 w g (i * 9) v0 v1 v2 v3 v4 v5 v6 v7 v8) g (xs.set i x) k n := by
  obtain ⟨cs, h1, h2, h3⟩ := h
  refine ⟨_, set9_heap h1, by simpa using h2, fun i' hi' hik j v hv => ?_⟩
  have hl' : i' < xs.length := by simpa using hi'
  have hj : j < 9 := by have := (List.getElem?_eq_some_iff.1 hv).1; rwa [h9] at this
  rw [set9_get v0 v1 v2 v3 v4 v5 v6 v7 v8 h2 i' j i hj hn (by omega)]
  by_cases e1 : i' = i
  · subst e1
    rw [List.getElem_set_self, e] at hv
    rw [if_pos rfl]
    exact hv
  · rw [List.getElem_set_ne (by omega)] at hv
    rw [if_neg e1]
    exact h3 i' hl' hik j v hv
theorem RowN.step {t : TypeId} {w : World} {g k n : Nat} {xs : List α} (h : RowN cel t w g xs k n) (hk : k < xs.length) (hl : xs.length ≤ n) (v0 v1 v2 v3 v4 v5 v6 v7 v8 : Value) (e : cel xs[k] = [v0, v1, v2, v3, v4, v5, v6, v7, v8]) (h9 : ∀ y, (cel y).length = 9) :
    RowN cel t (set9 w g (k * 9) v0 v1 v2 v3 v4 v5 v6 v7 v8) g xs (k + 1) n := by
  obtain ⟨cs, h1, h2, h3⟩ := h
  refine ⟨_, set9_heap h1, by simpa using h2, fun i' hi' hik j v hv => ?_⟩
  have hj : j < 9 := by have := (List.getElem?_eq_some_iff.1 hv).1; rwa [h9] at this
  rw [set9_get v0 v1 v2 v3 v4 v5 v6 v7 v8 h2 i' j k hj (by omega) (by omega)]
  by_cases e1 : i' = k
  · subst e1
    rw [e] at hv
    rw [if_pos rfl]
    exact hv
  · rw [if_neg e1]
    exact h3 i' hi' (by omega) j v hv
theorem RowN.made (t : TypeId) (w : World) (zs : Array Value) (xs : List α) (n : Nat) : RowN cel t (w.alloc (.cells (madeCells zs (n * 9)) t)) w.heap.size xs 0 n :=
  ⟨_, heap_alloc_new w _, size_madeCells _ _, fun _ _ h => absurd h (Nat.not_lt_zero _)⟩
theorem list_ofN (n : Nat) (p : Nat → α → Prop) (h : ∀ i, i < n → ∃ b, p i b) : ∃ xs : List α, xs.length = n ∧ ∀ i (hi : i < xs.length), p i xs[i] := by
  induction n with
  | zero => exact ⟨[], rfl, fun i hi => absurd hi (Nat.not_lt_zero _)⟩
  | succ n ih =>
    obtain ⟨xs, hl, hp⟩ := ih fun i hi => h i (by omega)
    obtain ⟨b, hb⟩ := h n (by omega)
    refine ⟨xs ++ [b], by simp [hl], fun i hi => ?_⟩
    by_cases e : i < xs.length
    · rw [List.getElem_append_left e]; exact hp i e
    · have : i = n := by simp at hi; omega
      subst this
      rw [List.getElem_append_right (by omega)]
      simpa [hl] using hb
/-- The cells of a list, one behind the other. -/
def flN (cel : α → List Value) (xs : List α) : List Value := xs.flatMap cel
theorem flN_snoc (xs : List α) (x : α) : flN cel (xs ++ [x]) = flN cel xs ++ cel x := by unfold flN; rw [List.flatMap_append]; simp
theorem flN_at (h9 : ∀ y, (cel y).length = 9) : ∀ (L : List α) (i : Nat) (h : i < L.length) (j : Nat), j < 9 → (flN cel L)[i * 9 + j]? = (cel L[i])[j]?
  | [], i, h, _, _ => absurd h (Nat.not_lt_zero _)
  | b :: t, 0, _, j, hj => by
    show (cel b ++ flN cel t)[0 * 9 + j]? = _
    rw [Nat.zero_mul, Nat.zero_add, List.getElem?_append_left (by rw [h9]; exact hj)]
    rfl
  | b :: t, i + 1, h, j, hj => by
    show (cel b ++ flN cel t)[(i + 1) * 9 + j]? = _
    rw [List.getElem?_append_right (by rw [h9]; omega), h9, show (i + 1) * 9 + j - 9 = i * 9 + j by omega]
    exact flN_at h9 t i (by simpa using h) j hj
/-- No list, or a block of its own. -/
def ResN (cel : α → List Value) (t : TypeId) (w : World) (base : Nat) (v : Value) (ys : List α) : Prop :=
  (v = .slice none 0 0 ∧ ys = []) ∨ ∃ g N, v = .slice (some ⟨g, 0, none⟩) ys.length N ∧ base ≤ g ∧ RowN cel t w g ys ys.length N ∧ ys.length ≤ N
theorem ResN.slice {t : TypeId} {w : World} {base : Nat} {v : Value} {ys : List α} (h : ResN cel t w base v ys) : SliceN cel w v ys := by
  rcases h with ⟨rfl, rfl⟩ | ⟨g, N, rfl, hb, hr, hn⟩
  · exact ⟨none, 0, rfl, fun h => absurd h (Nat.lt_irrefl _)⟩
  · exact ⟨_, N, rfl, fun _ => ⟨g, 0, rfl, hr.lt, hr.at_⟩⟩
theorem ResN.below {t : TypeId} {w w' : World} {base : Nat} {v : Value} {ys : List α} (h : ResN cel t w base v ys) (hb : Below w.heap.size w w') : ResN cel t w' base v ys := by
  rcases h with h | ⟨g, N, rfl, h1, hr, hn⟩
  · exact .inl h
  · exact .inr ⟨g, N, rfl, h1, hr.below hb hr.lt, hn⟩
theorem ResN.mono {t : TypeId} {w : World} {base base' : Nat} {v : Value} {ys : List α} (h : ResN cel t w base v ys) (hb : base' ≤ base) : ResN cel t w base' v ys := by
  rcases h with h | ⟨g, N, rfl, h1, hr, hn⟩
  · exact .inl h
  · exact .inr ⟨g, N, rfl, Nat.le_trans hb h1, hr, hn⟩
theorem ResN.lt {t : TypeId} {w : World} {base : Nat} {v : Value} {ys : List α} (h : ResN cel t w base v ys) : ∀ k, v.ownBlock = some k → base ≤ k ∧ k < w.heap.size := by
  intro k hk
  rcases h with ⟨rfl, _⟩ | ⟨g, N, rfl, h1, hr, hn⟩
  · cases hk
  · obtain rfl : g = k := by injection hk
    exact ⟨h1, hr.lt⟩
theorem ResN.other {t : TypeId} {w w' : World} {base : Nat} {v : Value} {ys : List α} {row : Option Nat} (h : ResN cel t w base v ys) (hg : w.grownBy w' row) (hne : ∀ k, v.ownBlock = some k → some k ≠ row) : ResN cel t w' base v ys := by
  rcases h with h | ⟨g, N, rfl, h1, hr, hn⟩
  · exact .inl h
  · obtain ⟨cs, e1, e2⟩ := hr
    exact .inr ⟨g, N, rfl, h1, ⟨cs, (hg.block g (Array.getElem?_eq_some_iff.1 e1).1 (hne g rfl)).trans e1, e2⟩, hn⟩
theorem ResN.of {t : TypeId} {w : World} {base n : Nat} {v : Value} {ys : List α} (h9 : ∀ y, (cel y).length = 9) (h : w.ownsRow base t 9 v n (flN cel ys)) (hn : n = ys.length) : ResN cel t w base v ys := by
  rcases h.2 with ⟨rfl, h0⟩ | ⟨g, cap, cur, rfl, hb, hg, hc, _, hs, ht⟩
  · exact .inl ⟨rfl, List.eq_nil_of_length_eq_zero (by omega)⟩
  · subst hn
    refine .inr ⟨g, cap, rfl, hb, ⟨cur, hg, hs, fun i hi _ j v hv => ?_⟩, hc⟩
    have hj : j < 9 := by have := (List.getElem?_eq_some_iff.1 hv).1; rwa [h9] at this
    have e := flN_at h9 ys i hi j hj
    rw [← ht, List.getElem?_take, if_pos (by omega), Array.getElem?_toList] at e
    rw [e]
    exact hv
end

/-! ### books in places -/
structure Pl where
  p : Int
  b : Bk
  deriving DecidableEq, Inhabited
structure Pl.Wf (x : Pl) : Prop where
  p : -32768 ≤ x.p ∧ x.p ≤ 32767
  b : x.b.Wf
def Pl.cells (x : Pl) : List Value := [.int .i16 x.p, .int .i16 x.b.c, .int .u8 x.b.m0, .int .u8 x.b.m1, .int .u8 x.b.m2, .int .i16 x.b.v, .int .i16 x.b.wi, .int .i16 x.b.hi, .int .i16 x.b.we]
theorem Pl.nine (x : Pl) : x.cells.length = 9 := rfl
abbrev PlsOf := SliceN Pl.cells
theorem plAt_some {w : World} {g o : Nat} {xs : List Pl} (h : AtN Pl.cells w g o xs) {i : Nat} (hi : i < xs.length) :
    w.cell? ⟨g, o + i * 9, none⟩ = some (.int .i16 xs[i].p) ∧ w.cell? ⟨g, o + i * 9 + 1, none⟩ = some (.int .i16 xs[i].b.c) ∧ w.cell? ⟨g, o + i * 9 + 2, none⟩ = some (.int .u8 xs[i].b.m0) ∧ w.cell? ⟨g, o + i * 9 + 3, none⟩ = some (.int .u8 xs[i].b.m1) ∧ w.cell? ⟨g, o + i * 9 + 4, none⟩ = some (.int .u8 xs[i].b.m2) ∧
    w.cell? ⟨g, o + i * 9 + 5, none⟩ = some (.int .i16 xs[i].b.v) ∧ w.cell? ⟨g, o + i * 9 + 6, none⟩ = some (.int .i16 xs[i].b.wi) ∧ w.cell? ⟨g, o + i * 9 + 7, none⟩ = some (.int .i16 xs[i].b.hi) ∧ w.cell? ⟨g, o + i * 9 + 8, none⟩ = some (.int .i16 xs[i].b.we) :=
  ⟨h i hi 0 _ rfl, h i hi 1 _ rfl, h i hi 2 _ rfl, h i hi 3 _ rfl, h i hi 4 _ rfl, h i hi 5 _ rfl, h i hi 6 _ rfl, h i hi 7 _ rfl, h i hi 8 _ rfl⟩

structure Rk where
  n : Int
  ps : List Pl
structure Rk.Wf (r : Rk) : Prop where
  n : -32768 ≤ r.n ∧ r.n ≤ 32767
  ps : ∀ x ∈ r.ps, x.Wf

theorem cellsPlaced : Tryd.prog.cellsOf 70 = 9 := by kernel_rfl
theorem cellsRack : Tryd.prog.cellsOf 25 = 2 := by kernel_rfl
theorem cellsPlacedS : Tryd.prog.cellsOf 23 = 1 := by kernel_rfl
section
variable {H : Type} {enc : TypeId × Value → H} {w : World} {base : Nat} {spare : Nat → Bool} {held : Bool}
theorem pl_of_trod {fuel : Nat} {cs : List Value} {x : DataW H × List MemPlace} (h : DataW.trod enc Tryd.prog w base spare held fuel 70 cs = some x) : ∃ y : Pl, y.Wf ∧ cs = y.cells := by
  obtain ⟨xs, n, _, _, hlen, hxl, hf⟩ := DataW.trod_struct Tryd.underlying70 h
  rw [cellsPlaced] at hlen
  match cs, hlen with
  | [c0, c1, c2, c3, c4, c5, c6, c7, c8], _ =>
    match xs, hxl with
    | [y0, y1], _ =>
      have h0 : DataW.trod enc Tryd.prog w base spare held n 22 ((List.drop 0 [c0, c1, c2, c3, c4, c5, c6, c7, c8]).take (Tryd.prog.cellsOf 22)) = some y0 := hf 0 _ rfl
      have h1 : DataW.trod enc Tryd.prog w base spare held n 68 ((List.drop 1 [c0, c1, c2, c3, c4, c5, c6, c7, c8]).take (Tryd.prog.cellsOf 68)) = some y1 := hf 1 _ rfl
      simp only [cells16, cellsBook, List.drop_zero, List.drop_succ_cons, List.take_succ_cons, List.take_zero] at h0 h1
      obtain ⟨a0, e0, _, w0⟩ := DataW.trod_int Tryd.underlying22 h0
      obtain ⟨b, wb, e1⟩ := book_of_trod h1
      simp only [List.cons.injEq, and_true] at e0
      subst e0
      refine ⟨⟨a0, b⟩, ⟨bounds_i16 w0, wb⟩, ?_⟩
      rw [e1]
      rfl
theorem pls_of_trod {fuel : Nat} {cs : List Value} {x : DataW H × List MemPlace} (hf : DataW.trod enc Tryd.prog w base spare held fuel 23 cs = some x) :
    ∃ (v : Value) (xs : List Pl), cs = [v] ∧ (∀ b ∈ xs, b.Wf) ∧ PlsOf w v xs ∧ xs.length ≤ maxLen := by
  rcases open_slice Tryd.underlying23 hf with ⟨hcs, _⟩ | ⟨a', len, cap, m, n, D, Pl', hcs, _, hl, hm, hmm, _, hi⟩
  · exact ⟨_, [], hcs, by simp, ⟨_, _, rfl, fun h => absurd h (Nat.lt_irrefl _)⟩, by simp⟩
  · have hlm : len ≤ m := by rw [hmm]; split <;> omega
    obtain ⟨xs, hxl, hx⟩ := list_ofN len (fun i (b : Pl) => b.Wf ∧ w.cells? base (a'.add (i * Tryd.prog.cellsOf 70)) (Tryd.prog.cellsOf 70) = some b.cells) (fun i h => by
      obtain ⟨cs', h1, h2⟩ := hi i (by omega)
      obtain ⟨b, hb, rfl⟩ := pl_of_trod h2
      exact ⟨b, hb, h1⟩)
    subst hxl
    refine ⟨_, xs, hcs, fun b hb => ?_, ⟨_, _, rfl, fun h0 => ?_⟩, by omega⟩
    · obtain ⟨i, hi, rfl⟩ := List.getElem_of_mem hb
      exact (hx i hi).1
    · have hc : ∀ i (hi : i < xs.length) (j : Nat), j < 9 → w.cell? (a'.add (i * 9 + j)) = (xs[i].cells)[j]? := by
        intro i hi j hj
        have h2 := (hx i hi).2
        rw [cellsPlaced] at h2
        have h3 := (World.cells?_some h2).2.2 j hj
        rw [← h3, add_add]
      have hs : a'.spot = none := by
        have h1 : w.cell? (a'.add (0 * 9 + 0)) = some _ := hc 0 h0 0 (by omega)
        simpa [Addr.add] using World.cell?_spot h1
      obtain ⟨g, o, sp⟩ := a'
      simp only at hs
      subst hs
      refine ⟨g, o, rfl, ?_, fun i hi j v hv => ?_⟩
      · have h1 : w.cell? (Addr.add ⟨g, o, none⟩ (0 * 9 + 0)) = some _ := hc 0 h0 0 (by omega)
        have h2 := block_lt_of_cell h1
        rwa [block_of_add] at h2
      · have hj : j < 9 := by
          have : j < (xs[i].cells).length := (List.getElem?_eq_some_iff.1 hv).1
          simpa [Pl.cells] using this
        have h1 := hc i hi j hj
        rw [hv] at h1
        rw [← h1, Addr.add_lit]
        congr 2
        omega
/-- A rack that came in. -/
theorem rack_of_arg {r : Reach} {b0 : Nat} {v : Value} {d : DataW H} {p : List MemPlace} (hv : Value.okWide Tryd.prog w r b0 25 v) (h : DataW.Trod enc Tryd.prog w base spare held 25 v d p) :
    ∃ (r : Rk) (hv : Value), r.Wf ∧ v = .agg #[.int .i16 r.n, hv] ∧ PlsOf w hv r.ps ∧ r.ps.length ≤ maxLen := by
  obtain ⟨cs, rfl, _⟩ := okWide_struct Tryd.underlying25 hv
  obtain ⟨fuel, hf⟩ := h
  obtain ⟨xs, n, _, _, hlen, hxl, hf⟩ := DataW.trod_struct Tryd.underlying25 hf
  rw [cellsRack] at hlen
  have ecs : (Value.agg cs).cells.toList = cs.toList := rfl
  rw [ecs] at hlen hf
  obtain ⟨l⟩ := cs
  simp only at hlen hf
  match l, hlen with
  | [c0, c1], _ =>
    match xs, hxl with
    | [y0, y1], _ =>
      have h0 : DataW.trod enc Tryd.prog w base spare held n 22 ((List.drop 0 [c0, c1]).take (Tryd.prog.cellsOf 22)) = some y0 := hf 0 _ rfl
      have h1 : DataW.trod enc Tryd.prog w base spare held n 23 ((List.drop 1 [c0, c1]).take (Tryd.prog.cellsOf 23)) = some y1 := hf 1 _ rfl
      simp only [cells16, cellsPlacedS, List.drop_zero, List.drop_succ_cons, List.take_succ_cons, List.take_zero] at h0 h1
      obtain ⟨a0, e0, _, w0⟩ := DataW.trod_int Tryd.underlying22 h0
      obtain ⟨hv, zs, e1, w1, s1, l1⟩ := pls_of_trod h1
      simp only [List.cons.injEq, and_true] at e0 e1
      subst e0 e1
      exact ⟨⟨a0, zs⟩, _, ⟨bounds_i16 w0, w1⟩, rfl, s1, l1⟩
end

/-! ### the law's functions -/
theorem infoPlaced : (Tryd.prog.info? 45).map (fun i => (i.zero, i.size, i.bytes)) = some (some (.agg #[.int .i16 0, .int .i16 0, .int .u8 0, .int .u8 0, .int .u8 0, .int .i16 0, .int .i16 0, .int .i16 0, .int .i16 0]), 9, 16) := by kernel_rfl
set_option maxHeartbeats 1000000 in
theorem szPlacedS_left (A : Option Addr) (n c : Nat) (L : Int) (w : World) (hn : n ≤ 9223372036854775807) (h0 : 0 ≤ L) (h1 : L ≤ 1048576) :
    Calls Tryd.prog 11 #[.slice A n c, .int .i64 L] w fun e w' => e = .returned (.int .i64 (if (n : Int) ≤ L then L - (n : Int) else -1)) ∧ w = w' := by
  by_cases h : (n : Int) ≤ L
  · have h' : ¬ (L - (n : Int) < 0) := by omega
    rw [if_pos h]
    go_enter Tryd.func11, Tryd.ntmps11
    go_wp2
    go_ret
    exact ⟨rfl, rfl⟩
  · have h' : (L - (n : Int) < 0) := by omega
    rw [if_neg h]
    go_enter Tryd.func11, Tryd.ntmps11
    go_wp2
    go_ret
    exact ⟨rfl, rfl⟩
set_option maxHeartbeats 1000000 in
theorem szRack_left (r : Rk) (A : Option Addr) (k : Nat) (L : Int) (w : World) (hn : r.ps.length ≤ 9223372036854775807) (h0 : 0 ≤ L) (h1 : L ≤ 1048576) :
    Calls Tryd.prog 4 #[.agg #[.int .i16 r.n, .slice A r.ps.length k], .int .i64 L] w fun e w' => e = .returned (.int .i64 (if (r.ps.length : Int) ≤ L then L - (r.ps.length : Int) else -1)) ∧ Below w.heap.size w w' := by
  by_cases h : (r.ps.length : Int) ≤ L
  · have h' : ¬ (L - (r.ps.length : Int) < 0) := by omega
    rw [if_pos h]
    go_enter Tryd.func4, Tryd.ntmps4
    go_wp2_with fail
    refine (szPlacedS_left _ _ _ _ _ hn h0 h1).mono ?_
    rintro e w' ⟨rfl, rfl⟩
    rw [if_pos h]
    go_wp2
    go_ret
    exact ⟨rfl, by go_grown⟩
  · rw [if_neg h]
    go_enter Tryd.func4, Tryd.ntmps4
    go_wp2_with fail
    refine (szPlacedS_left _ _ _ _ _ hn h0 h1).mono ?_
    rintro e w' ⟨rfl, rfl⟩
    rw [if_neg (by omega)]
    go_wp2
    go_ret
    exact ⟨rfl, by go_grown⟩
end Go.Proofs.YtgmipobohnagnaaDoor
