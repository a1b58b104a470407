/- Rows of books that the call itself makes; the law's copy of a list, contract. No condition beyond the length that the law tests. -/
import Derived.Test.YtjeflpohokjjkaaToBook
import Derived.Test.YtjeflpohokjjkaaOpen
namespace Go.Proofs.Ytjeflpohokjjkaa
set_option linter.unusedSimpArgs false
set_option linter.unusedVariables false
set_option maxRecDepth 100000
open Go.RowKit

theorem run_make_rowN {P : Program} (t e : TypeId) (i : TypeInfo) (z : Value) (ht : P.underlying t = some (.slice e)) (hi : P.info? e = some i) (hz : i.zero = some z)
    (kl kc : IntKind) (n c : Nat) (hnc : n ≤ c) (hbytes : i.bytes * c ≤ 281474976710656) (h63 : c ≤ 9223372036854775807) (w : World) :
    (Instr.makeSlice t (.int kl (n : Int)) (.int kc (c : Int))).run P w = .ok (.slice (some ⟨w.heap.size, 0, none⟩) n c) (w.alloc (.cells (madeCells z.cells (c * i.size)) e)) := by
  have hb : (i.bytes : Int) * (c : Int) ≤ 281474976710656 := by
    have h : ((i.bytes * c : Nat) : Int) ≤ 281474976710656 := by omega
    rwa [Int.natCast_mul] at h
  have hr := run_make (P := P) w t e i z ht hi hz kl kc n c (by omega) (by omega) hb (by omega)
  simp only [Int.toNat_natCast] at hr
  exact hr

/-- Block g is a row of n books, the first k of which are those of the list. -/
def RowK (w : World) (g : Nat) (xs : List Bk) (k n : Nat) : Prop :=
  ∃ cs : Array Value, w.heap[g]? = some (.cells cs 46 (0, 0)) ∧ cs.size = n * 8 ∧ ∀ (i : Nat) (hi : i < xs.length), i < k → ∀ (j : Nat) (v : Value), (xs[i].cells)[j]? = some v → cs[i * 8 + j]? = some v

def Row (w : World) (g : Nat) (xs : List Bk) : Prop := RowK w g xs xs.length xs.length

theorem RowK.lt {w : World} {g k n : Nat} {xs : List Bk} (h : RowK w g xs k n) : g < w.heap.size := by
  obtain ⟨cs, h, _⟩ := h
  rcases Nat.lt_or_ge g w.heap.size with hlt | hge
  · exact hlt
  · rw [Array.getElem?_eq_none hge] at h; cases h

theorem RowK.below {w w' : World} {B g k n : Nat} {xs : List Bk} (h : RowK w g xs k n) (hb : Below B w w') (hg : g < B) : RowK w' g xs k n := by
  obtain ⟨cs, h, h2⟩ := h
  exact ⟨cs, (hb.block g hg).trans h, h2⟩

theorem Row.booksAt {w : World} {g : Nat} {xs : List Bk} (h : Row w g xs) : BooksAt w g 0 xs := by
  obtain ⟨cs, h, _, h3⟩ := h
  intro i hi j v hv
  rw [cell_of_row w g _ cs _ _ h, Nat.zero_add]
  exact h3 i hi hi j v hv

theorem Row.slice {w : World} {g : Nat} {xs : List Bk} (h : Row w g xs) : SliceOf w (.slice (some ⟨g, 0, none⟩) xs.length xs.length) xs :=
  ⟨_, _, rfl, fun _ => ⟨g, 0, rfl, h.lt, h.booksAt⟩⟩

theorem RowK.cells8 {w : World} {g k n : Nat} {xs : List Bk} (h : RowK w g xs k n) (i : Nat) (hi : i < n) :
    (∃ u, w.cell? ⟨g, i * 8, none⟩ = some u) ∧ (∃ u, w.cell? ⟨g, i * 8 + 1, none⟩ = some u) ∧ (∃ u, w.cell? ⟨g, i * 8 + 2, none⟩ = some u) ∧ (∃ u, w.cell? ⟨g, i * 8 + 3, none⟩ = some u) ∧
    (∃ u, w.cell? ⟨g, i * 8 + 4, none⟩ = some u) ∧ (∃ u, w.cell? ⟨g, i * 8 + 5, none⟩ = some u) ∧ (∃ u, w.cell? ⟨g, i * 8 + 6, none⟩ = some u) ∧ (∃ u, w.cell? ⟨g, i * 8 + 7, none⟩ = some u) := by
  obtain ⟨cs, h, h2, _⟩ := h
  have e : ∀ j, j < 8 → ∃ u, w.cell? ⟨g, i * 8 + j, none⟩ = some u := fun j hj => by
    rw [cell_of_row w g _ cs _ _ h]
    exact ⟨cs[i * 8 + j]'(by omega), Array.getElem?_eq_getElem (by omega)⟩
  exact ⟨e 0 (by omega), e 1 (by omega), e 2 (by omega), e 3 (by omega), e 4 (by omega), e 5 (by omega), e 6 (by omega), e 7 (by omega)⟩

theorem RowK.frozen {w : World} {g k n : Nat} {xs : List Bk} (h : RowK w g xs k n) (o : Nat) : w.frozen? ⟨g, o, none⟩ = false := by
  obtain ⟨cs, h, _⟩ := h
  exact frozen_of_row w g _ cs _ h

/-- Eight stores: a whole book. -/
def set8 (w : World) (g o : Nat) (b : Bk) : World :=
  (((((((w.setCell ⟨g, o, none⟩ (.int .i16 b.c)).setCell ⟨g, o + 1, none⟩ (.int .u8 b.m0)).setCell ⟨g, o + 2, none⟩ (.int .u8 b.m1)).setCell ⟨g, o + 3, none⟩ (.int .u8 b.m2)).setCell ⟨g, o + 4, none⟩ (.int .i16 b.v)).setCell ⟨g, o + 5, none⟩ (.int .i16 b.wi)).setCell ⟨g, o + 6, none⟩ (.int .i16 b.hi)).setCell ⟨g, o + 7, none⟩ (.int .i16 b.we)

theorem set8_heap {w : World} {g o : Nat} {b : Bk} {cs : Array Value} {t : TypeId} (h : w.heap[g]? = some (.cells cs t (0, 0))) :
    (set8 w g o b).heap[g]? = some (.cells ((((((((cs.setIfInBounds o (.int .i16 b.c)).setIfInBounds (o + 1) (.int .u8 b.m0)).setIfInBounds (o + 2) (.int .u8 b.m1)).setIfInBounds (o + 3) (.int .u8 b.m2)).setIfInBounds (o + 4) (.int .i16 b.v)).setIfInBounds (o + 5) (.int .i16 b.wi)).setIfInBounds (o + 6) (.int .i16 b.hi)).setIfInBounds (o + 7) (.int .i16 b.we)) t (0, 0)) := by
  unfold set8
  exact heap_setCell_same _ _ _ _ _ _ (heap_setCell_same _ _ _ _ _ _ (heap_setCell_same _ _ _ _ _ _ (heap_setCell_same _ _ _ _ _ _ (heap_setCell_same _ _ _ _ _ _ (heap_setCell_same _ _ _ _ _ _ (heap_setCell_same _ _ _ _ _ _ (heap_setCell_same _ _ _ _ _ _ h)))))))

theorem set8_below {a w : World} {B g o : Nat} {b : Bk} (h : Below B a w) (hg : B ≤ g) : Below B a (set8 w g o b) :=
  (((((((h.setCell (p := ⟨g, o, none⟩) hg _).setCell (p := ⟨g, o + 1, none⟩) hg _).setCell (p := ⟨g, o + 2, none⟩) hg _).setCell (p := ⟨g, o + 3, none⟩) hg _).setCell (p := ⟨g, o + 4, none⟩) hg _).setCell (p := ⟨g, o + 5, none⟩) hg _).setCell (p := ⟨g, o + 6, none⟩) hg _).setCell (p := ⟨g, o + 7, none⟩) hg _

theorem RowK.step {w : World} {g k n : Nat} {xs : List Bk} (h : RowK w g xs k n) (hk : k < xs.length) (hn : k < n) : RowK (set8 w g (k * 8) xs[k]) g xs (k + 1) n := by
  obtain ⟨cs, h1, h2, h3⟩ := h
  refine ⟨_, set8_heap h1, by simpa using h2, fun i hi hik j v hv => ?_⟩
  have hj : j < 8 := by
    have : j < (xs[i].cells).length := (List.getElem?_eq_some_iff.1 hv).1
    simpa [Bk.cells] using this
  by_cases e : i = k
  · subst e
    have : j = 0 ∨ j = 1 ∨ j = 2 ∨ j = 3 ∨ j = 4 ∨ j = 5 ∨ j = 6 ∨ j = 7 := by omega
    rcases this with rfl | rfl | rfl | rfl | rfl | rfl | rfl | rfl
    all_goals
      simp only [Bk.cells, List.getElem?_cons_zero, List.getElem?_cons_succ, Option.some.injEq] at hv
      subst hv
      simp only [Array.getElem?_setIfInBounds, Array.size_setIfInBounds]
      simp
      omega
  · have hlt : i < k := by omega
    have h4 := h3 i hi hlt j v hv
    simp only [Array.getElem?_setIfInBounds]
    iterate 8 (rw [if_neg (by omega)])
    exact h4

theorem infoBook : (Try.prog.info? 46).map (fun i => (i.zero, i.size, i.bytes)) = some (some (.agg #[.int .i16 0, .int .u8 0, .int .u8 0, .int .u8 0, .int .i16 0, .int .i16 0, .int .i16 0, .int .i16 0]), 8, 14) := by kernel_rfl
theorem size_madeCells (zs : Array Value) (n : Nat) : (madeCells zs n).size = n := by
  unfold madeCells
  simp

theorem RowK.made (w : World) (zs : Array Value) (xs : List Bk) (n : Nat) : RowK (w.alloc (.cells (madeCells zs (n * 8)) 46)) w.heap.size xs 0 n :=
  ⟨_, heap_alloc_new w _, size_madeCells _ _, fun _ _ h => absurd h (Nat.not_lt_zero _)⟩

end Go.Proofs.Ytjeflpohokjjkaa
