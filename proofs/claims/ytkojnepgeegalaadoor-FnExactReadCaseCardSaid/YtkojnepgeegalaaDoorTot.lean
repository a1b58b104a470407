/- The totals of a list, by the model and by the program: contracts. Condition: the list is no longer than a slice can be, its books' numbers lie within their kinds. -/
import Derived.Test.YtkojnepgeegalaaDoorBooksOk
import Derived.Test.YtkojnepgeegalaaDoorToBookS
import Derived.Test.YtkojnepgeegalaaDoorQuiet
import Derived.Deep.Cut
import Derived.Deep.RegionWith
import Derived.Deep.CutRange
import Derived.StillTailTactics
namespace Go.Proofs.YtkojnepgeegalaaDoor
set_option linter.unusedSimpArgs false
set_option linter.unusedVariables false
set_option maxRecDepth 100000
open Go.RowKit

def totW (xs : List Bk) : Nat → Int
  | 0 => 0
  | k + 1 => totW xs k + (xs.getD k default).wi
def totH (xs : List Bk) : Nat → Int
  | 0 => 0
  | k + 1 => if (xs.getD k default).hi > totH xs k then (xs.getD k default).hi else totH xs k
def totE (xs : List Bk) : Nat → Int
  | 0 => 0
  | k + 1 => totE xs k + (xs.getD k default).we
def tW (xs : List Bk) : Int := if okB xs then totW xs xs.length else 0
def tH (xs : List Bk) : Int := if okB xs then totH xs xs.length else 0
def tE (xs : List Bk) : Int := if okB xs then totE xs xs.length else 0
def tCode (xs : List Bk) : Int := if okB xs then 0 else 1
theorem getD_in_books {xs : List Bk} {k : Nat} (hk : k < xs.length) : xs.getD k default = xs[k] := by simp [List.getD, List.getElem?_eq_getElem hk]
theorem totW_in (xs : List Bk) (wf : ∀ b ∈ xs, b.Wf) : ∀ k : Nat, k ≤ xs.length → -32768 * (k : Int) ≤ totW xs k ∧ totW xs k ≤ 32767 * (k : Int)
  | 0, _ => by simp [totW]
  | k + 1, h => by
    have ih := totW_in xs wf k (by omega)
    have b := (wf xs[k] (List.getElem_mem (by omega))).wi
    rw [totW, getD_in_books (by omega)]
    omega
theorem totE_in (xs : List Bk) (wf : ∀ b ∈ xs, b.Wf) : ∀ k : Nat, k ≤ xs.length → -32768 * (k : Int) ≤ totE xs k ∧ totE xs k ≤ 32767 * (k : Int)
  | 0, _ => by simp [totE]
  | k + 1, h => by
    have ih := totE_in xs wf k (by omega)
    have b := (wf xs[k] (List.getElem_mem (by omega))).we
    rw [totE, getD_in_books (by omega)]
    omega

def B3 (w : World) (g : Nat) (a c d : Int) : Prop := w.heap[g]? = some (.cells #[.int .i64 a, .int .i64 c, .int .i64 d] 148 (0, 0))
theorem B3.lt {w : World} {g : Nat} {a c d : Int} (h : B3 w g a c d) : g < w.heap.size := (Array.getElem?_eq_some_iff.1 h).1
theorem B3.c0 {w : World} {g : Nat} {a c d : Int} (h : B3 w g a c d) : w.cell? ⟨g, 0, none⟩ = some (.int .i64 a) := cell_of_row w g 0 _ _ _ h
theorem B3.c1 {w : World} {g : Nat} {a c d : Int} (h : B3 w g a c d) : w.cell? ⟨g, 1, none⟩ = some (.int .i64 c) := cell_of_row w g 1 _ _ _ h
theorem B3.c2 {w : World} {g : Nat} {a c d : Int} (h : B3 w g a c d) : w.cell? ⟨g, 2, none⟩ = some (.int .i64 d) := cell_of_row w g 2 _ _ _ h
theorem B3.fz {w : World} {g : Nat} {a c d : Int} (h : B3 w g a c d) (i : Nat) : w.frozen? ⟨g, i, none⟩ = false := frozen_of_row w g i _ _ h
theorem B3.below {w w' : World} {n g : Nat} {a c d : Int} (h : B3 w g a c d) (hb : Below n w w') (hg : g < n) : B3 w' g a c d := (hb.block g hg).trans h
theorem B3.s0 {w : World} {g : Nat} {a c d : Int} (h : B3 w g a c d) (x : Int) : B3 (w.setCell ⟨g, 0, none⟩ (.int .i64 x)) g x c d := by unfold B3; rw [heap_setCell_same _ _ _ _ _ _ h]; rfl
theorem B3.s1 {w : World} {g : Nat} {a c d : Int} (h : B3 w g a c d) (x : Int) : B3 (w.setCell ⟨g, 1, none⟩ (.int .i64 x)) g a x d := by unfold B3; rw [heap_setCell_same _ _ _ _ _ _ h]; rfl
theorem B3.s2 {w : World} {g : Nat} {a c d : Int} (h : B3 w g a c d) (x : Int) : B3 (w.setCell ⟨g, 2, none⟩ (.int .i64 x)) g a c x := by unfold B3; rw [heap_setCell_same _ _ _ _ _ _ h]; rfl

/-- The two rows of a walk: what is given back stands at the first new place, what is added up at the second. -/
structure T3 (w wr : World) (a c d : Int) : Prop where
  res : B3 wr w.heap.size 0 0 0
  row : B3 wr (w.heap.size + 1) a c d
  low : Below w.heap.size w wr
theorem T3.drew {w wr : World} {a c d : Int} (h : T3 w wr a c d) : T3 w wr.drew a c d := ⟨h.res, h.row, h.low.drew⟩
theorem T3.next {w wr w1 : World} {a c d : Int} (h : T3 w wr a c d) (hb : Below wr.heap.size wr w1) : T3 w w1 a c d := ⟨h.res.below hb h.res.lt, h.row.below hb h.row.lt, bnext h.low hb⟩
theorem T3.s0 {w wr : World} {a c d : Int} (h : T3 w wr a c d) (x : Int) : T3 w (wr.setCell ⟨w.heap.size + 1, 0, none⟩ (.int .i64 x)) x c d := ⟨(Below.heap_setCell _ _ _ _ (by simp)).trans h.res, h.row.s0 x, h.low.setCell (p := ⟨w.heap.size + 1, 0, none⟩) (by simp) _⟩
theorem T3.s1 {w wr : World} {a c d : Int} (h : T3 w wr a c d) (x : Int) : T3 w (wr.setCell ⟨w.heap.size + 1, 1, none⟩ (.int .i64 x)) a x d := ⟨(Below.heap_setCell _ _ _ _ (by simp)).trans h.res, h.row.s1 x, h.low.setCell (p := ⟨w.heap.size + 1, 1, none⟩) (by simp) _⟩
theorem T3.s2 {w wr : World} {a c d : Int} (h : T3 w wr a c d) (x : Int) : T3 w (wr.setCell ⟨w.heap.size + 1, 2, none⟩ (.int .i64 x)) a c x := ⟨(Below.heap_setCell _ _ _ _ (by simp)).trans h.res, h.row.s2 x, h.low.setCell (p := ⟨w.heap.size + 1, 2, none⟩) (by simp) _⟩
theorem T3.e0 {w wr : World} {a c d : Int} (h : T3 w wr a c d) {x y : Int} (e : x = y) : T3 w (wr.setCell ⟨w.heap.size + 1, 0, none⟩ (.int .i64 x)) y c d := by subst e; exact h.s0 x
theorem T3.e1 {w wr : World} {a c d : Int} (h : T3 w wr a c d) {x y : Int} (e : x = y) : T3 w (wr.setCell ⟨w.heap.size + 1, 1, none⟩ (.int .i64 x)) a y d := by subst e; exact h.s1 x
theorem T3.e2 {w wr : World} {a c d : Int} (h : T3 w wr a c d) {x y : Int} (e : x = y) : T3 w (wr.setCell ⟨w.heap.size + 1, 2, none⟩ (.int .i64 x)) a c y := by subst e; exact h.s2 x
theorem t3_start (w : World) : T3 w ((w.alloc (.cells #[.int .i64 0, .int .i64 0, .int .i64 0] 148)).alloc (.cells #[.int .i64 0, .int .i64 0, .int .i64 0] 148)) 0 0 0 :=
  ⟨heap_alloc2_old w _ _, heap_alloc2_new w _ _, ((Below.refl _ _).alloc (Nat.le_refl _) _).alloc (by simp) _⟩

/-- A book in a block of its own. -/
def B8 (w : World) (g : Nat) (b : Bk) : Prop := w.heap[g]? = some (.cells #[.int .i16 b.c, .int .u8 b.m0, .int .u8 b.m1, .int .u8 b.m2, .int .i16 b.v, .int .i16 b.wi, .int .i16 b.hi, .int .i16 b.we] 25 (0, 0))
theorem B8.lt {w : World} {g : Nat} {b : Bk} (h : B8 w g b) : g < w.heap.size := (Array.getElem?_eq_some_iff.1 h).1
theorem B8.below {w w' : World} {n g : Nat} {b : Bk} (h : B8 w g b) (hb : Below n w w') (hg : g < n) : B8 w' g b := (hb.block g hg).trans h
theorem B8.drew {w : World} {g : Nat} {b : Bk} (h : B8 w g b) : B8 w.drew g b := h
theorem B8.cells {w : World} {g : Nat} {b : Bk} (h : B8 w g b) : w.cell? ⟨g, 0, none⟩ = some (.int .i16 b.c) ∧ w.cell? ⟨g, 1, none⟩ = some (.int .u8 b.m0) ∧ w.cell? ⟨g, 2, none⟩ = some (.int .u8 b.m1) ∧ w.cell? ⟨g, 3, none⟩ = some (.int .u8 b.m2) ∧ w.cell? ⟨g, 4, none⟩ = some (.int .i16 b.v) ∧ w.cell? ⟨g, 5, none⟩ = some (.int .i16 b.wi) ∧ w.cell? ⟨g, 6, none⟩ = some (.int .i16 b.hi) ∧ w.cell? ⟨g, 7, none⟩ = some (.int .i16 b.we) :=
  ⟨cell_of_row w g 0 _ _ _ h, cell_of_row w g 1 _ _ _ h, cell_of_row w g 2 _ _ _ h, cell_of_row w g 3 _ _ _ h, cell_of_row w g 4 _ _ _ h, cell_of_row w g 5 _ _ _ h, cell_of_row w g 6 _ _ _ h, cell_of_row w g 7 _ _ _ h⟩
theorem B8.set {w : World} {g g' : Nat} {b : Bk} (h : B8 w g b) (hne : g ≠ g') (i : Nat) (v : Value) : B8 (w.setCell ⟨g', i, none⟩ v) g b := (Below.heap_setCell _ _ _ _ (by simpa using hne)).trans h

set_option maxHeartbeats 400000 in
theorem wideOf_any (b : Bk) (hb : b.Wf) (w : World) :
    Calls Tryd.prog 104 #[.agg #[.int .i16 b.c, .int .u8 b.m0, .int .u8 b.m1, .int .u8 b.m2, .int .i16 b.v, .int .i16 b.wi, .int .i16 b.hi, .int .i16 b.we]] w fun e w' => e = .returned (.int .i64 b.wi) ∧ Below w.heap.size w w' := by
  obtain ⟨⟨c1, c2⟩, ⟨x1, x2⟩, ⟨y1, y2⟩, ⟨z1, z2⟩, ⟨v1, v2⟩, ⟨i1, i2⟩, ⟨j1, j2⟩, ⟨k1, k2⟩⟩ := hb
  go_enter Tryd.func104, Tryd.ntmps104
  go_wp2
  go_ret
  exact ⟨rfl, by go_grown⟩

set_option maxHeartbeats 400000 in
theorem highOf_any (b : Bk) (hb : b.Wf) (w : World) :
    Calls Tryd.prog 105 #[.agg #[.int .i16 b.c, .int .u8 b.m0, .int .u8 b.m1, .int .u8 b.m2, .int .i16 b.v, .int .i16 b.wi, .int .i16 b.hi, .int .i16 b.we]] w fun e w' => e = .returned (.int .i64 b.hi) ∧ Below w.heap.size w w' := by
  obtain ⟨⟨c1, c2⟩, ⟨x1, x2⟩, ⟨y1, y2⟩, ⟨z1, z2⟩, ⟨v1, v2⟩, ⟨i1, i2⟩, ⟨j1, j2⟩, ⟨k1, k2⟩⟩ := hb
  go_enter Tryd.func105, Tryd.ntmps105
  go_wp2
  go_ret
  exact ⟨rfl, by go_grown⟩

set_option maxHeartbeats 400000 in
theorem weightOf_any (b : Bk) (hb : b.Wf) (w : World) :
    Calls Tryd.prog 106 #[.agg #[.int .i16 b.c, .int .u8 b.m0, .int .u8 b.m1, .int .u8 b.m2, .int .i16 b.v, .int .i16 b.wi, .int .i16 b.hi, .int .i16 b.we]] w fun e w' => e = .returned (.int .i64 b.we) ∧ Below w.heap.size w w' := by
  obtain ⟨⟨c1, c2⟩, ⟨x1, x2⟩, ⟨y1, y2⟩, ⟨z1, z2⟩, ⟨v1, v2⟩, ⟨i1, i2⟩, ⟨j1, j2⟩, ⟨k1, k2⟩⟩ := hb
  go_enter Tryd.func106, Tryd.ntmps106
  go_wp2
  go_ret
  exact ⟨rfl, by go_grown⟩

end Go.Proofs.YtkojnepgeegalaaDoor
