/- How the laws' arguments read: a book by value, a slice of books. No condition. -/
import Derived.Test.YtecpddkbbfpeeaaBk
import Derived.ProofKit
import Derived.OpenShut
import Derived.Deep.Slices
import Derived.Carry
namespace Go.Proofs.Ytecpddkbbfpeeaa
set_option linter.unusedSimpArgs false
set_option linter.unusedVariables false
set_option maxRecDepth 100000
open Go.ChangeShapes Go.WideShapes Go.ChangeAt Go.RowKit Go.Deep

theorem own : ownKnob Try.prog.godebug = none := by kernel_rfl
theorem laidOut : laidOutB Try.prog = true := by kernel_rfl
theorem cells16 : Try.prog.cellsOf 39 = 1 := by kernel_rfl
theorem cells8 : Try.prog.cellsOf 5 = 1 := by kernel_rfl

theorem block_of_add (a : Addr) (n : Nat) : (a.add n).block = a.block := by unfold Addr.add; split <;> rfl

section
variable {H : Type} {enc : TypeId × Value → H} {w : World} {base : Nat} {spare : Nat → Bool} {held : Bool}

/-- The books of a list lie from cell o of block g on. -/
def BooksAt (w : World) (g o : Nat) (xs : List Bk) : Prop := ∀ (i : Nat) (hi : i < xs.length) (j : Nat) (v : Value), (xs[i].cells)[j]? = some v → w.cell? ⟨g, o + i * 8 + j, none⟩ = some v

theorem booksAt_some {w : World} {g o : Nat} {xs : List Bk} (h : BooksAt w g o xs) {i : Nat} (hi : i < xs.length) :
    w.cell? ⟨g, o + i * 8, none⟩ = some (.int .i16 xs[i].c) ∧ w.cell? ⟨g, o + i * 8 + 1, none⟩ = some (.int .u8 xs[i].m0) ∧ w.cell? ⟨g, o + i * 8 + 2, none⟩ = some (.int .u8 xs[i].m1) ∧ w.cell? ⟨g, o + i * 8 + 3, none⟩ = some (.int .u8 xs[i].m2) ∧
    w.cell? ⟨g, o + i * 8 + 4, none⟩ = some (.int .i16 xs[i].v) ∧ w.cell? ⟨g, o + i * 8 + 5, none⟩ = some (.int .i16 xs[i].wi) ∧ w.cell? ⟨g, o + i * 8 + 6, none⟩ = some (.int .i16 xs[i].hi) ∧ w.cell? ⟨g, o + i * 8 + 7, none⟩ = some (.int .i16 xs[i].we) :=
  ⟨h i hi 0 _ rfl, h i hi 1 _ rfl, h i hi 2 _ rfl, h i hi 3 _ rfl, h i hi 4 _ rfl, h i hi 5 _ rfl, h i hi 6 _ rfl, h i hi 7 _ rfl⟩

theorem BooksAt.below {w w' : World} {B g o : Nat} {xs : List Bk} (h : BooksAt w g o xs) (hb : Below B w w') (hg : g < B) : BooksAt w' g o xs :=
  fun i hi j v hv => (hb.cell (p := ⟨g, o + i * 8 + j, none⟩) hg).trans (h i hi j v hv)

/-- A slice value that reads as a list of books. -/
def SliceOf (w : World) (v : Value) (xs : List Bk) : Prop :=
  ∃ A c, v = .slice A xs.length c ∧ (0 < xs.length → ∃ g o, A = some ⟨g, o, none⟩ ∧ g < w.heap.size ∧ BooksAt w g o xs)

theorem SliceOf.below {w w' : World} {v : Value} {xs : List Bk} (h : SliceOf w v xs) (hb : Below w.heap.size w w') : SliceOf w' v xs := by
  obtain ⟨A, c, rfl, h⟩ := h
  refine ⟨A, c, rfl, fun h0 => ?_⟩
  obtain ⟨g, o, rfl, hg, hh⟩ := h h0
  exact ⟨g, o, rfl, Nat.lt_of_lt_of_le hg hb.size, hh.below hb hg⟩

/-- From 'for every i < n there is a book' to one list. -/
theorem list_of (n : Nat) (p : Nat → Bk → Prop) (h : ∀ i, i < n → ∃ b, p i b) : ∃ xs : List Bk, xs.length = n ∧ ∀ i (hi : i < xs.length), p i xs[i] := by
  induction n with
  | zero => exact ⟨[], rfl, fun i hi => absurd hi (Nat.not_lt_zero _)⟩
  | succ n ih =>
    obtain ⟨xs, hl, hp⟩ := ih fun i hi => h i (by omega)
    obtain ⟨b, hb⟩ := h n (by omega)
    refine ⟨xs ++ [b], by simp [hl], fun i hi => ?_⟩
    by_cases e : i < xs.length
    · rw [List.getElem_append_left e]; exact hp i e
    · have : i = n := by simp at hi; omega
      subst this
      rw [List.getElem_append_right (by omega)]
      simpa [hl] using hb


end
end Go.Proofs.Ytecpddkbbfpeeaa
