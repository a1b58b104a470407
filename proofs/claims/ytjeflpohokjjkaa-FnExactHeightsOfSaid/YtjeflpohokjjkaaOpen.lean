/- How the laws' arguments read: a book by value, a slice of books. No condition. -/
import Derived.Test.YtjeflpohokjjkaaBk
import Derived.ProofKit
import Derived.OpenShut
import Derived.Deep.Slices
import Derived.Carry
namespace Go.Proofs.Ytjeflpohokjjkaa
set_option linter.unusedSimpArgs false
set_option linter.unusedVariables false
set_option maxRecDepth 100000
open Go.ChangeShapes Go.WideShapes Go.ChangeAt Go.RowKit Go.Deep

theorem own : ownKnob Try.prog.godebug = none := by kernel_rfl
theorem laidOut : laidOutB Try.prog = true := by kernel_rfl
theorem cellsBook : Try.prog.cellsOf 48 = 8 := by kernel_rfl
theorem cellsMark : Try.prog.cellsOf 44 = 3 := by kernel_rfl
theorem cells16 : Try.prog.cellsOf 22 = 1 := by kernel_rfl
theorem cells8 : Try.prog.cellsOf 5 = 1 := by kernel_rfl

theorem block_of_add (a : Addr) (n : Nat) : (a.add n).block = a.block := by unfold Addr.add; split <;> rfl

section
variable {H : Type} {enc : TypeId × Value → H} {w : World} {base : Nat} {spare : Nat → Bool} {held : Bool}

theorem mark_of_trod {fuel : Nat} {c0 c1 c2 : Value} {x : DataW H × List MemPlace} (h : DataW.trod enc Try.prog w base spare held fuel 44 [c0, c1, c2] = some x) :
    ∃ m0 m1 m2 : Int, c0 = .int .u8 m0 ∧ c1 = .int .u8 m1 ∧ c2 = .int .u8 m2 ∧ (0 ≤ m0 ∧ m0 ≤ 255) ∧ (0 ≤ m1 ∧ m1 ≤ 255) ∧ (0 ≤ m2 ∧ m2 ≤ 255) := by
  obtain ⟨xs, n, _, _, _, hxl, hf⟩ := DataW.trod_array Try.underlying44 h
  match xs, hxl with
  | [y0, y1, y2], _ =>
    have h0 := hf 0 (by omega)
    have h1 := hf 1 (by omega)
    have h2 := hf 2 (by omega)
    simp only [cells8, Nat.zero_mul, Nat.one_mul, List.drop_zero, List.drop_succ_cons, List.take_succ_cons, List.take_zero, Nat.reduceMul, List.getElem?_cons_zero, List.getElem?_cons_succ] at h0 h1 h2
    obtain ⟨m0, e0, _, w0⟩ := DataW.trod_int Try.underlying5 h0
    obtain ⟨m1, e1, _, w1⟩ := DataW.trod_int Try.underlying5 h1
    obtain ⟨m2, e2, _, w2⟩ := DataW.trod_int Try.underlying5 h2
    simp only [List.cons.injEq, and_true] at e0 e1 e2
    exact ⟨m0, m1, m2, e0, e1, e2, bounds_u8 w0, bounds_u8 w1, bounds_u8 w2⟩

theorem book_of_trod {fuel : Nat} {cs : List Value} {x : DataW H × List MemPlace} (h : DataW.trod enc Try.prog w base spare held fuel 48 cs = some x) : ∃ b : Bk, b.Wf ∧ cs = b.cells := by
  obtain ⟨xs, n, _, _, hlen, hxl, hf⟩ := DataW.trod_struct Try.underlying48 h
  rw [cellsBook] at hlen
  match cs, hlen with
  | [c0, c1, c2, c3, c4, c5, c6, c7], _ =>
    match xs, hxl with
    | [y0, y1, y2, y3, y4, y5], _ =>
      have h0 : DataW.trod enc Try.prog w base spare held n 22 ((List.drop 0 [c0, c1, c2, c3, c4, c5, c6, c7]).take (Try.prog.cellsOf 22)) = some y0 := hf 0 _ rfl
      have h1 : DataW.trod enc Try.prog w base spare held n 44 ((List.drop 1 [c0, c1, c2, c3, c4, c5, c6, c7]).take (Try.prog.cellsOf 44)) = some y1 := hf 1 _ rfl
      have h2 : DataW.trod enc Try.prog w base spare held n 22 ((List.drop 4 [c0, c1, c2, c3, c4, c5, c6, c7]).take (Try.prog.cellsOf 22)) = some y2 := hf 2 _ rfl
      have h3 : DataW.trod enc Try.prog w base spare held n 22 ((List.drop 5 [c0, c1, c2, c3, c4, c5, c6, c7]).take (Try.prog.cellsOf 22)) = some y3 := hf 3 _ rfl
      have h4 : DataW.trod enc Try.prog w base spare held n 22 ((List.drop 6 [c0, c1, c2, c3, c4, c5, c6, c7]).take (Try.prog.cellsOf 22)) = some y4 := hf 4 _ rfl
      have h5 : DataW.trod enc Try.prog w base spare held n 22 ((List.drop 7 [c0, c1, c2, c3, c4, c5, c6, c7]).take (Try.prog.cellsOf 22)) = some y5 := hf 5 _ rfl
      simp only [cells16, cellsMark, List.drop_zero, List.drop_succ_cons, List.take_succ_cons, List.take_zero, List.getElem?_cons_zero, List.getElem?_cons_succ] at h0 h1 h2 h3 h4 h5
      obtain ⟨a0, e0, _, w0⟩ := DataW.trod_int Try.underlying22 h0
      obtain ⟨m0, m1, m2, e1, e2, e3, w1, w2, w3⟩ := mark_of_trod h1
      obtain ⟨a4, e4, _, w4⟩ := DataW.trod_int Try.underlying22 h2
      obtain ⟨a5, e5, _, w5⟩ := DataW.trod_int Try.underlying22 h3
      obtain ⟨a6, e6, _, w6⟩ := DataW.trod_int Try.underlying22 h4
      obtain ⟨a7, e7, _, w7⟩ := DataW.trod_int Try.underlying22 h5
      simp only [List.cons.injEq, and_true] at e0 e4 e5 e6 e7
      subst e0 e1 e2 e3 e4 e5 e6 e7
      exact ⟨⟨a0, m0, m1, m2, a4, a5, a6, a7⟩, ⟨bounds_i16 w0, w1, w2, w3, bounds_i16 w4, bounds_i16 w5, bounds_i16 w6, bounds_i16 w7⟩, rfl⟩

/-- A book by value. -/
theorem book_of_arg {r : Reach} {b0 : Nat} {v : Value} {d : DataW H} {p : List MemPlace} (hv : Value.okWide Try.prog w r b0 48 v) (h : DataW.Trod enc Try.prog w base spare held 48 v d p) :
    ∃ b : Bk, b.Wf ∧ v = .agg #[.int .i16 b.c, .int .u8 b.m0, .int .u8 b.m1, .int .u8 b.m2, .int .i16 b.v, .int .i16 b.wi, .int .i16 b.hi, .int .i16 b.we] := by
  obtain ⟨cs, rfl, _⟩ := okWide_struct Try.underlying48 hv
  obtain ⟨fuel, hf⟩ := h
  obtain ⟨b, hb, e⟩ := book_of_trod hf
  refine ⟨b, hb, ?_⟩
  have e' : cs.toList = b.cells := by simpa [Value.cells] using e
  have : cs = b.cells.toArray := by rw [← e']
  rw [this]
  rfl
/-- The books of a list lie from cell o of block g on. -/
def BooksAt (w : World) (g o : Nat) (xs : List Bk) : Prop := ∀ (i : Nat) (hi : i < xs.length) (j : Nat) (v : Value), (xs[i].cells)[j]? = some v → w.cell? ⟨g, o + i * 8 + j, none⟩ = some v

theorem booksAt_some {w : World} {g o : Nat} {xs : List Bk} (h : BooksAt w g o xs) {i : Nat} (hi : i < xs.length) :
    w.cell? ⟨g, o + i * 8, none⟩ = some (.int .i16 xs[i].c) ∧ w.cell? ⟨g, o + i * 8 + 1, none⟩ = some (.int .u8 xs[i].m0) ∧ w.cell? ⟨g, o + i * 8 + 2, none⟩ = some (.int .u8 xs[i].m1) ∧ w.cell? ⟨g, o + i * 8 + 3, none⟩ = some (.int .u8 xs[i].m2) ∧
    w.cell? ⟨g, o + i * 8 + 4, none⟩ = some (.int .i16 xs[i].v) ∧ w.cell? ⟨g, o + i * 8 + 5, none⟩ = some (.int .i16 xs[i].wi) ∧ w.cell? ⟨g, o + i * 8 + 6, none⟩ = some (.int .i16 xs[i].hi) ∧ w.cell? ⟨g, o + i * 8 + 7, none⟩ = some (.int .i16 xs[i].we) :=
  ⟨h i hi 0 _ rfl, h i hi 1 _ rfl, h i hi 2 _ rfl, h i hi 3 _ rfl, h i hi 4 _ rfl, h i hi 5 _ rfl, h i hi 6 _ rfl, h i hi 7 _ rfl⟩

theorem BooksAt.below {w w' : World} {B g o : Nat} {xs : List Bk} (h : BooksAt w g o xs) (hb : Below B w w') (hg : g < B) : BooksAt w' g o xs :=
  fun i hi j v hv => (hb.cell (p := ⟨g, o + i * 8 + j, none⟩) hg).trans (h i hi j v hv)

/-- A slice value that reads as a list of books. -/
def SliceOf (w : World) (v : Value) (xs : List Bk) : Prop :=
  ∃ A c, v = .slice A xs.length c ∧ (0 < xs.length → ∃ g o, A = some ⟨g, o, none⟩ ∧ g < w.heap.size ∧ BooksAt w g o xs)

theorem SliceOf.below {w w' : World} {v : Value} {xs : List Bk} (h : SliceOf w v xs) (hb : Below w.heap.size w w') : SliceOf w' v xs := by
  obtain ⟨A, c, rfl, h⟩ := h
  refine ⟨A, c, rfl, fun h0 => ?_⟩
  obtain ⟨g, o, rfl, hg, hh⟩ := h h0
  exact ⟨g, o, rfl, Nat.lt_of_lt_of_le hg hb.size, hh.below hb hg⟩

/-- From 'for every i < n there is a book' to one list. -/
theorem list_of (n : Nat) (p : Nat → Bk → Prop) (h : ∀ i, i < n → ∃ b, p i b) : ∃ xs : List Bk, xs.length = n ∧ ∀ i (hi : i < xs.length), p i xs[i] := by
  induction n with
  | zero => exact ⟨[], rfl, fun i hi => absurd hi (Nat.not_lt_zero _)⟩
  | succ n ih =>
    obtain ⟨xs, hl, hp⟩ := ih fun i hi => h i (by omega)
    obtain ⟨b, hb⟩ := h n (by omega)
    refine ⟨xs ++ [b], by simp [hl], fun i hi => ?_⟩
    by_cases e : i < xs.length
    · rw [List.getElem_append_left e]; exact hp i e
    · have : i = n := by simp at hi; omega
      subst this
      rw [List.getElem_append_right (by omega)]
      simpa [hl] using hb

/-- A slice of books that came in. -/
theorem slice_of_arg {r : Reach} {b0 : Nat} {v : Value} {d : DataW H} {p : List MemPlace} (hv : Value.okWide Try.prog w r b0 25 v) (h : DataW.Trod enc Try.prog w base spare held 25 v d p) :
    ∃ xs : List Bk, (∀ b ∈ xs, b.Wf) ∧ SliceOf w v xs ∧ xs.length ≤ maxLen := by
  obtain ⟨a, len, cap, rfl⟩ := okWide_slice Try.underlying25 hv
  obtain ⟨fuel, hf⟩ := h
  rcases open_slice Try.underlying25 hf with ⟨hcs, _⟩ | ⟨a', l', c', m, n, D, Pl, hcs, _, hl, hm, hmm, _, hi⟩
  · simp [Value.cells] at hcs
    obtain ⟨rfl, rfl, rfl⟩ := hcs
    exact ⟨[], by simp, ⟨_, _, rfl, fun h => absurd h (Nat.lt_irrefl _)⟩, by simp⟩
  · simp [Value.cells] at hcs
    obtain ⟨rfl, rfl, rfl⟩ := hcs
    have hlm : len ≤ m := by rw [hmm]; split <;> omega
    obtain ⟨xs, hxl, hx⟩ := list_of len (fun i b => b.Wf ∧ w.cells? base (a'.add (i * Try.prog.cellsOf 48)) (Try.prog.cellsOf 48) = some b.cells) (fun i h => by
      obtain ⟨cs', h1, h2⟩ := hi i (by omega)
      obtain ⟨b, hb, rfl⟩ := book_of_trod h2
      exact ⟨b, hb, h1⟩)
    subst hxl
    refine ⟨xs, fun b hb => ?_, ⟨_, _, rfl, fun h0 => ?_⟩, by omega⟩
    · obtain ⟨i, hi, rfl⟩ := List.getElem_of_mem hb
      exact (hx i hi).1
    · have hc : ∀ i (hi : i < xs.length) (j : Nat), j < 8 → w.cell? (a'.add (i * 8 + j)) = (xs[i].cells)[j]? := by
        intro i hi j hj
        have h2 := (hx i hi).2
        rw [cellsBook] at h2
        have h3 := (World.cells?_some h2).2.2 j hj
        rw [← h3, add_add]
      have hs : a'.spot = none := by
        have h1 : w.cell? (a'.add (0 * 8 + 0)) = some _ := hc 0 h0 0 (by omega)
        simpa [Addr.add] using World.cell?_spot h1
      obtain ⟨g, o, sp⟩ := a'
      simp only at hs
      subst hs
      refine ⟨g, o, rfl, ?_, fun i hi j v hv => ?_⟩
      · have h1 : w.cell? (Addr.add ⟨g, o, none⟩ (0 * 8 + 0)) = some _ := hc 0 h0 0 (by omega)
        have h2 := block_lt_of_cell h1
        rwa [block_of_add] at h2
      · have hj : j < 8 := by
          have : j < (xs[i].cells).length := (List.getElem?_eq_some_iff.1 hv).1
          simpa [Bk.cells] using this
        have h1 := hc i hi j hj
        rw [hv] at h1
        rw [← h1, Addr.add_lit]
        congr 2
        omega

end
end Go.Proofs.Ytjeflpohokjjkaa
