/- How the laws' arguments read: pegs by value; the law's copy of pegs. No condition. -/
import Derived.Test.YtjeflpohokjjkaaOpen
import Derived.Test.YtjeflpohokjjkaaPegs
namespace Go.Proofs.Ytjeflpohokjjkaa
set_option linter.unusedSimpArgs false
set_option linter.unusedVariables false
set_option maxRecDepth 100000
open Go.ChangeShapes Go.WideShapes Go.ChangeAt Go.RowKit Go.Deep

theorem cellsPegs : Try.prog.cellsOf 24 = 3 := by kernel_rfl

section
variable {H : Type} {enc : TypeId × Value → H} {w : World} {base : Nat} {spare : Nat → Bool} {held : Bool}

theorem pegs_of_trod {fuel : Nat} {cs : List Value} {x : DataW H × List MemPlace} (h : DataW.trod enc Try.prog w base spare held fuel 24 cs = some x) : ∃ p : Pg, p.Wf ∧ cs = [.int .i16 p.lo, .int .i16 p.st, .int .i16 p.bo] := by
  obtain ⟨xs, n, _, _, hlen, hxl, hf⟩ := DataW.trod_struct Try.underlying24 h
  rw [cellsPegs] at hlen
  match cs, hlen with
  | [c0, c1, c2], _ =>
    match xs, hxl with
    | [y0, y1, y2], _ =>
      have h0 : DataW.trod enc Try.prog w base spare held n 22 ((List.drop 0 [c0, c1, c2]).take (Try.prog.cellsOf 22)) = some y0 := hf 0 _ rfl
      have h1 : DataW.trod enc Try.prog w base spare held n 22 ((List.drop 1 [c0, c1, c2]).take (Try.prog.cellsOf 22)) = some y1 := hf 1 _ rfl
      have h2 : DataW.trod enc Try.prog w base spare held n 22 ((List.drop 2 [c0, c1, c2]).take (Try.prog.cellsOf 22)) = some y2 := hf 2 _ rfl
      simp only [cells16, List.drop_zero, List.drop_succ_cons, List.take_succ_cons, List.take_zero] at h0 h1 h2
      obtain ⟨a0, e0, _, w0⟩ := DataW.trod_int Try.underlying22 h0
      obtain ⟨a1, e1, _, w1⟩ := DataW.trod_int Try.underlying22 h1
      obtain ⟨a2, e2, _, w2⟩ := DataW.trod_int Try.underlying22 h2
      simp only [List.cons.injEq, and_true] at e0 e1 e2
      subst e0 e1 e2
      exact ⟨⟨a0, a1, a2⟩, ⟨bounds_i16 w0, bounds_i16 w1, bounds_i16 w2⟩, rfl⟩

/-- Pegs by value. -/
theorem pegs_of_arg {r : Reach} {b0 : Nat} {v : Value} {d : DataW H} {p : List MemPlace} (hv : Value.okWide Try.prog w r b0 24 v) (h : DataW.Trod enc Try.prog w base spare held 24 v d p) :
    ∃ p : Pg, p.Wf ∧ v = .agg #[.int .i16 p.lo, .int .i16 p.st, .int .i16 p.bo] := by
  obtain ⟨cs, rfl, _⟩ := okWide_struct Try.underlying24 hv
  obtain ⟨fuel, hf⟩ := h
  obtain ⟨b, hb, e⟩ := pegs_of_trod hf
  refine ⟨b, hb, ?_⟩
  have e' : cs.toList = [.int .i16 b.lo, .int .i16 b.st, .int .i16 b.bo] := by simpa [Value.cells] using e
  have : cs = [Value.int .i16 b.lo, .int .i16 b.st, .int .i16 b.bo].toArray := by rw [← e']
  rw [this]

end

/-- The box of pegs. -/
structure PegIn (w : World) (g : Nat) (p : Pg) : Prop where
  c0 : w.cell? ⟨g, 0, none⟩ = some (.int .i16 p.lo)
  c1 : w.cell? ⟨g, 1, none⟩ = some (.int .i16 p.st)
  c2 : w.cell? ⟨g, 2, none⟩ = some (.int .i16 p.bo)
theorem PegIn.new (w : World) (p : Pg) (t : TypeId) : PegIn (w.alloc (.cells #[.int .i16 p.lo, .int .i16 p.st, .int .i16 p.bo] t)) w.heap.size p := by
  refine ⟨?_, ?_, ?_⟩ <;> go_simp
theorem PegIn.below {w w' : World} {g : Nat} {p : Pg} (h : PegIn w g p) (hb : Below w.heap.size w w') (hg : g < w.heap.size) : PegIn w' g p :=
  ⟨(hb.cell (p := ⟨g, 0, none⟩) hg).trans h.c0, (hb.cell (p := ⟨g, 1, none⟩) hg).trans h.c1, (hb.cell (p := ⟨g, 2, none⟩) hg).trans h.c2⟩

set_option maxHeartbeats 1000000 in
theorem toPegs_any (p : Pg) (w : World) :
    Calls Try.prog 7 #[.agg #[.int .i16 p.lo, .int .i16 p.st, .int .i16 p.bo]] w fun e w' => e = .returned (.agg #[.int .i16 p.lo, .int .i16 p.st, .int .i16 p.bo]) ∧ Below w.heap.size w w' := by
  go_enter Try.func7, Try.ntmps7
  go_wp2
  go_returns
  exact ⟨rfl, by go_grown⟩

end Go.Proofs.Ytjeflpohokjjkaa
