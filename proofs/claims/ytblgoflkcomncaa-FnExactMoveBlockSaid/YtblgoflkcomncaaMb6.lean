/- A block or a move by value: how the law's argument reads, the law's copies, capacities: contracts. No condition. -/
import Derived.Test.YtblgoflkcomncaaMb5
import Derived.Test.YtblgoflkcomncaaMark
namespace Go.Proofs.Ytblgoflkcomncaa
set_option linter.unusedSimpArgs false
set_option linter.unusedVariables false
set_option maxRecDepth 100000
open Go.ChangeShapes Go.WideShapes Go.ChangeAt Go.RowKit Go.Deep

structure Kb where
  f : Int
  c : Int
  t : Int
structure Kb.Wf (k : Kb) : Prop where
  f : -32768 ≤ k.f ∧ k.f ≤ 32767
  c : -32768 ≤ k.c ∧ k.c ≤ 32767
  t : -32768 ≤ k.t ∧ k.t ≤ 32767
set_option maxHeartbeats 1000000 in
theorem toBlock_any (k : Kb) (w : World) :
    Calls Try.prog 35 #[.agg #[.int .i16 k.f, .int .i16 k.c, .int .i16 k.t]] w fun e w' => e = .returned (.agg #[.int .i16 k.f, .int .i16 k.c, .int .i16 k.t]) ∧ Below w.heap.size w w' := by
  go_enter Try.func35, Try.ntmps35
  go_wp2
  go_returns
  exact ⟨rfl, by go_grown⟩
theorem cellsBlock : Try.prog.cellsOf 56 = 3 := by kernel_rfl

section
variable {H : Type} {enc : TypeId × Value → H} {w : World} {base : Nat} {spare : Nat → Bool} {held : Bool}

theorem block_of_trod {fuel : Nat} {cs : List Value} {x : DataW H × List MemPlace} (h : DataW.trod enc Try.prog w base spare held fuel 56 cs = some x) : ∃ p : Kb, p.Wf ∧ cs = [.int .i16 p.f, .int .i16 p.c, .int .i16 p.t] := by
  obtain ⟨xs, n, _, _, hlen, hxl, hf⟩ := DataW.trod_struct Try.underlying56 h
  rw [cellsBlock] at hlen
  match cs, hlen with
  | [c0, c1, c2], _ =>
    match xs, hxl with
    | [y0, y1, y2], _ =>
      have h0 : DataW.trod enc Try.prog w base spare held n 22 ((List.drop 0 [c0, c1, c2]).take (Try.prog.cellsOf 22)) = some y0 := hf 0 _ rfl
      have h1 : DataW.trod enc Try.prog w base spare held n 22 ((List.drop 1 [c0, c1, c2]).take (Try.prog.cellsOf 22)) = some y1 := hf 1 _ rfl
      have h2 : DataW.trod enc Try.prog w base spare held n 22 ((List.drop 2 [c0, c1, c2]).take (Try.prog.cellsOf 22)) = some y2 := hf 2 _ rfl
      simp only [cells16, List.drop_zero, List.drop_succ_cons, List.take_succ_cons, List.take_zero] at h0 h1 h2
      obtain ⟨a0, e0, _, w0⟩ := DataW.trod_int Try.underlying22 h0
      obtain ⟨a1, e1, _, w1⟩ := DataW.trod_int Try.underlying22 h1
      obtain ⟨a2, e2, _, w2⟩ := DataW.trod_int Try.underlying22 h2
      simp only [List.cons.injEq, and_true] at e0 e1 e2
      subst e0 e1 e2
      exact ⟨⟨a0, a1, a2⟩, ⟨bounds_i16 w0, bounds_i16 w1, bounds_i16 w2⟩, rfl⟩

/-- A block by value. -/
theorem block_of_arg {r : Reach} {b0 : Nat} {v : Value} {d : DataW H} {p : List MemPlace} (hv : Value.okWide Try.prog w r b0 56 v) (h : DataW.Trod enc Try.prog w base spare held 56 v d p) :
    ∃ p : Kb, p.Wf ∧ v = .agg #[.int .i16 p.f, .int .i16 p.c, .int .i16 p.t] := by
  obtain ⟨cs, rfl, _⟩ := okWide_struct Try.underlying56 hv
  obtain ⟨fuel, hf⟩ := h
  obtain ⟨b, hb, e⟩ := block_of_trod hf
  refine ⟨b, hb, ?_⟩
  have e' : cs.toList = [.int .i16 b.f, .int .i16 b.c, .int .i16 b.t] := by simpa [Value.cells] using e
  have : cs = [Value.int .i16 b.f, .int .i16 b.c, .int .i16 b.t].toArray := by rw [← e']
  rw [this]

end
section
variable {H : Type} {enc : TypeId × Value → H} {w : World} {base : Nat} {spare : Nat → Bool} {held : Bool}
/-- A move by value. -/
theorem move_of_arg {r : Reach} {b0 : Nat} {v : Value} {d : DataW H} {p : List MemPlace} (hv : Value.okWide Try.prog w r b0 48 v) (h : DataW.Trod enc Try.prog w base spare held 48 v d p) :
    ∃ m : Mv, m.Wf ∧ v = .agg #[.int .i16 m.f, .int .i16 m.t] := by
  obtain ⟨cs, rfl, _⟩ := okWide_struct Try.underlying48 hv
  obtain ⟨fuel, hf⟩ := h
  obtain ⟨b, hb, e⟩ := move_of_trod hf
  refine ⟨b, hb, ?_⟩
  have e' : cs.toList = [.int .i16 b.f, .int .i16 b.t] := by simpa [Value.cells] using e
  have : cs = [Value.int .i16 b.f, .int .i16 b.t].toArray := by rw [← e']
  rw [this]
end
theorem row_cap {g n : Nat} : ∀ A m c, (Value.slice (some ⟨g, 0, none⟩) n n) = .slice A m c → n ≤ c := fun A m c h => by
  injection h with _ _ h
  omega
end Go.Proofs.Ytblgoflkcomncaa
