/- A block or a move by value: how the law's argument reads, the law's copies, capacities: contracts. No condition. -/
import Derived.Test.YtkclobdealnkhaaDoorMb5
namespace Go.Proofs.YtkclobdealnkhaaDoor
set_option linter.unusedSimpArgs false
set_option linter.unusedVariables false
set_option maxRecDepth 100000
open Go.ChangeShapes Go.WideShapes Go.ChangeAt Go.RowKit Go.Deep

structure Kb where
  f : Int
  c : Int
  t : Int
structure Kb.Wf (k : Kb) : Prop where
  f : -32768 ≤ k.f ∧ k.f ≤ 32767
  c : -32768 ≤ k.c ∧ k.c ≤ 32767
  t : -32768 ≤ k.t ∧ k.t ≤ 32767
section
variable {H : Type} {enc : TypeId × Value → H} {w : World} {base : Nat} {spare : Nat → Bool} {held : Bool}
/-- A move by value. -/
theorem move_of_arg {r : Reach} {b0 : Nat} {v : Value} {d : DataW H} {p : List MemPlace} (hv : Value.okWide Tryd.prog w r b0 78 v) (h : DataW.Trod enc Tryd.prog w base spare held 78 v d p) :
    ∃ m : Mv, m.Wf ∧ v = .agg #[.int .i16 m.f, .int .i16 m.t] := by
  obtain ⟨cs, rfl, _⟩ := okWide_struct Tryd.underlying78 hv
  obtain ⟨fuel, hf⟩ := h
  obtain ⟨b, hb, e⟩ := move_of_trod hf
  refine ⟨b, hb, ?_⟩
  have e' : cs.toList = [.int .i16 b.f, .int .i16 b.t] := by simpa [Value.cells] using e
  have : cs = [Value.int .i16 b.f, .int .i16 b.t].toArray := by rw [← e']
  rw [this]
end
theorem row_cap {g n : Nat} : ∀ A m c, (Value.slice (some ⟨g, 0, none⟩) n n) = .slice A m c → n ≤ c := fun A m c h => by
  injection h with _ _ h
  omega
end Go.Proofs.YtkclobdealnkhaaDoor
