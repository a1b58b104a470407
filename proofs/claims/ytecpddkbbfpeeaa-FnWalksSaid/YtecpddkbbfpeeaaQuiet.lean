/- A region that draws its order, whose operations read and whose calls may make memory of their own: walked once, in the class of worlds in which all that was there stands. No condition. -/
import Derived.Test.YtecpddkbbfpeeaaRow
import Derived.Deep.Quiet
namespace Go.Proofs.Ytecpddkbbfpeeaa
set_option linter.unusedSimpArgs false
set_option linter.unusedVariables false
set_option maxRecDepth 100000
open Go.RowKit

structure BelowBy (w : World) where
  W : World
  h : Below w.heap.size w W

instance (w : World) : Inhabited (BelowBy w) := ⟨⟨w, Below.refl _ _⟩⟩

theorem wp_region_below {P : Program} {id : Nat} {Q : Exit → Act → World → Prop} {a : Act} {w : World} {l : List Oper} (hm : P.follows .mixedOrders = true) (hB : Region.lexB .any l.toArray = true)
    (h : wpQuiet P l.toArray (fun w' => ∃ p : BelowBy w, w' = p.W) (fun a' => ∀ w', (∃ p : BelowBy w, w' = p.W) → Q .normal a' w') l a) : (Code.region id l.toArray true).wp P Q a w :=
  wp_region_quiet (C := fun w' => ∃ p : BelowBy w, w' = p.W) hm hB ⟨⟨w.drew, (Below.refl _ _).drew⟩, rfl⟩ (by simpa using h)

theorem calls_below {P : Program} {f : FuncId} {args : Array Value} {w : World} {p : BelowBy w} {v : Value}
    (h : Calls P f args p.W fun e w' => e = .returned v ∧ Below p.W.heap.size p.W w') : Calls P f args p.W fun e w'' => e = .returned v ∧ ∃ p : BelowBy w, w'' = p.W :=
  h.mono fun _ w'' ⟨he, hb⟩ => ⟨he, ⟨w'', bnext p.h hb⟩, rfl⟩

theorem calls_same_below {P : Program} {f : FuncId} {args : Array Value} {w : World} {p : BelowBy w} {v : Value}
    (h : Calls P f args p.W fun e w' => e = .returned v ∧ p.W = w') : Calls P f args p.W fun e w'' => e = .returned v ∧ ∃ p : BelowBy w, w'' = p.W :=
  h.mono fun _ _ ⟨he, hb⟩ => ⟨he, p, hb.symm⟩

theorem belowBy_cell {w : World} {g o : Nat} {v : Value} (hg : g < w.heap.size) (h : w.cell? ⟨g, o, none⟩ = some v) (p : BelowBy w) : p.W.cell? ⟨g, o, none⟩ = some v := (p.h.cell (p := ⟨g, o, none⟩) hg).trans h

end Go.Proofs.Ytecpddkbbfpeeaa
