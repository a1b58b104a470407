/- The reader's last numbers, by the program, whatever its state: a contract. Condition: the error variable holds an error of errors.New's make; a text no longer than told. -/
import Derived.Test.YtkojnepgeegalaaDoorRd4
namespace Go.Proofs.YtkojnepgeegalaaDoor
set_option linter.unusedSimpArgs false
set_option linter.unusedVariables false
set_option maxRecDepth 100000
open Go.RowKit

/-- What the last numbers say. -/
def LastF (c : UInt8) (most : Int) (T : ByteArray) (p : Nat) (f0 : Bool) (zs : List Int) (f' : Bool) : Prop :=
  (f' = false ∧ f0 = false ∧ 1 ≤ zs.length ∧ zs.length ≤ 12 ∧ AllIn most zs ∧ restT T p = joinL c (zs.map dec)) ∨ (f' = true ∧ (f0 = false → NoLast c most (restT T p)))
theorem Gr.grown {g : Nat} {a w w' : World} {row : Option Nat} (h : Gr g a w) (k : w.grownBy w' row) (hr : ∀ b, row = some b → a.heap.size ≤ b ∨ b = g) : Gr g a w' :=
  ⟨k.os.trans h.os, k.tape.trans h.tape, k.output.trans h.output, Nat.le_trans h.size k.size, fun b hb hne => (k.block b (Nat.lt_of_lt_of_le hb h.size) (fun e => by
    rcases hr b e.symm with h1 | h1
    · omega
    · exact hne (by rw [h1]))).trans (h.block b hb hne)⟩
theorem al_snoc {most n : Int} {zs : List Int} {T : ByteArray} {p q : Nat} {f f' : Bool} (hm : 0 ≤ most ∧ most ≤ 1000000) (h : AllIn most zs) (hn : NumR T p f most n q f') : AllIn most (zs ++ [n]) := fun z hz => by
  rcases List.mem_append.1 hz with h1 | h1
  · exact h z h1
  · rw [List.mem_singleton] at h1
    rw [h1]
    rcases hn with ⟨h2, _⟩ | ⟨_, h2, _⟩
    · exact ⟨h2.2.2.1, h2.2.2.2⟩
    · rw [h2]; exact ⟨Int.le_refl _, hm.1⟩
end Go.Proofs.YtkojnepgeegalaaDoor
