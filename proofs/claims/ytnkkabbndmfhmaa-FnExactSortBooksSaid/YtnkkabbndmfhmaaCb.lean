/- Two books compared by an order, by the model and by the program: contracts. Condition: the order is no longer than a slice can be, its numbers are int8s; the books' numbers lie within their kinds. -/
import Derived.Test.YtnkkabbndmfhmaaFields
import Derived.Test.YtnkkabbndmfhmaaOrd3
import Derived.Test.YtnkkabbndmfhmaaValid2
namespace Go.Proofs.Ytnkkabbndmfhmaa
set_option linter.unusedSimpArgs false
set_option linter.unusedVariables false
set_option maxRecDepth 100000
open Go.RowKit

def cbVal (zs : List Int) (a b : Bk) : Int := if okO zs && (bookB a && bookB b) then cmpL zs a b else 0
def cbCode (zs : List Int) (a b : Bk) : Int := if okO zs && (bookB a && bookB b) then 0 else 1

theorem cb_cases (zs : List Int) (a b : Bk) :
    (okO zs = false ∧ cbVal zs a b = 0 ∧ cbCode zs a b = 1) ∨ (okO zs = true ∧ bookB a = false ∧ cbVal zs a b = 0 ∧ cbCode zs a b = 1) ∨
    (okO zs = true ∧ bookB a = true ∧ bookB b = false ∧ cbVal zs a b = 0 ∧ cbCode zs a b = 1) ∨ (okO zs = true ∧ bookB a = true ∧ bookB b = true ∧ cbVal zs a b = cmpL zs a b ∧ cbCode zs a b = 0) := by
  unfold cbVal cbCode
  cases okO zs <;> cases bookB a <;> cases bookB b <;> simp

theorem okO_fields {zs : List Int} (h : okO zs = true) : ∀ z ∈ zs, 1 ≤ fieldOf z ∧ fieldOf z ≤ 6 := by
  intro z hz
  have h1 : 0 < zs.length ∧ GoodTo zs zs.length := by unfold okO at h; simpa using h
  exact h1.2.1 (fieldOf z) (by unfold fsOf; rw [List.take_length]; exact List.mem_map.2 ⟨z, hz, rfl⟩)

theorem Below.of_alloc {w w' : World} {o : Obj} (h : w.alloc o = w') : Below w.heap.size w w' := by
  subst h
  exact (Below.refl _ _).alloc (Nat.le_refl _) _

end Go.Proofs.Ytnkkabbndmfhmaa
