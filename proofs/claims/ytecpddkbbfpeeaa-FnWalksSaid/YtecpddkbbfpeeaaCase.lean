/- Cases of shelves: how they read when they come in; the law's copies and comparisons; which are valid, by the model and by the program: contracts. Condition: heights no longer than a slice can be (the copies: than the law tests). -/
import Derived.Test.YtecpddkbbfpeeaaNums
namespace Go.Proofs.Ytecpddkbbfpeeaa
set_option linter.unusedSimpArgs false
set_option linter.unusedVariables false
set_option maxRecDepth 100000
open Go.ChangeShapes Go.WideShapes Go.ChangeAt Go.RowKit

structure Cs where
  wi : Int
  lo : Int
  hs : List Int
structure Cs.Wf (c : Cs) : Prop where
  wi : -32768 ≤ c.wi ∧ c.wi ≤ 32767
  lo : -2147483648 ≤ c.lo ∧ c.lo ≤ 2147483647
  hs : ∀ h ∈ c.hs, -32768 ≤ h ∧ h ≤ 32767

theorem IRowK.far {k : IntKind} {t : TypeId} {w : World} {g j n : Nat} {zs : List Int} (h : IRowK k t w g zs j n) {p : Addr} (hne : g ≠ p.block) {u : Value} : IRowK k t (w.setCell p u) g zs j n := by
  obtain ⟨cs, h, h2⟩ := h
  exact ⟨cs, (Below.heap_setCell w p u g hne).trans h, h2⟩
theorem alloc2 (w : World) (a b : Obj) : ((w.alloc a).alloc b).heap[w.heap.size]? = some a ∧ ((w.alloc a).alloc b).heap[w.heap.size + 1]? = some b := by
  constructor
  · rw [Below.heap_alloc _ _ _ (by simp)]
    exact heap_alloc_new w a
  · have := heap_alloc_new (w.alloc a) b
    simpa using this
theorem alloc3 (w : World) (a b c : Obj) : (((w.alloc a).alloc b).alloc c).heap[w.heap.size + 1]? = some b ∧ (((w.alloc a).alloc b).alloc c).heap[w.heap.size + 1 + 1]? = some c := by
  constructor
  · rw [Below.heap_alloc _ _ _ (by simp)]
    have := heap_alloc_new (w.alloc a) b
    simpa using this
  · have := heap_alloc_new ((w.alloc a).alloc b) c
    simpa using this

end Go.Proofs.Ytecpddkbbfpeeaa
