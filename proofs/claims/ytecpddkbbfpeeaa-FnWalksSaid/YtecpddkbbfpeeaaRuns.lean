/- Runs of a list, as plain data; the model's first book that is out of order, and both functions that tell the runs: contracts. Condition: at most 1048576 books, whose numbers lie within their kinds. -/
import Derived.Test.YtecpddkbbfpeeaaFields
import Derived.Test.YtecpddkbbfpeeaaBooksOk
import Derived.Test.YtecpddkbbfpeeaaToBookS
namespace Go.Proofs.Ytecpddkbbfpeeaa
set_option linter.unusedSimpArgs false
set_option linter.unusedVariables false
set_option maxRecDepth 100000
open Go.RowKit

/-- The book at i comes ahead of the one before it. -/
def outAt (xs : List Bk) (i : Nat) : Bool := decide (usual (xs.getD i default) (xs.getD (i - 1) default) < 0)

def runsTo (xs : List Bk) : Nat → List Int
  | 0 => []
  | k + 1 => runsTo xs k ++ (if k == 0 || outAt xs k then [(k : Int)] else [])

def runs (xs : List Bk) : List Int := runsTo xs xs.length

def NoneTo (xs : List Bk) (k : Nat) : Prop := ∀ i, 1 ≤ i → i < k → outAt xs i = false

/-- The first book that is out, -1 if there is none. -/
def firstOut (xs : List Bk) : Int :=
  match (List.range xs.length).find? (fun i => decide (1 ≤ i) && outAt xs i) with
  | some i => (i : Int)
  | none => -1

theorem find?_range (n : Nat) (p : Nat → Bool) (k : Nat) (hk : k < n) (hp : p k = true) (h : ∀ i, i < k → p i = false) : (List.range n).find? p = some k := by
  rw [List.find?_eq_some_iff_append]
  refine ⟨hp, List.range k, (List.range (n - k - 1)).map (· + (k + 1)), ?_, fun a ha => by simp [h a (List.mem_range.1 ha)]⟩
  have e : List.range n = List.range (k + (1 + (n - k - 1))) := by congr 1; omega
  rw [e, List.range_add, List.range_add]
  simp
  intro a _
  omega

theorem firstOut_at {xs : List Bk} {k : Nat} (h : NoneTo xs k) (h1 : 1 ≤ k) (hk : k < xs.length) (ho : outAt xs k = true) : firstOut xs = k := by
  unfold firstOut
  rw [find?_range _ _ k hk (by simp [h1, ho]) (fun i hi => by
    by_cases h0 : 1 ≤ i
    · simp [h i h0 hi]
    · simp [h0])]

theorem firstOut_none {xs : List Bk} (h : NoneTo xs xs.length) : firstOut xs = -1 := by
  unfold firstOut
  rw [List.find?_eq_none.2]
  intro i hi
  have := List.mem_range.1 hi
  by_cases h0 : 1 ≤ i
  · simp [h i h0 this]
  · simp [h0]

theorem NoneTo.succ {xs : List Bk} {k : Nat} (h : NoneTo xs k) (ho : outAt xs k = false) : NoneTo xs (k + 1) := by
  intro i h1 hi
  by_cases e : i = k
  · subst e; exact ho
  · exact h i h1 (by omega)

theorem outAt_eq {xs : List Bk} {m : Nat} (h : m + 1 < xs.length) : outAt xs (m + 1) = decide (usual xs[m + 1] (xs[m]'(by omega)) < 0) := by
  unfold outAt
  simp only [List.getD_eq_getElem?_getD, Nat.add_sub_cancel]
  rw [List.getElem?_eq_getElem h, List.getElem?_eq_getElem (by omega : m < xs.length)]
  rfl

theorem runsTo_length (xs : List Bk) (k : Nat) : (runsTo xs k).length ≤ k := by
  induction k with
  | zero => simp [runsTo]
  | succ k ih =>
    unfold runsTo
    split <;> simp <;> omega

theorem ownsBelow {w w' : World} {base : Nat} {e : TypeId} {size n : Nat} {v : Value} {xs : List Value} (h : w.ownsRow base e size v n xs) (hb : Below w.heap.size w w') : w'.ownsRow base e size v n xs := by
  refine ⟨h.1, ?_⟩
  rcases h.2 with hn | ⟨g, cap, cur, hv, hbg, hg, rest⟩
  · exact .inl hn
  · exact .inr ⟨g, cap, cur, hv, hbg, (hb.block g (Array.getElem?_eq_some_iff.1 hg).1).trans hg, rest⟩

end Go.Proofs.Ytecpddkbbfpeeaa
