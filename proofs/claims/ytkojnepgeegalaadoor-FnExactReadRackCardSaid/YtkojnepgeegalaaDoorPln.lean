/- Which numbers have a text: the model's test, a contract. Condition: no longer than a slice can be. -/
import Derived.Test.YtkojnepgeegalaaDoorNums
namespace Go.Proofs.YtkojnepgeegalaaDoor
set_option linter.unusedSimpArgs false
set_option linter.unusedVariables false
set_option maxRecDepth 100000
open Go.RowKit

/-- The numbers have a text. -/
def plainB (zs : List Int) : Bool := inB (zs.length : Int) 1 12 && zs.all fun z => inB z 0 60
theorem plain_len {zs : List Int} (h : inB (zs.length : Int) 1 12 = false) : plainB zs = false := by unfold plainB; rw [h]; rfl
theorem plain_bad {zs : List Int} {k : Nat} (hk : k < zs.length) (h : inB zs[k] 0 60 = false) : plainB zs = false := by
  unfold plainB
  rw [Bool.and_eq_false_iff]
  refine .inr ?_
  rw [List.all_eq_false]
  exact ⟨zs[k], List.getElem_mem hk, by rw [h]; simp⟩
def InTo (zs : List Int) (k : Nat) : Prop := ∀ (i : Nat) (h : i < zs.length), i < k → inB zs[i] 0 60 = true
theorem InTo.succ {zs : List Int} {k : Nat} (h : InTo zs k) (hk : k < zs.length) (hb : inB zs[k] 0 60 = true) : InTo zs (k + 1) := by
  intro i hi hik
  by_cases e : i = k
  · subst e; exact hb
  · exact h i hi (by omega)
theorem plain_ok {zs : List Int} (h1 : inB (zs.length : Int) 1 12 = true) (h : InTo zs zs.length) : plainB zs = true := by
  unfold plainB
  rw [h1, Bool.true_and, List.all_eq_true]
  intro z hz
  obtain ⟨k, hk, rfl⟩ := List.getElem_of_mem hz
  exact h k hk hk
theorem plain_of {zs : List Int} (h : plainB zs = true) : (1 ≤ zs.length ∧ zs.length ≤ 12) ∧ ∀ z ∈ zs, 0 ≤ z ∧ z ≤ 60 := by
  unfold plainB at h
  rw [Bool.and_eq_true, List.all_eq_true] at h
  obtain ⟨h1, h2⟩ := h
  unfold inB at h1 h2
  simp only [decide_eq_true_eq] at h1 h2
  exact ⟨by omega, fun z hz => h2 z hz⟩
end Go.Proofs.YtkojnepgeegalaaDoor
