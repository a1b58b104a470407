/- When a table is a proof: the plain form; by the model, a contract. Condition: a valid case and list, a table no longer than slices can be. -/
import Derived.Test.YtpamflkefgpdpaaTab
import Derived.Test.YtpamflkefgpdpaaRowsFrom
import Derived.Test.YtpamflkefgpdpaaMeas
namespace Go.Proofs.Ytpamflkefgpdpaa
set_option linter.unusedSimpArgs false
set_option linter.unusedVariables false
set_option maxRecDepth 100000
open Go.RowKit

def tv (t : List (List Int)) (s i : Nat) : Int := (t.getD s []).getD i 0
theorem getD_rows {t : List (List Int)} {s : Nat} (h : s < t.length) : t.getD s [] = t[s] := by simp [List.getD, List.getElem?_eq_getElem h]
theorem TabOf.some_ {w : World} {T : Option Addr} {n c : Nat} {t : List (List Int)} (h : TabOf w (.slice T n c) t) (h0 : 0 < t.length) : ∃ g o, T = some ⟨g, o, none⟩ ∧ g < w.heap.size := by
  obtain ⟨A, c', e, h⟩ := h
  obtain ⟨g, o, rfl, hg, -⟩ := h h0
  injection e with e1 e2 e3
  exact ⟨g, o, e1, hg⟩
theorem TabOf.row {w W : World} {g o n c : Nat} {t : List (List Int)} (h : TabOf w (.slice (some ⟨g, o, none⟩) n c) t) (hb : Below w.heap.size w W) {s : Nat} (hs : s < t.length) :
    ∃ As cs, W.cell? ⟨g, o + s, none⟩ = some (.slice As (t.getD s []).length cs) ∧ ∀ i, i < (t.getD s []).length → ∃ gs os, As = some ⟨gs, os, none⟩ ∧ gs < w.heap.size ∧ W.cell? ⟨gs, os + i, none⟩ = some (.int .i64 (tv t s i)) := by
  obtain ⟨A, c', e, h⟩ := h
  obtain ⟨g', o', rfl, hg, h⟩ := h (by omega)
  injection e with e1 e2 e3
  injection e1 with e1
  injection e1 with e1 e4 e5
  subst e1 e4
  obtain ⟨u, hu, As, cs, rfl, hz⟩ := h s hs
  unfold tv
  rw [getD_rows hs]
  refine ⟨As, cs, (hb.cell (p := ⟨g, o + s, none⟩) hg).trans hu, fun i hi => ?_⟩
  obtain ⟨gs, os, rfl, hgs, hz⟩ := hz (by omega)
  refine ⟨gs, os, rfl, hgs, ?_⟩
  rw [(hb.cell (p := ⟨gs, os + i, none⟩) hgs).trans (hz i hi)]
  simp [List.getD, List.getElem?_eq_getElem hi]
/-- A number of a table, with its row. -/
theorem TabOf.num {w W : World} {g o n c : Nat} {t : List (List Int)} (h : TabOf w (.slice (some ⟨g, o, none⟩) n c) t) (hb : Below w.heap.size w W) {s i d : Nat} (hs : s < t.length) (hd : (t.getD s []).length = d) (hi : i < d) :
    ∃ gs os cs, W.cell? ⟨g, o + s, none⟩ = some (.slice (some ⟨gs, os, none⟩) d cs) ∧ W.cell? ⟨gs, os + i, none⟩ = some (.int .i64 (tv t s i)) ∧ gs < w.heap.size := by
  obtain ⟨As, cs, h1, h2⟩ := h.row hb hs
  obtain ⟨gs, os, rfl, h3, h4⟩ := h2 i (by omega)
  exact ⟨gs, os, cs, by rw [h1, hd], h4, h3⟩
/-- Two numbers of one row. -/
theorem TabOf.num2 {w W : World} {g o n c : Nat} {t : List (List Int)} (h : TabOf w (.slice (some ⟨g, o, none⟩) n c) t) (hb : Below w.heap.size w W) {s d : Nat} (hs : s < t.length) (hd : (t.getD s []).length = d) (h0 : 0 < d) :
    ∃ gs os cs, W.cell? ⟨g, o + s, none⟩ = some (.slice (some ⟨gs, os, none⟩) d cs) ∧ gs < w.heap.size ∧ ∀ i, i < d → W.cell? ⟨gs, os + i, none⟩ = some (.int .i64 (tv t s i)) := by
  obtain ⟨As, cs, h1, h2⟩ := h.row hb hs
  obtain ⟨gs, os, rfl, h3, -⟩ := h2 0 (by omega)
  refine ⟨gs, os, cs, by rw [h1, hd], h3, fun i hi => ?_⟩
  obtain ⟨gs', os', e, -, h4⟩ := h2 i (by omega)
  injection e with e
  injection e with e1 e2 e3
  subst e1 e2
  exact h4
theorem tv_in {t : List (List Int)} (wt : ∀ zs ∈ t, ∀ z ∈ zs, (Lit.int .i64 z).wf = true) (s i : Nat) : -9223372036854775808 ≤ tv t s i ∧ tv t s i ≤ 9223372036854775807 := by
  unfold tv
  by_cases hs : s < t.length
  · rw [getD_rows hs]
    by_cases hi : i < t[s].length
    · have e : t[s].getD i 0 = t[s][i] := by simp [List.getD, List.getElem?_eq_getElem hi]
      rw [e]
      have := bounds_i64 (wt _ (List.getElem_mem hs) _ (List.getElem_mem hi))
      exact ⟨this.1, this.2⟩
    · simp [List.getD, List.getElem?_eq_none (Nat.le_of_not_lt hi)]
  · simp [List.getD, List.getElem?_eq_none (Nat.le_of_not_lt hs)]

/-! ### the plain form -/
def StepP (c : Cs) (xs : List Bk) (t : List (List Int)) (s i k : Nat) : Prop := tv t (s + 1) k = -1 ∨ (tv t s i ≠ -1 ∧ tv t s i - priceS c s (part xs i k) false ≤ tv t (s + 1) k)
def StepsTo (c : Cs) (xs : List Bk) (t : List (List Int)) (s i d : Nat) : Prop := ∀ d', d' < d → StepP c xs t s i (i + d')
def CellP (c : Cs) (xs : List Bk) (t : List (List Int)) (s i : Nat) : Prop := -1 ≤ tv t s i ∧ StepsTo c xs t s i (cntR c s xs i)
def endI (n i : Nat) : Int := if i = n then 0 else -1
structure ProofP (c : Cs) (xs : List Bk) (t : List (List Int)) : Prop where
  len : t.length = c.hs.length + 1
  rows : ∀ s, s < c.hs.length + 1 → (t.getD s []).length = xs.length + 1
  last : ∀ i, i < xs.length + 1 → tv t c.hs.length i = endI xs.length i
  cells : ∀ s, s < c.hs.length → ∀ i, i < xs.length + 1 → CellP c xs t s i
noncomputable def proofB (c : Cs) (xs : List Bk) (t : List (List Int)) : Bool := @decide (ProofP c xs t) (Classical.propDecidable _)
theorem proofB_yes {c : Cs} {xs : List Bk} {t : List (List Int)} (h : ProofP c xs t) : proofB c xs t = true := by unfold proofB; exact @decide_eq_true _ (Classical.propDecidable _) h
theorem proofB_no {c : Cs} {xs : List Bk} {t : List (List Int)} (h : ¬ ProofP c xs t) : proofB c xs t = false := by unfold proofB; exact @decide_eq_false _ (Classical.propDecidable _) h
theorem StepsTo.succ {c : Cs} {xs : List Bk} {t : List (List Int)} {s i d : Nat} (h : StepsTo c xs t s i d) (h1 : StepP c xs t s i (i + d)) : StepsTo c xs t s i (d + 1) := by
  intro d' hd
  by_cases e : d' = d
  · subst e; exact h1
  · exact h d' (by omega)
theorem all_succ {P : Nat → Prop} {k : Nat} (h : ∀ i, i < k → P i) (h1 : P k) : ∀ i, i < k + 1 → P i := by
  intro i hi
  by_cases e : i = k
  · subst e; exact h1
  · exact h i (by omega)
theorem FitD.le {c : Cs} {s : Nat} {xs : List Bk} {i d : Nat} (h : FitD c s xs i d) : d ≤ cntR c s xs i := by
  rcases h with rfl | ⟨h0, h⟩
  · omega
  · have := (reachF_le c s xs i (xs.length - (i + d - 1)) (i + d - 1)).1
    rw [h] at this
    unfold cntR
    omega
theorem priceS_not {c : Cs} {s : Nat} {ps : List Bk} {b : Bool} (h : fitsB c s ps = false) : priceS c s ps b < 0 := by
  have := freeS_neg c s ps
  rw [h] at this
  unfold priceS
  rw [if_pos (by simpa using this)]
  decide
theorem priceS_fit {c : Cs} {s : Nat} {ps : List Bk} {b : Bool} (h : fitsB c s ps = true) : 0 ≤ priceS c s ps b := by
  have := freeS_neg c s ps
  rw [h] at this
  have h0 : ¬ freeS c s ps < 0 := by simpa using this
  unfold priceS
  rw [if_neg h0]
  split
  · omega
  · split
    · omega
    · exact Int.mul_nonneg (by omega) (by omega)

end Go.Proofs.Ytpamflkefgpdpaa
