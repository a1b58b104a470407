/- The bound of labels: the plain form. No condition. -/
import Derived.Test.YtboacgmmlficjaaUse
import Derived.Test.YtboacgmmlficjaaBooksOk
namespace Go.Proofs.Ytboacgmmlficjaa
set_option linter.unusedSimpArgs false
set_option linter.unusedVariables false
set_option maxRecDepth 100000
open Go.RowKit

/-- The last of the first i books that has the label z. -/
def lastT (xs : List Bk) (ls : List Int) : Nat → Int → Option Bk
  | 0, _ => none
  | i + 1, z => if ls.getD i 0 = z then some (xs.getD i default) else lastT xs ls i z
/-- How many labels the first i books have. -/
def dnT (ls : List Int) : Nat → Nat
  | 0 => 0
  | i + 1 => dnT ls i + (if ls.getD i 0 ∈ ls.take i then 0 else 1)
/-- Of the first m books one has the label of book i, and isn't behind it. -/
def badTo (xs : List Bk) (ls : List Int) (i m : Nat) : Bool := (List.range m).any fun k => decide (ls.getD k 0 = ls.getD i 0) && decide (0 ≤ usual (xs.getD i default) (xs.getD k default))
def NoBad (xs : List Bk) (ls : List Int) (i : Nat) : Prop := ∀ j, j < i → badTo xs ls j j = false
def anyBad (xs : List Bk) (ls : List Int) : Bool := (List.range xs.length).any fun j => badTo xs ls j j
def lbC (xs : List Bk) (ls : List Int) : Int := if okB xs = false then 1 else if ls.length ≠ xs.length then 2 else if anyBad xs ls then 8 else 0
def lbV (xs : List Bk) (ls : List Int) : Int := if lbC xs ls = 0 then (xs.length : Int) - (dnT ls xs.length : Int) else 0

theorem badTo_zero (xs : List Bk) (ls : List Int) (i : Nat) : badTo xs ls i 0 = false := rfl
theorem badTo_succ (xs : List Bk) (ls : List Int) (i m : Nat) : badTo xs ls i (m + 1) = (badTo xs ls i m || (decide (ls.getD m 0 = ls.getD i 0) && decide (0 ≤ usual (xs.getD i default) (xs.getD m default)))) := by
  unfold badTo
  rw [List.range_succ, List.any_append]
  simp only [List.any_cons, List.any_nil, Bool.or_false]
theorem noBad_succ {xs : List Bk} {ls : List Int} {i : Nat} (h : NoBad xs ls i) (hb : badTo xs ls i i = false) : NoBad xs ls (i + 1) := fun j hj => by
  by_cases e : j = i
  · rw [e]; exact hb
  · exact h j (by omega)
theorem any_no {xs : List Bk} {ls : List Int} (h : NoBad xs ls xs.length) : anyBad xs ls = false := by
  unfold anyBad
  rw [List.any_eq_false]
  intro j hj
  rw [h j (List.mem_range.1 hj)]
  simp
theorem any_yes {xs : List Bk} {ls : List Int} {i : Nat} (hi : i < xs.length) (h : badTo xs ls i i = true) : anyBad xs ls = true := by
  unfold anyBad
  rw [List.any_eq_true]
  exact ⟨i, List.mem_range.2 hi, h⟩
theorem badTo_mono {xs : List Bk} {ls : List Int} {i m n : Nat} (h : badTo xs ls i m = true) (hmn : m ≤ n) : badTo xs ls i n = true := by
  unfold badTo at *
  rw [List.any_eq_true] at *
  obtain ⟨k, hk, hp⟩ := h
  exact ⟨k, List.mem_range.2 (by have := List.mem_range.1 hk; omega), hp⟩
theorem lb_proof {xs : List Bk} {ls : List Int} (h1 : okB xs = true) (h2 : ls.length = xs.length) (h3 : anyBad xs ls = true) : lbC xs ls = 8 ∧ lbV xs ls = 0 := by
  have e : lbC xs ls = 8 := by unfold lbC; rw [if_neg (by rw [h1]; decide), if_neg (by simpa using h2), h3]; rfl
  exact ⟨e, by unfold lbV; rw [e]; rfl⟩
theorem lb_good {xs : List Bk} {ls : List Int} (h1 : okB xs = true) (h2 : ls.length = xs.length) (h3 : anyBad xs ls = false) : lbC xs ls = 0 ∧ lbV xs ls = (xs.length : Int) - (dnT ls xs.length : Int) := by
  have e : lbC xs ls = 0 := by unfold lbC; rw [if_neg (by rw [h1]; decide), if_neg (by simpa using h2), h3]; rfl
  exact ⟨e, by unfold lbV; rw [if_pos e]⟩
theorem lb_range {xs : List Bk} {ls : List Int} (h1 : okB xs = true) (h2 : ls.length ≠ xs.length) : lbC xs ls = 2 ∧ lbV xs ls = 0 := by
  have e : lbC xs ls = 2 := by unfold lbC; rw [if_neg (by rw [h1]; decide), if_pos h2]
  exact ⟨e, by unfold lbV; rw [e]; rfl⟩
theorem lb_invalid {xs : List Bk} {ls : List Int} (h1 : okB xs = false) : lbC xs ls = 1 ∧ lbV xs ls = 0 := by
  have e : lbC xs ls = 1 := by unfold lbC; rw [if_pos h1]
  exact ⟨e, by unfold lbV; rw [e]; rfl⟩
theorem dn_le (ls : List Int) : ∀ i, dnT ls i ≤ i
  | 0 => Nat.le_refl _
  | i + 1 => by
    have := dn_le ls i
    rw [dnT]
    split <;> omega
theorem last_none {xs : List Bk} {ls : List Int} {z : Int} : ∀ {i}, i ≤ ls.length → (lastT xs ls i z = none ↔ z ∉ ls.take i)
  | 0, _ => by simp [lastT]
  | i + 1, h => by
    have ih := last_none (xs := xs) (ls := ls) (z := z) (i := i) (by omega)
    have hi : i < ls.length := by omega
    rw [lastT, List.take_succ_eq_append_getElem hi, List.mem_append, List.mem_singleton]
    have e : ls.getD i 0 = ls[i] := by simp [List.getD, List.getElem?_eq_getElem (show i < ls.length by omega)]
    rw [e]
    by_cases hz : ls[i] = z
    · rw [if_pos hz]
      constructor
      · intro h; cases h
      · intro h; exact absurd (.inr hz.symm) h
    · rw [if_neg hz, ih]
      constructor
      · intro h1 h2
        rcases h2 with h2 | h2
        · exact h1 h2
        · exact hz h2.symm
      · intro h1 h2
        exact h1 (.inl h2)
theorem last_some {xs : List Bk} {ls : List Int} {z : Int} {x : Bk} : ∀ {i}, lastT xs ls i z = some x → ∃ k, k < i ∧ ls.getD k 0 = z ∧ x = xs.getD k default ∧ ∀ k', k < k' → k' < i → ls.getD k' 0 ≠ z
  | 0, h => by cases h
  | i + 1, h => by
    rw [lastT] at h
    by_cases hz : ls.getD i 0 = z
    · rw [if_pos hz] at h
      injection h with h
      exact ⟨i, by omega, hz, h.symm, fun k' h1 h2 => by omega⟩
    · rw [if_neg hz] at h
      obtain ⟨k, h1, h2, h3, h4⟩ := last_some h
      refine ⟨k, by omega, h2, h3, fun k' g1 g2 => ?_⟩
      by_cases e : k' = i
      · rw [e]; exact hz
      · exact h4 k' g1 (by omega)
/-- It is enough to look at the last one of the label. -/
theorem bad_last {xs : List Bk} {ls : List Int} (wf : ∀ b ∈ xs, b.Wf) {i : Nat} (hi : i < xs.length) (hl : ls.length = xs.length) (hno : NoBad xs ls i) :
    badTo xs ls i i = (match lastT xs ls i (ls.getD i 0) with | none => false | some x => decide (0 ≤ usual (xs.getD i default) x)) := by
  have W : ∀ k, k < xs.length → (xs.getD k default).Wf := fun k hk => by rw [getD_nth hk]; exact wf _ (List.getElem_mem hk)
  cases hx : lastT xs ls i (ls.getD i 0) with
  | none =>
    rw [last_none (by omega)] at hx
    unfold badTo
    rw [List.any_eq_false]
    intro k hk
    have hk := List.mem_range.1 hk
    have : ls.getD k 0 ≠ ls.getD i 0 := fun e => hx (by
      rw [← e, show ls.getD k 0 = ls[k] by simp [List.getD, List.getElem?_eq_getElem (show k < ls.length by omega)], List.mem_take_iff_getElem]
      exact ⟨k, by omega, rfl⟩)
    rw [decide_eq_false this]
    simp
  | some x =>
    obtain ⟨k, h1, h2, rfl, h4⟩ := last_some hx
    by_cases hu : 0 ≤ usual (xs.getD i default) (xs.getD k default)
    · show _ = decide _
      rw [decide_eq_true hu]
      unfold badTo
      rw [List.any_eq_true]
      exact ⟨k, List.mem_range.2 h1, by rw [decide_eq_true h2, decide_eq_true hu]; rfl⟩
    · show _ = decide _
      rw [decide_eq_false hu]
      unfold badTo
      rw [List.any_eq_false]
      intro k' hk'
      have hk' := List.mem_range.1 hk'
      by_cases e : ls.getD k' 0 = ls.getD i 0
      · have hle : k' ≤ k := Nat.le_of_not_lt fun h => h4 k' h hk' e
        have hlt : usual (xs.getD i default) (xs.getD k' default) < 0 := by
          by_cases ek : k' = k
          · rw [ek]; omega
          · have h5 := hno k h1
            unfold badTo at h5
            rw [List.any_eq_false] at h5
            have h6 := h5 k' (List.mem_range.2 (by omega))
            rw [decide_eq_true (e.trans h2.symm)] at h6
            have h7 : usual (xs.getD k default) (xs.getD k' default) < 0 := by simpa using h6
            rw [usual_lt _ _ (W i hi) (W k' (by omega))]
            rw [usual_lt _ _ (W k (by omega)) (W k' (by omega))] at h7
            have h8 : usual (xs.getD i default) (xs.getD k default) < 0 := by omega
            rw [usual_lt _ _ (W i hi) (W k (by omega))] at h8
            omega
        rw [decide_eq_false (show ¬ 0 ≤ usual (xs.getD i default) (xs.getD k' default) by omega)]
        simp
      · rw [decide_eq_false e]
        simp
theorem dn_last {xs : List Bk} {ls : List Int} {i : Nat} (hi : i < ls.length) : dnT ls (i + 1) = dnT ls i + (if lastT xs ls i (ls.getD i 0) = none then 1 else 0) := by
  rw [dnT]
  by_cases h : lastT xs ls i (ls.getD i 0) = none
  · rw [if_pos h, if_neg ((last_none (by omega)).1 h)]
  · rw [if_neg h]
    by_cases h2 : ls.getD i 0 ∈ ls.take i
    · rw [if_pos h2]
    · exact absurd ((last_none (by omega)).2 h2) h
end Go.Proofs.Ytboacgmmlficjaa
