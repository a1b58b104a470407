/- The first book of a list that a test lets by, as plain data; sorted lists. No condition. -/
import Derived.Test.YteeblpdjpaellaaDoorUse
import Derived.Test.YteeblpdjpaellaaDoorFirst
namespace Go.Proofs.YteeblpdjpaellaaDoor
set_option linter.unusedSimpArgs false
set_option linter.unusedVariables false
set_option maxRecDepth 100000
open Go.RowKit

def fidx (p : Bk → Bool) (xs : List Bk) : Int := if xs.any p then (xs.findIdx p : Int) else -1
theorem fidx_at {p : Bk → Bool} {xs : List Bk} {j : Nat} (hj : j < xs.length) (h : p xs[j] = true) (hp : ∀ (t : Nat) (ht : t < j), p (xs[t]'(by omega)) = false) : fidx p xs = j := by
  unfold fidx
  rw [if_pos (by rw [List.any_eq_true]; exact ⟨xs[j], List.getElem_mem hj, h⟩)]
  congr 1
  exact (List.findIdx_eq hj).2 ⟨h, hp⟩
theorem fidx_none {p : Bk → Bool} {xs : List Bk} (hp : ∀ (t : Nat) (ht : t < xs.length), p xs[t] = false) : fidx p xs = -1 := by
  unfold fidx
  rw [if_neg]
  rw [List.any_eq_true]
  rintro ⟨b, hb, h⟩
  obtain ⟨t, ht, rfl⟩ := List.getElem_of_mem hb
  rw [hp t ht] at h
  cases h
theorem fidx_cases (p : Bk → Bool) (xs : List Bk) : (fidx p xs = -1 ∧ xs.findIdx p = xs.length) ∨ (fidx p xs = (xs.findIdx p : Int) ∧ 0 ≤ fidx p xs) := by
  unfold fidx
  cases h : xs.any p
  · refine .inl ⟨rfl, ?_⟩
    rw [List.findIdx_eq_length]
    intro x hx
    have := List.any_eq_false.1 h x hx
    simpa using this
  · exact .inr ⟨rfl, by simp⟩

/-- How many of the first k books a test does not let by. -/
def cntN (p : Bk → Bool) (xs : List Bk) : Nat → Nat
  | 0 => 0
  | k + 1 => cntN p xs k + (if p (xs.getD k default) then 0 else 1)
theorem cntN_le (p : Bk → Bool) (xs : List Bk) : ∀ k, cntN p xs k ≤ k
  | 0 => Nat.le_refl _
  | k + 1 => by
    have := cntN_le p xs k
    rw [cntN]
    split <;> omega
/-- What is let by stays so to the end of the list. -/
def Upwards (p : Bk → Bool) (xs : List Bk) : Prop := ∀ (t u : Nat) (ht : t < xs.length) (hu : u < xs.length), t ≤ u → p xs[t] = true → p xs[u] = true
theorem cntN_min {p : Bk → Bool} {xs : List Bk} (h : Upwards p xs) : ∀ k, k ≤ xs.length → cntN p xs k = min k (xs.findIdx p)
  | 0, _ => by simp [cntN]
  | k + 1, hk => by
    have ih := cntN_min h k (by omega)
    have hlt : k < xs.length := by omega
    rw [cntN, ih, getD_nth hlt]
    by_cases hf : k < xs.findIdx p
    · have : p xs[k] = false := by simpa using List.not_of_lt_findIdx hf
      rw [this]
      simp
      omega
    · have hfl : xs.findIdx p < xs.length := by omega
      have h1 : p xs[xs.findIdx p] = true := List.findIdx_getElem
      rw [h _ k hfl hlt (by omega) h1, if_pos rfl]
      omega
theorem cntN_all {p : Bk → Bool} {xs : List Bk} (h : Upwards p xs) : cntN p xs xs.length = xs.findIdx p := by
  rw [cntN_min h _ (Nat.le_refl _)]
  have : xs.findIdx p ≤ xs.length := List.findIdx_le_length
  omega

/-- What the functions ask of a sorted list. -/
def askS (xs : List Bk) : Int := if okB xs then (if firstOut xs < 0 then 0 else 4) else 1
theorem askS_ok {xs : List Bk} (h : askS xs = 0) : okB xs = true ∧ firstOut xs < 0 := by
  unfold askS at h
  split at h
  · rename_i h1
    split at h
    · rename_i h2; exact ⟨h1, h2⟩
    · cases h
  · cases h
theorem sorted_none {xs : List Bk} (h : firstOut xs < 0) : NoneTo xs xs.length := by
  rcases none_or xs xs.length with hno | ⟨k, k1, k2, k3, k4⟩
  · exact hno
  · rw [firstOut_at k3 k1 k2 k4] at h
    omega
theorem sorted_step {xs : List Bk} (wf : ∀ b ∈ xs, b.Wf) (h : NoneTo xs xs.length) {m : Nat} (hm : m + 1 < xs.length) : keyU (xs[m]'(by omega)) ≤ keyU xs[m + 1] := by
  have h1 := h (m + 1) (by omega) hm
  rw [outAt_eq hm] at h1
  have h2 := of_decide_eq_false h1
  rw [usual_lt _ _ (wf _ (List.getElem_mem _)) (wf _ (List.getElem_mem _))] at h2
  omega
theorem sorted_key {xs : List Bk} (wf : ∀ b ∈ xs, b.Wf) (h : NoneTo xs xs.length) (t : Nat) : ∀ (d : Nat) (hd : t + d < xs.length), keyU (xs[t]'(by omega)) ≤ keyU xs[t + d]
  | 0, hd => Int.le_refl _
  | d + 1, hd => Int.le_trans (sorted_key wf h t d (by omega)) (sorted_step wf h (m := t + d) hd)
theorem sorted_le {xs : List Bk} (wf : ∀ b ∈ xs, b.Wf) (h : NoneTo xs xs.length) {t u : Nat} (ht : t < xs.length) (hu : u < xs.length) (htu : t ≤ u) : keyU xs[t] ≤ keyU xs[u] := by
  obtain ⟨d, rfl⟩ : ∃ d, u = t + d := ⟨u - t, by omega⟩
  exact sorted_key wf h t d hu
theorem class_le {a b : Bk} (ha : a.Wf) (hb : b.Wf) (h : keyU a ≤ keyU b) : a.c ≤ b.c := by
  obtain ⟨_, a1, a2, a3, av, _⟩ := ha
  obtain ⟨_, b1, b2, b3, bv, _⟩ := hb
  unfold keyU at h
  omega
theorem up_low {xs : List Bk} (wf : ∀ b ∈ xs, b.Wf) (h : NoneTo xs xs.length) (lo : Int) : Upwards (fun b => decide (lo ≤ b.c)) xs := by
  intro t u ht hu htu hp
  have h1 := of_decide_eq_true hp
  have := class_le (wf _ (List.getElem_mem ht)) (wf _ (List.getElem_mem hu)) (sorted_le wf h ht hu htu)
  exact decide_eq_true (by omega)
theorem up_high {xs : List Bk} (wf : ∀ b ∈ xs, b.Wf) (h : NoneTo xs xs.length) (hi : Int) : Upwards (fun b => decide (hi < b.c)) xs := by
  intro t u ht hu htu hp
  have h1 := of_decide_eq_true hp
  have := class_le (wf _ (List.getElem_mem ht)) (wf _ (List.getElem_mem hu)) (sorted_le wf h ht hu htu)
  exact decide_eq_true (by omega)

end Go.Proofs.YteeblpdjpaellaaDoor
