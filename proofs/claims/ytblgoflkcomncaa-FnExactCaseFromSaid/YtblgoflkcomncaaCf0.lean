/- A case made of heights and counts: the plain form. No condition. -/
import Derived.Test.YtblgoflkcomncaaTall
import Derived.Test.YtblgoflkcomncaaPart
namespace Go.Proofs.Ytblgoflkcomncaa
set_option linter.unusedSimpArgs false
set_option linter.unusedVariables false
set_option maxRecDepth 100000
open Go.RowKit

/-- The heights from the last one down, each as often as told: the first d of them. -/
def cfTo (hs ss : List Int) : Nat → List Int
  | 0 => []
  | d + 1 => cfTo hs ss d ++ List.replicate (ss.getD (hs.length - 1 - d) 0).toNat (hs.getD (hs.length - 1 - d) 0)
def cfL (hs ss : List Int) : List Int := cfTo hs ss hs.length
def cfC (p : Pg) (hs ss : List Int) (wi lo : Int) : Int :=
  if hsB p hs = false then 1 else if (inB wi 1 2000 && (inB lo 1 200000 && cntB hs ss 12)) = false then 2 else if inB ((cfL hs ss).length : Int) 1 12 = true then 0 else 3
def cfV (p : Pg) (hs ss : List Int) (wi lo : Int) : Cs := if cfC p hs ss wi lo = 0 then ⟨wi, lo, cfL hs ss⟩ else ⟨0, 0, []⟩
theorem cf_one {p : Pg} {hs : List Int} (ss : List Int) (wi lo : Int) (h : hsB p hs = false) : cfC p hs ss wi lo = 1 ∧ cfV p hs ss wi lo = ⟨0, 0, []⟩ := by
  have e : cfC p hs ss wi lo = 1 := by unfold cfC; rw [if_pos h]
  exact ⟨e, by unfold cfV; rw [e]; rfl⟩
theorem cf_two {p : Pg} {hs ss : List Int} {wi lo : Int} (h1 : hsB p hs = true) (h : (inB wi 1 2000 && (inB lo 1 200000 && cntB hs ss 12)) = false) : cfC p hs ss wi lo = 2 ∧ cfV p hs ss wi lo = ⟨0, 0, []⟩ := by
  have e : cfC p hs ss wi lo = 2 := by unfold cfC; rw [if_neg (by simp [h1]), if_pos h]
  exact ⟨e, by unfold cfV; rw [e]; rfl⟩
theorem cf_three {p : Pg} {hs ss : List Int} {wi lo : Int} (h1 : hsB p hs = true) (h : (inB wi 1 2000 && (inB lo 1 200000 && cntB hs ss 12)) = true) (h2 : inB ((cfL hs ss).length : Int) 1 12 = false) : cfC p hs ss wi lo = 3 ∧ cfV p hs ss wi lo = ⟨0, 0, []⟩ := by
  have e : cfC p hs ss wi lo = 3 := by unfold cfC; rw [if_neg (by simp [h1]), if_neg (by simp [h]), if_neg (by simp [h2])]
  exact ⟨e, by unfold cfV; rw [e]; rfl⟩
theorem cf_good {p : Pg} {hs ss : List Int} {wi lo : Int} (h1 : hsB p hs = true) (h : (inB wi 1 2000 && (inB lo 1 200000 && cntB hs ss 12)) = true) (h2 : inB ((cfL hs ss).length : Int) 1 12 = true) : cfC p hs ss wi lo = 0 ∧ cfV p hs ss wi lo = ⟨wi, lo, cfL hs ss⟩ := by
  have e : cfC p hs ss wi lo = 0 := by unfold cfC; rw [if_neg (by simp [h1]), if_neg (by simp [h]), if_pos h2]
  exact ⟨e, by unfold cfV; rw [if_pos e]⟩
theorem cfV_len (p : Pg) (hs ss : List Int) (wi lo : Int) : (cfV p hs ss wi lo).hs.length ≤ 12 := by
  unfold cfV
  split
  · rename_i h
    by_cases h2 : inB ((cfL hs ss).length : Int) 1 12 = true
    · unfold inB at h2
      simp only [decide_eq_true_eq] at h2
      show (cfL hs ss).length ≤ 12
      omega
    · exfalso
      unfold cfC at h
      split at h
      · exact absurd h (by decide)
      · split at h
        · exact absurd h (by decide)
        · first
            | exact absurd h (by decide)
            | (rw [if_neg h2] at h; exact absurd h (by decide))
  · simp
theorem cnt_of {hs ss : List Int} {m : Int} (h : cntB hs ss m = true) : ss.length = hs.length ∧ ∀ (k : Nat) (hk : k < ss.length), 0 ≤ ss[k] ∧ ss[k] ≤ m := by
  unfold cntB at h
  rw [Bool.and_eq_true, decide_eq_true_eq] at h
  exact ⟨h.2, fun k hk => allB_get h.1 hk⟩
theorem cfTo_succ {hs ss : List Int} (hl : ss.length = hs.length) {d i : Nat} (hi : i < hs.length) (e : i + d + 1 = hs.length) (hi2 : i < ss.length) : cfTo hs ss (d + 1) = cfTo hs ss d ++ List.replicate ss[i].toNat hs[i] := by
  rw [cfTo, show hs.length - 1 - d = i by omega]
  simp [List.getD, List.getElem?_eq_getElem hi, List.getElem?_eq_getElem hi2]
theorem cfTo_len {hs ss : List Int} (h : cntB hs ss 12 = true) : ∀ d, d ≤ hs.length → (cfTo hs ss d).length ≤ 12 * d
  | 0, _ => by simp [cfTo]
  | d + 1, hd => by
    obtain ⟨hl, hb⟩ := cnt_of h
    have ih := cfTo_len h d (by omega)
    rw [cfTo_succ hl (i := hs.length - 1 - d) (by omega) (by omega) (by omega), List.length_append, List.length_replicate]
    have := hb (hs.length - 1 - d) (by omega)
    omega
theorem cfTo_in {hs ss : List Int} {lo hi : Int} (hl : ss.length = hs.length) (h : ∀ x ∈ hs, lo ≤ x ∧ x ≤ hi) : ∀ d, d ≤ hs.length → ∀ x ∈ cfTo hs ss d, lo ≤ x ∧ x ≤ hi
  | 0, _ => by simp [cfTo]
  | d + 1, hd => by
    have ih := cfTo_in hl h d (by omega)
    rw [cfTo_succ hl (i := hs.length - 1 - d) (by omega) (by omega) (by omega)]
    intro x hx
    rcases List.mem_append.1 hx with hx | hx
    · exact ih x hx
    · have := List.eq_of_mem_replicate hx
      rw [this]
      exact h _ (List.getElem_mem _)
/-- The case is valid just when it has 1 to 12 shelves. -/
theorem cf_case {p : Pg} {hs ss : List Int} {wi lo : Int} (h1 : hsB p hs = true) (h : (inB wi 1 2000 && (inB lo 1 200000 && cntB hs ss 12)) = true) : caseB ⟨wi, lo, cfL hs ss⟩ = inB ((cfL hs ss).length : Int) 1 12 := by
  rw [Bool.and_eq_true, Bool.and_eq_true] at h
  obtain ⟨hl, _⟩ := cnt_of h.2.2
  have hall : (cfL hs ss).all (fun h => inB h 50 1000) = true := by
    rw [List.all_eq_true]
    intro x hx
    have := cfTo_in hl (hsB_bounds h1) _ (Nat.le_refl _) x hx
    unfold inB
    simpa using this
  unfold caseB
  rw [show (⟨wi, lo, cfL hs ss⟩ : Cs).wi = wi from rfl, show (⟨wi, lo, cfL hs ss⟩ : Cs).lo = lo from rfl, show (⟨wi, lo, cfL hs ss⟩ : Cs).hs = cfL hs ss from rfl, h.1, h.2.1, hall]
  simp
end Go.Proofs.Ytblgoflkcomncaa
