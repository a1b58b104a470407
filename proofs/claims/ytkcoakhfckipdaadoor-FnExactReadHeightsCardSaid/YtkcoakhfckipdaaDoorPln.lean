/- Which numbers have a text: the model's test, a contract. Condition: no longer than a slice can be. -/
import Derived.Test.YtkcoakhfckipdaaDoorNums
namespace Go.Proofs.YtkcoakhfckipdaaDoor
set_option linter.unusedSimpArgs false
set_option linter.unusedVariables false
set_option maxRecDepth 100000
open Go.RowKit

/-- The numbers have a text. -/
def plainB (zs : List Int) : Bool := inB (zs.length : Int) 1 12 && zs.all fun z => inB z 0 60
theorem plain_len {zs : List Int} (h : inB (zs.length : Int) 1 12 = false) : plainB zs = false := by unfold plainB; rw [h]; rfl
theorem plain_bad {zs : List Int} {k : Nat} (hk : k < zs.length) (h : inB zs[k] 0 60 = false) : plainB zs = false := by
  unfold plainB
  rw [Bool.and_eq_false_iff]
  refine .inr ?_
  rw [List.all_eq_false]
  exact ⟨zs[k], List.getElem_mem hk, by rw [h]; simp⟩
def InTo (zs : List Int) (k : Nat) : Prop := ∀ (i : Nat) (h : i < zs.length), i < k → inB zs[i] 0 60 = true
theorem InTo.succ {zs : List Int} {k : Nat} (h : InTo zs k) (hk : k < zs.length) (hb : inB zs[k] 0 60 = true) : InTo zs (k + 1) := by
  intro i hi hik
  by_cases e : i = k
  · subst e; exact hb
  · exact h i hi (by omega)
theorem plain_ok {zs : List Int} (h1 : inB (zs.length : Int) 1 12 = true) (h : InTo zs zs.length) : plainB zs = true := by
  unfold plainB
  rw [h1, Bool.true_and, List.all_eq_true]
  intro z hz
  obtain ⟨k, hk, rfl⟩ := List.getElem_of_mem hz
  exact h k hk hk
theorem plain_of {zs : List Int} (h : plainB zs = true) : (1 ≤ zs.length ∧ zs.length ≤ 12) ∧ ∀ z ∈ zs, 0 ≤ z ∧ z ≤ 60 := by
  unfold plainB at h
  rw [Bool.and_eq_true, List.all_eq_true] at h
  obtain ⟨h1, h2⟩ := h
  unfold inB at h1 h2
  simp only [decide_eq_true_eq] at h1 h2
  exact ⟨by omega, fun z hz => h2 z hz⟩
set_option maxHeartbeats 4000000 in
theorem l02Plain_any (v : Value) (zs : List Int) (w : World) (hs : IntsOf .i64 w v zs) (hn : zs.length ≤ maxLen) :
    Calls Tryd.prog 60 #[v] w fun e w' => e = .returned (.bool (plainB zs)) ∧ Below w.heap.size w w' := by
  obtain ⟨A, c, rfl, hs⟩ := hs
  have HS := Lib.hid hs
  unfold maxLen at hn
  clear hs
  go_enter Tryd.func60, Tryd.ntmps60
  go_wp2
  go_loopw [3] (fun i wr => ∃ k : Nat, k ≤ zs.length ∧ i = .int .i64 k ∧ InTo zs k ∧ Below w.heap.size w wr) (fun i _ => zs.length - (intOf i).toNat)
  case atStart => exact ⟨0, Nat.zero_le _, rfl, fun _ _ h => absurd h (Nat.not_lt_zero _), Below.refl _ _⟩
  case round =>
    obtain ⟨k, hk, rfl, hno, hb⟩ := hrel
    have HN := Lib.hid hno
    have HB := Lib.hid hb
    clear hno hb
    by_cases hlt : k < zs.length
    · obtain ⟨g, o, rfl, hg, hat⟩ := HS.out (by omega)
      have p0 := hat.below HB.out hg k hlt
      clear hat
      go_wp2_with fail
      refine (l00In_any zs[k] 0 60 wr).mono ?_
      rintro e w' ⟨rfl, rfl⟩
      cases hi : inB zs[k] 0 60
      · have E := Lib.hid (plain_bad hlt hi)
        go_wp2
        go_ret
        exact ⟨by rw [E.out]; rfl, HB.out⟩
      · have H1 := Lib.hid (HN.out.succ hlt hi)
        go_wp2
        exact ⟨⟨k + 1, by omega, by simp, H1.out, HB.out⟩, by simp only [intOf]; omega⟩
    · obtain rfl : k = zs.length := by omega
      go_wp2_with fail
      refine (l00In_any (zs.length : Int) 1 12 wr).mono ?_
      rintro e w' ⟨rfl, rfl⟩
      have E := Lib.hid (show inB (zs.length : Int) 1 12 = plainB zs by
        cases hi : inB (zs.length : Int) 1 12
        · exact (plain_len hi).symm
        · exact (plain_ok hi HN.out).symm)
      go_wp2
      go_ret
      exact ⟨by rw [← E.out]; rfl, HB.out⟩
end Go.Proofs.YtkcoakhfckipdaaDoor
