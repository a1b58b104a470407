/- Whether a table is of the right form, by the program: contracts. Condition: a valid case and list, a table no longer than slices can be. -/
import Derived.Test.YtpamflkefgpdpaaProof
namespace Go.Proofs.Ytpamflkefgpdpaa
set_option linter.unusedSimpArgs false
set_option linter.unusedVariables false
set_option maxRecDepth 100000
open Go.RowKit

def minTo (zs : List Int) : Nat → Int
  | 0 => zs.getD 0 0
  | k + 1 => if zs.getD k 0 < minTo zs k then zs.getD k 0 else minTo zs k
theorem minTo_le (zs : List Int) : ∀ k i, i < k → minTo zs k ≤ zs.getD i 0
  | k + 1, i, h => by
    rw [minTo]
    by_cases e : i = k
    · subst e; split <;> omega
    · have := minTo_le zs k i (by omega)
      split <;> omega
theorem minTo_some (zs : List Int) : ∀ k, ∃ i, (i < k ∨ i = 0) ∧ minTo zs k = zs.getD i 0
  | 0 => ⟨0, .inr rfl, rfl⟩
  | k + 1 => by
    rw [minTo]
    split
    · exact ⟨k, .inl (by omega), rfl⟩
    · obtain ⟨i, h1, h2⟩ := minTo_some zs k
      exact ⟨i, by omega, h2⟩


set_option maxHeartbeats 400000 in
theorem behindAll_any (A : Option Addr) (n m i : Nat) (w : World) (hn : n ≤ 60) (hi : i ≤ 60) :
    Calls Try.prog 85 #[.slice A n m, .int .i64 (i : Int)] w fun e w' => e = .returned (.int .i64 (endI n i)) ∧ w = w' := by
  by_cases h : i = n
  · have d : ((i : Int) == (n : Int)) = true := by rw [beq_iff_eq]; omega
    have E := Lib.hid (show endI n i = 0 by unfold endI; rw [if_pos h])
    clear h
    go_enter Try.func85, Try.ntmps85
    go_wp2
    go_ret
    exact ⟨by rw [E.out]; rfl, rfl⟩
  · have d : ((i : Int) == (n : Int)) = false := by rw [beq_eq_false_iff_ne]; omega
    have E := Lib.hid (show endI n i = -1 by unfold endI; rw [if_neg h])
    clear h
    go_enter Try.func85, Try.ntmps85
    go_wp2
    go_ret
    exact ⟨by rw [E.out]; rfl, rfl⟩

/-- The right form. -/
structure FormP (c : Cs) (xs : List Bk) (t : List (List Int)) : Prop where
  len : t.length = c.hs.length + 1
  rows : ∀ s, s < c.hs.length + 1 → (t.getD s []).length = xs.length + 1
  last : ∀ i, i < xs.length + 1 → tv t c.hs.length i = endI xs.length i
  least : ∀ s, s < c.hs.length + 1 → ∀ i, i < xs.length + 1 → -1 ≤ tv t s i
noncomputable def formB (c : Cs) (xs : List Bk) (t : List (List Int)) : Bool := @decide (FormP c xs t) (Classical.propDecidable _)
theorem formB_yes {c : Cs} {xs : List Bk} {t : List (List Int)} (h : FormP c xs t) : formB c xs t = true := by unfold formB; exact @decide_eq_true _ (Classical.propDecidable _) h
theorem formB_no {c : Cs} {xs : List Bk} {t : List (List Int)} (h : ¬ FormP c xs t) : formB c xs t = false := by unfold formB; exact @decide_eq_false _ (Classical.propDecidable _) h
theorem formB_out {c : Cs} {xs : List Bk} {t : List (List Int)} (h : formB c xs t = true) : FormP c xs t := by unfold formB at h; exact @of_decide_eq_true _ (Classical.propDecidable _) h
theorem formB_not {c : Cs} {xs : List Bk} {t : List (List Int)} (h : formB c xs t = false) : ¬ FormP c xs t := by unfold formB at h; exact @of_decide_eq_false _ (Classical.propDecidable _) h
theorem endI_least (n i : Nat) : -1 ≤ endI n i := by unfold endI; split <;> omega
theorem ProofP.form {c : Cs} {xs : List Bk} {t : List (List Int)} (h : ProofP c xs t) : FormP c xs t :=
  ⟨h.len, h.rows, h.last, fun s hs i hi => by
    by_cases e : s = c.hs.length
    · subst e; rw [h.last i hi]; exact endI_least _ _
    · exact (h.cells s (by omega) i hi).1⟩


end Go.Proofs.Ytpamflkefgpdpaa
