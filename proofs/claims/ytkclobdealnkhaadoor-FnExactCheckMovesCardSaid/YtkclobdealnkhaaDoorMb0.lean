/- Blocks of books moved: the plain form. No condition. -/
import Derived.Test.YtkclobdealnkhaaDoorSwap
namespace Go.Proofs.YtkclobdealnkhaaDoor
set_option linter.unusedSimpArgs false
set_option linter.unusedVariables false
set_option maxRecDepth 100000
open Go.RowKit

/-- A list behind a block move. -/
def carL (xs : List Bk) (f c t : Nat) : List Bk := (xs.take f ++ xs.drop (f + c)).take t ++ (xs.drop f).take c ++ (xs.take f ++ xs.drop (f + c)).drop t
/-- A block move that can be made. -/
def canK (n : Nat) (F C T : Int) : Bool := decide (1 ≤ C ∧ 0 ≤ F ∧ F + C ≤ n ∧ 0 ≤ T ∧ T + C ≤ n)
def blC (xs : List Bk) (F C T : Int) : Int := if okB xs = false then 1 else if canK xs.length F C T = true then 0 else 2
def blR (xs : List Bk) (F C T : Int) : List Bk := if blC xs F C T = 0 then carL xs F.toNat C.toNat T.toNat else []
theorem carL_perm {xs : List Bk} (f c t : Nat) : (carL xs f c t).Perm xs := by
  unfold carL
  have h1 : ((xs.take f ++ xs.drop (f + c)).take t ++ (xs.drop f).take c ++ (xs.take f ++ xs.drop (f + c)).drop t).Perm ((xs.drop f).take c ++ ((xs.take f ++ xs.drop (f + c)).take t ++ (xs.take f ++ xs.drop (f + c)).drop t)) := by
    refine (List.Perm.append_right _ List.perm_append_comm).trans ?_
    rw [List.append_assoc]
  refine h1.trans ?_
  rw [List.take_append_drop]
  have h2 : ((xs.drop f).take c ++ (xs.take f ++ xs.drop (f + c))).Perm (xs.take f ++ ((xs.drop f).take c ++ xs.drop (f + c))) := by
    rw [← List.append_assoc, ← List.append_assoc]
    exact List.Perm.append_right _ List.perm_append_comm
  refine h2.trans ?_
  rw [show xs.drop (f + c) = (xs.drop f).drop c by rw [List.drop_drop], List.take_append_drop, List.take_append_drop]
theorem carL_length (xs : List Bk) (f c t : Nat) : (carL xs f c t).length = xs.length := (carL_perm f c t).length_eq
theorem carL_wf {xs : List Bk} (f c t : Nat) (h : ∀ b ∈ xs, b.Wf) : ∀ b ∈ carL xs f c t, b.Wf := fun b hb => h b ((carL_perm f c t).mem_iff.1 hb)
theorem okB_perm {xs ys : List Bk} (h : xs.Perm ys) : okB xs = okB ys := by
  unfold okB
  rw [h.length_eq]
  congr 1
  rw [Bool.eq_iff_iff, List.all_eq_true, List.all_eq_true]
  exact ⟨fun g b hb => g b (h.mem_iff.2 hb), fun g b hb => g b (h.mem_iff.1 hb)⟩
theorem bl_cases (xs : List Bk) (F C T : Int) : (okB xs = false ∧ blC xs F C T = 1 ∧ blR xs F C T = []) ∨ (okB xs = true ∧ canK xs.length F C T = false ∧ blC xs F C T = 2 ∧ blR xs F C T = []) ∨
    (okB xs = true ∧ ∃ f c t : Nat, F = f ∧ C = c ∧ T = t ∧ 1 ≤ c ∧ f + c ≤ xs.length ∧ t + c ≤ xs.length ∧ blC xs F C T = 0 ∧ blR xs F C T = carL xs f c t) := by
  by_cases h1 : okB xs = false
  · have e : blC xs F C T = 1 := by unfold blC; rw [if_pos h1]
    exact .inl ⟨h1, e, by unfold blR; rw [e]; rfl⟩
  · have h1' : okB xs = true := by simpa using h1
    by_cases h2 : canK xs.length F C T = true
    · have e : blC xs F C T = 0 := by unfold blC; rw [if_neg h1, if_pos h2]
      refine .inr (.inr ⟨h1', F.toNat, C.toNat, T.toNat, ?_, ?_, ?_, ?_, ?_, ?_, e, by unfold blR; rw [if_pos e]⟩)
      all_goals (unfold canK at h2; simp only [decide_eq_true_eq] at h2; omega)
    · have e : blC xs F C T = 2 := by unfold blC; rw [if_neg h1, if_neg h2]
      exact .inr (.inl ⟨h1', by simpa using h2, e, by unfold blR; rw [e]; rfl⟩)
theorem blR_length (xs : List Bk) (F C T : Int) : (blR xs F C T).length ≤ xs.length := by
  unfold blR
  split
  · rw [carL_length]; omega
  · simp
theorem can_canK (n : Nat) (m : Mv) : canB n m = canK n m.f 1 m.t := by
  unfold canB canK inB
  rw [← Bool.decide_and]
  exact decide_eq_decide.2 (by omega)
/-- Lists behind several moves. -/
def mvTo (xs : List Bk) (ms : List Mv) : Nat → List Bk
  | 0 => xs
  | k + 1 => carL (mvTo xs ms k) (ms.getD k default).f.toNat 1 (ms.getD k default).t.toNat
def mvR (xs : List Bk) (ms : List Mv) : List Bk := if swCode xs ms = 0 then mvTo xs ms ms.length else []
theorem mvTo_perm (xs : List Bk) (ms : List Mv) : ∀ k, (mvTo xs ms k).Perm xs
  | 0 => List.Perm.refl _
  | k + 1 => (carL_perm _ _ _).trans (mvTo_perm xs ms k)
theorem mvTo_length (xs : List Bk) (ms : List Mv) (k : Nat) : (mvTo xs ms k).length = xs.length := (mvTo_perm xs ms k).length_eq
theorem mvTo_wf {xs : List Bk} {ms : List Mv} (h : ∀ b ∈ xs, b.Wf) (k : Nat) : ∀ b ∈ mvTo xs ms k, b.Wf := fun b hb => h b ((mvTo_perm xs ms k).mem_iff.1 hb)
theorem mvR_length (xs : List Bk) (ms : List Mv) : (mvR xs ms).length ≤ xs.length := by
  unfold mvR
  split
  · rw [mvTo_length]; omega
  · simp
theorem mv_bad {xs : List Bk} {ms : List Mv} (h : swCode xs ms = (if ms.all (canB xs.length) then 0 else 2)) {k : Nat} (hk : k < ms.length) (hb : canB xs.length ms[k] = false) : swCode xs ms = 2 ∧ mvR xs ms = [] := by
  obtain ⟨e, _⟩ := sw_bad h hk hb
  exact ⟨e, by unfold mvR; rw [e]; rfl⟩
theorem mv_good {xs : List Bk} {ms : List Mv} (h : swCode xs ms = (if ms.all (canB xs.length) then 0 else 2)) (ha : ∀ k, k < ms.length → canB xs.length (ms.getD k default) = true) : swCode xs ms = 0 ∧ mvR xs ms = mvTo xs ms ms.length := by
  obtain ⟨e, _⟩ := sw_good h ha
  exact ⟨e, by unfold mvR; rw [if_pos e]⟩
end Go.Proofs.YtkclobdealnkhaaDoor
