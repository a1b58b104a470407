/- Texts in ascending order: put one by one or sorted at once, they are one list. No condition. -/
import Derived.Test.YtimojjkblofhnaaLabI2
import Derived.Sort.KeysCollected
namespace Go.Proofs.Ytimojjkblofhnaa
set_option linter.unusedSimpArgs false
set_option linter.unusedVariables false
set_option maxRecDepth 100000
open Go.RowKit

def tB (s : List UInt8) : ByteArray := ⟨s.toArray⟩
theorem encStr_tB (s : List UInt8) : encStr s = .string (tB s) := rfl
theorem tB_data (T : ByteArray) : tB T.data.toList = T := by unfold tB; rw [Array.toArray_toList]
theorem tB_size (s : List UInt8) : (tB s).size = s.length := by show s.toArray.size = _; simp
theorem tB_inj {s t : List UInt8} (h : tB s = tB t) : s = t := by
  have := congrArg (fun b => b.data.toList) h
  simpa [tB] using this
/-- Where a text stands in an ascending list. -/
def atS : List (List UInt8) → List UInt8 → Nat
  | [], _ => 0
  | x :: l, t => if x < t then atS l t + 1 else 0
def putS (l : List (List UInt8)) (t : List UInt8) : List (List UInt8) := if l[atS l t]? = some t then l else l.take (atS l t) ++ t :: l.drop (atS l t)
theorem atS_le : ∀ (l : List (List UInt8)) (t : List UInt8), atS l t ≤ l.length
  | [], _ => Nat.le_refl _
  | x :: l, t => by
    rw [atS]
    have := atS_le l t
    split
    · simpa using this
    · exact Nat.zero_le _
theorem atS_low : ∀ (l : List (List UInt8)) (t : List UInt8) (i : Nat) (h : i < l.length), i < atS l t → l[i] < t
  | [], _, _, h, _ => absurd h (Nat.not_lt_zero _)
  | x :: l, t, i, h, hi => by
    rw [atS] at hi
    split at hi
    · rename_i hx
      cases i with
      | zero => exact hx
      | succ i => simpa using atS_low l t i (by simpa using h) (by omega)
    · omega
theorem atS_stop : ∀ (l : List (List UInt8)) (t : List UInt8) (h : atS l t < l.length), ¬ l[atS l t] < t
  | [], _, h => absurd h (Nat.not_lt_zero _)
  | x :: l, t, h => by
    by_cases hx : x < t
    · have e : atS (x :: l) t = atS l t + 1 := by rw [atS, if_pos hx]
      have h2 : atS l t < l.length := by rw [e] at h; simpa using h
      have := atS_stop l t h2
      simp only [e, List.getElem_cons_succ]
      exact this
    · have e : atS (x :: l) t = 0 := by rw [atS, if_neg hx]
      simp only [e, List.getElem_cons_zero]
      exact hx
/-- From the front, the first that is not less stands there. -/
theorem atS_is {l : List (List UInt8)} {t : List UInt8} {k : Nat} (hk : k ≤ l.length) (h1 : ∀ i (h : i < l.length), i < k → l[i] < t) (h2 : ∀ (h : k < l.length), ¬ l[k] < t) : atS l t = k := by
  apply Nat.le_antisymm
  · apply Nat.le_of_not_lt
    intro hlt
    have hl : k < l.length := Nat.lt_of_lt_of_le hlt (atS_le l t)
    exact h2 hl (atS_low l t k hl hlt)
  · apply Nat.le_of_not_lt
    intro hlt
    have hl : atS l t < l.length := by omega
    exact atS_stop l t hl (h1 _ hl hlt)
theorem lt_of_not {x t : List UInt8} (h : ¬ x < t) (hne : x ≠ t) : t < x := by
  apply Classical.byContradiction
  intro h2
  exact hne (List.le_antisymm (List.not_lt.1 h2) (List.not_lt.1 h))
theorem putS_ok {l : List (List UInt8)} {t : List UInt8} (hs : l.Pairwise (· < ·)) (hn : t ∉ l) : (putS l t).Perm (l ++ [t]) ∧ (putS l t).Pairwise (· < ·) := by
  have hne : ¬ l[atS l t]? = some t := fun h => hn (List.mem_of_getElem? h)
  unfold putS
  rw [if_neg hne]
  have hlow := atS_low l t
  have hstop := atS_stop l t
  have hle := atS_le l t
  generalize atS l t = k at *
  have hsp : l = l.take k ++ l.drop k := (List.take_append_drop k l).symm
  have hs2 := hs
  rw [hsp, List.pairwise_append] at hs2
  obtain ⟨s1, s2, s3⟩ := hs2
  refine ⟨?_, ?_⟩
  · have h := List.perm_middle (a := t) (l₁ := l.take k) (l₂ := l.drop k)
    rw [List.take_append_drop] at h
    exact h.trans (List.perm_append_comm (l₁ := [t]) (l₂ := l))
  · rw [List.pairwise_append]
    have hhigh : ∀ z ∈ l.drop k, t < z := by
      intro z hz
      obtain ⟨i, hi, rfl⟩ := List.mem_drop_iff_getElem.1 hz
      have hk : k < l.length := by omega
      have h0 : t < l[k] := lt_of_not (hstop hk) (fun e => hn (e ▸ List.getElem_mem hk))
      by_cases e : i = 0
      · subst e; simpa using h0
      · exact List.lt_trans h0 (List.pairwise_iff_getElem.1 hs k (k + i) hk (by omega) (by omega))
    refine ⟨s1, List.pairwise_cons.2 ⟨hhigh, s2⟩, fun a ha b hb => ?_⟩
    have hat : a < t := by
      obtain ⟨i, hi, rfl⟩ := List.mem_take_iff_getElem.1 ha
      exact hlow i (by omega) (by omega)
    rcases List.mem_cons.1 hb with rfl | hb
    · exact hat
    · exact s3 a ha b hb
theorem fold_ok : ∀ (F acc : List (List UInt8)), acc.Pairwise (· < ·) → (acc ++ F).Nodup → (F.foldl putS acc).Perm (acc ++ F) ∧ (F.foldl putS acc).Pairwise (· < ·)
  | [], acc, h, _ => ⟨by simp, h⟩
  | t :: F, acc, h, hn => by
    have h1 : t ∉ acc := by
      intro hm
      rw [List.nodup_append] at hn
      exact hn.2.2 t hm t (List.mem_cons_self ..) rfl
    obtain ⟨p1, p2⟩ := putS_ok h h1
    have hperm : (putS acc t ++ F).Perm (acc ++ t :: F) := by
      have := p1.append_right F
      rwa [List.append_assoc] at this
    obtain ⟨q1, q2⟩ := fold_ok F (putS acc t) p2 (hperm.nodup_iff.2 hn)
    exact ⟨q1.trans hperm, q2⟩
theorem fold_sort {F : List (List UInt8)} (hn : F.Nodup) : F.foldl putS [] = F.mergeSort leB := by
  obtain ⟨p1, p2⟩ := fold_ok F [] List.Pairwise.nil (by simpa using hn)
  rw [List.nil_append] at p1
  have tr : ∀ a b c : List UInt8, leB a b = true → leB b c = true → leB a c = true := fun a b c h1 h2 => by simp only [leB, decide_eq_true_eq] at *; exact List.le_trans h1 h2
  have tot : ∀ a b : List UInt8, (leB a b || leB b a) = true := fun a b => by simp only [leB, Bool.or_eq_true, decide_eq_true_eq]; exact List.le_total a b
  refine List.Perm.eq_of_pairwise (le := fun a b => leB a b = true) (fun a b _ _ h1 h2 => ?_) (p2.imp (fun h => by simp only [leB, decide_eq_true_eq]; exact List.le_of_lt h)) (List.pairwise_mergeSort tr tot F) (p1.trans (List.mergeSort_perm F leB).symm)
  simp only [leB, decide_eq_true_eq] at h1 h2
  exact List.le_antisymm h1 h2

/-! ### labels among texts -/
def lbl (s : List UInt8) : Bool := isB (tB s)
def okT (T s : List UInt8) : Bool := decide (s ≠ T) && lbl s
def cndTo (c : Nat → List UInt8) (T : List UInt8) (n : Nat) : List (List UInt8) := ((List.range n).map c).filter (okT T)
theorem cndTo_succ (c : Nat → List UInt8) (T : List UInt8) (n : Nat) : cndTo c T (n + 1) = if okT T (c n) then cndTo c T n ++ [c n] else cndTo c T n := by
  unfold cndTo
  rw [List.range_succ, List.map_append, List.filter_append]
  cases h : okT T (c n)
  · simp [h]
  · simp [h]
theorem cnd_nodup {c : Nat → List UInt8} {T : List UInt8} {N : Nat} (hc : ∀ p q, p < q → q < N → c p ≠ T → c q ≠ T → c p ≠ c q) : ∀ n, n ≤ N → (cndTo c T n).Nodup ∧ ∀ s ∈ cndTo c T n, ∃ p, p < n ∧ s = c p ∧ c p ≠ T
  | 0, _ => ⟨by simp [cndTo], fun s h => by simp [cndTo] at h⟩
  | n + 1, hN => by
    obtain ⟨h1, h2⟩ := cnd_nodup hc n (by omega)
    rw [cndTo_succ]
    split
    · rename_i h
      have hne : c n ≠ T := by unfold okT at h; simp at h; exact h.1
      refine ⟨?_, fun s hs => ?_⟩
      · rw [List.nodup_append]
        refine ⟨h1, by simp, fun a ha b hb e => ?_⟩
        rw [List.mem_singleton] at hb
        obtain ⟨p, hp, rfl, hpn⟩ := h2 a ha
        exact hc p n hp (by omega) hpn hne (e.trans hb)
      · rcases List.mem_append.1 hs with hs | hs
        · obtain ⟨p, hp, e⟩ := h2 s hs
          exact ⟨p, by omega, e⟩
        · rw [List.mem_singleton] at hs
          exact ⟨n, by omega, hs, hne⟩
    · exact ⟨h1, fun s hs => by obtain ⟨p, hp, e⟩ := h2 s hs; exact ⟨p, by omega, e⟩⟩
/-- What is answered: the labels among the texts, ascending. -/
def lbs (c : Nat → List UInt8) (T : List UInt8) (n : Nat) : List (List UInt8) := (cndTo c T n).mergeSort leB
theorem lbs_len (c : Nat → List UInt8) (T : List UInt8) (n : Nat) : (lbs c T n).length ≤ n := by
  unfold lbs cndTo
  rw [List.length_mergeSort]
  exact Nat.le_trans (List.length_filter_le _ _) (by simp)
def putTo (c : Nat → List UInt8) (T : List UInt8) (n : Nat) : List (List UInt8) := (cndTo c T n).foldl putS []
theorem putTo_succ (c : Nat → List UInt8) (T : List UInt8) (n : Nat) : putTo c T (n + 1) = if okT T (c n) then putS (putTo c T n) (c n) else putTo c T n := by
  unfold putTo
  rw [cndTo_succ]
  split
  · rw [List.foldl_append]; rfl
  · rfl
theorem putTo_all {c : Nat → List UInt8} {T : List UInt8} (n : Nat) (hc : ∀ p q, p < q → q < n → c p ≠ T → c q ≠ T → c p ≠ c q) : putTo c T n = lbs c T n := fold_sort (cnd_nodup hc n (Nat.le_refl _)).1
theorem putTo_len (c : Nat → List UInt8) (T : List UInt8) : ∀ n, (putTo c T n).length ≤ n
  | 0 => Nat.le_refl _
  | n + 1 => by
    have ih := putTo_len c T n
    rw [putTo_succ]
    split
    · unfold putS
      split
      · omega
      · have := atS_le (putTo c T n) (c n)
        simp
        omega
    · omega
end Go.Proofs.Ytimojjkblofhnaa
