/- Numerals ahead of a text: when there is one, and when none. No condition. -/
import Derived.Test.YtkojnepgeegalaaDoorRdP
namespace Go.Proofs.YtkojnepgeegalaaDoor
set_option linter.unusedSimpArgs false
set_option linter.unusedVariables false
set_option maxRecDepth 100000
open Go.RowKit

/-- A numeral stands ahead, and what follows it. -/
def NumOk (most : Int) (l : List UInt8) (n : Int) (m : List UInt8) : Prop := l = dec n ++ m ∧ NoDig m ∧ 0 ≤ n ∧ n ≤ most
def NoNum (most : Int) (l : List UInt8) : Prop := ∀ n m, ¬ NumOk most l n m
theorem numOk_uniq {a b : Int} {l : List UInt8} {n n' : Int} {m m' : List UInt8} (h : NumOk a l n m) (h' : NumOk b l n' m') : n = n' ∧ m = m' :=
  dec_apart h.2.2.1 h'.2.2.1 h.2.1 h'.2.1 (h.1.symm.trans h'.1)
theorem take_prefix : ∀ (j : Nat) (l : List UInt8), (∀ x ∈ l.take j, isDig x = true) → ∃ t, l.takeWhile isDig = l.take j ++ t
  | 0, l, _ => ⟨l.takeWhile isDig, by simp⟩
  | j + 1, [], _ => ⟨[], rfl⟩
  | j + 1, x :: l, h => by
    obtain ⟨t, ht⟩ := take_prefix j l (fun y hy => h y (by simp [hy]))
    refine ⟨t, ?_⟩
    rw [List.takeWhile_cons, h x (by simp), ht]
    rfl
theorem numOk_while {most : Int} {l : List UInt8} {n : Int} {m : List UInt8} (h : NumOk most l n m) : l.takeWhile isDig = dec n := by
  rw [h.1]
  exact take_dig _ _ dec_dig h.2.1
theorem num_good {most : Int} {l : List UInt8} {j : Nat} (hj : 1 ≤ j) (hl : j ≤ l.length) (hd : ∀ x ∈ l.take j, isDig x = true) (hn : NoDig (l.drop j)) (hL : ¬ (1 < j ∧ l.head? = some 48)) (hm : ((valD (l.take j) : Nat) : Int) ≤ most) :
    NumOk most l ((valD (l.take j) : Nat) : Int) (l.drop j) ∧ dec ((valD (l.take j) : Nat) : Int) = l.take j := by
  have hne : l.take j ≠ [] := fun e => by
    have := congrArg List.length e
    rw [List.length_take, List.length_nil] at this
    omega
  have hLd : Lead (l.take j) := by
    by_cases h1 : j = 1
    · left; rw [List.length_take]; omega
    · right
      obtain ⟨j', rfl⟩ : ∃ i, j = i + 1 := ⟨j - 1, by omega⟩
      cases l with
      | nil => simp at hl
      | cons x l' => exact ⟨x, l'.take j', rfl, fun e => hL ⟨by omega, by rw [e]; rfl⟩⟩
  have e := dec_valD hne hd hLd
  exact ⟨⟨by rw [e, List.take_append_drop], hn, by omega, hm⟩, e⟩
theorem num_none {most : Int} {l : List UInt8} (hn : NoDig l) : NoNum most l := fun n m h => by
  have := numOk_while h
  match l, hn with
  | [], _ => exact dec_ne this.symm
  | x :: l, hn =>
    rw [List.takeWhile_cons, show isDig x = false from hn] at this
    exact dec_ne this.symm
theorem num_great {most : Int} {l : List UInt8} {j : Nat} (hd : ∀ x ∈ l.take j, isDig x = true) (hm : most < ((valD (l.take j) : Nat) : Int)) : NoNum most l := fun n m h => by
  obtain ⟨t, ht⟩ := take_prefix j l hd
  rw [numOk_while h] at ht
  have h1 := dec_val h.2.2.1
  rw [ht] at h1
  have h2 := valD_prefix (l.take j) t
  have h3 := h.2.2.2
  omega
theorem num_lead {most : Int} {l : List UInt8} {j : Nat} (hj : 1 < j) (hl : j ≤ l.length) (hd : ∀ x ∈ l.take j, isDig x = true) (hn : NoDig (l.drop j)) (h0 : l.head? = some 48) : NoNum most l := fun n m h => by
  have h1 := numOk_while h
  have h2 := take_dig (l.take j) (l.drop j) hd hn
  rw [List.take_append_drop, h1] at h2
  rcases dec_lead (z := n) with h3 | ⟨x, t, h3, h4⟩
  · rw [h2, List.length_take] at h3; omega
  · match l, j, hj, h0, h2 with
    | y :: l', j' + 1, _, h0, h2 =>
      rw [h3] at h2
      injection h2 with e1 e2
      injection h0 with e3
      exact h4 (e1.trans e3)
/-- What the model's number says of a text. -/
def NumS (s : List UInt8) (n : Int) (ok : Bool) : Prop := (ok = true ∧ 0 ≤ n ∧ s = dec n ∧ s.length ≤ 9 ∧ n < 1000000000) ∨ (ok = false ∧ n = 0 ∧ ∀ m : Int, 0 ≤ m → s = dec m → 9 < s.length)
theorem valD_bound : ∀ (k : Nat) (l : List UInt8), l.length = k → (∀ x ∈ l, isDig x = true) → valD l < 10 ^ k := by
  intro k
  induction k with
  | zero => intro l hl _; rw [List.eq_nil_of_length_eq_zero hl]; decide
  | succ k ih =>
    intro l hl hd
    obtain ⟨m, x, rfl⟩ : ∃ m x, l = m ++ [x] := ⟨l.dropLast, l.getLast (fun e => by rw [e] at hl; cases hl), (List.dropLast_concat_getLast _).symm⟩
    have hx := hd x (by simp)
    unfold isDig at hx
    have hx := of_decide_eq_true hx
    have := ih m (by rw [List.length_append, List.length_singleton] at hl; omega) (fun y hy => hd y (by simp [hy]))
    rw [valD_snoc, Nat.pow_succ]
    omega
theorem nums_good {s : List UInt8} (h1 : 1 ≤ s.length) (h9 : s.length ≤ 9) (hL : ¬ (1 < s.length ∧ s.head? = some 48)) (hd : ∀ x ∈ s, isDig x = true) : NumS s ((valD s : Nat) : Int) true := by
  have hg := num_good (most := 1000000000) (l := s) (j := s.length) h1 (Nat.le_refl _) (by rwa [List.take_length]) (by rw [List.drop_length]; trivial) hL (by
    rw [List.take_length]
    have := valD_bound _ s rfl hd
    have h2 : 10 ^ s.length ≤ 10 ^ 9 := Nat.pow_le_pow_right (by omega) h9
    have h3 : (10 : Nat) ^ 9 = 1000000000 := rfl
    omega)
  rw [List.take_length] at hg
  have hb := valD_bound _ s rfl hd
  have h2 : 10 ^ s.length ≤ 10 ^ 9 := Nat.pow_le_pow_right (by omega) h9
  have h3 : (10 : Nat) ^ 9 = 1000000000 := rfl
  exact .inl ⟨rfl, by omega, hg.2.symm, h9, by omega⟩
theorem nums_nil : NumS [] 0 false := .inr ⟨rfl, rfl, fun m _ h => absurd h.symm dec_ne⟩
theorem nums_long {s : List UInt8} (h : 9 < s.length) : NumS s 0 false := .inr ⟨rfl, rfl, fun _ _ _ => h⟩
theorem nums_lead {s : List UInt8} (h1 : 1 < s.length) (h : s.head? = some 48) : NumS s 0 false := .inr ⟨rfl, rfl, fun m _ e => by
  exfalso
  rcases dec_lead (z := m) with h3 | ⟨x, t, h3, h4⟩
  · rw [← e] at h3; omega
  · rw [← e] at h3
    rw [h3] at h
    injection h with h
    exact h4 h⟩
theorem nums_bad {s : List UInt8} {x : UInt8} (hx : x ∈ s) (h : isDig x = false) : NumS s 0 false := .inr ⟨rfl, rfl, fun m _ e => by
  rw [e] at hx
  rw [dec_dig x hx] at h
  cases h⟩
end Go.Proofs.YtkojnepgeegalaaDoor
