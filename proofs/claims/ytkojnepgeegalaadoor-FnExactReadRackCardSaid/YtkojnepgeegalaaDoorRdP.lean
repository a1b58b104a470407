/- Numerals and words, taken apart: what a text says about itself. No condition. -/
import Derived.Test.YtkojnepgeegalaaDoorTxt
namespace Go.Proofs.YtkojnepgeegalaaDoor
set_option linter.unusedSimpArgs false
set_option linter.unusedVariables false
set_option maxRecDepth 100000
open Go.RowKit

def isDig (x : UInt8) : Bool := decide (48 ≤ x.toNat ∧ x.toNat ≤ 57)
def NoDig : List UInt8 → Prop
  | [] => True
  | x :: _ => isDig x = false
/-- The value of digits. -/
def valTo (a : Nat) : List UInt8 → Nat
  | [] => a
  | x :: l => valTo (10 * a + (x.toNat - 48)) l
def valD (l : List UInt8) : Nat := valTo 0 l
theorem valTo_append (a : Nat) (l m : List UInt8) : valTo a (l ++ m) = valTo (valTo a l) m := by
  induction l generalizing a with
  | nil => rfl
  | cons x l ih => exact ih _
theorem valD_snoc (l : List UInt8) (x : UInt8) : valD (l ++ [x]) = 10 * valD l + (x.toNat - 48) := by
  unfold valD
  rw [valTo_append]
  rfl
theorem valTo_mono (l : List UInt8) : ∀ a, a ≤ valTo a l := by
  induction l with
  | nil => intro a; exact Nat.le_refl _
  | cons x l ih => intro a; exact Nat.le_trans (by omega) (ih (10 * a + (x.toNat - 48)))
theorem valD_prefix (l m : List UInt8) : valD l ≤ valD (l ++ m) := by
  unfold valD
  rw [valTo_append]
  exact valTo_mono m _
theorem dig_nat (k : Nat) (h : k < 10) : (UInt8.ofNat (48 + k)).toNat = 48 + k := by
  rw [UInt8.toNat_ofNat']
  omega
theorem decD_all : ∀ (n : Nat), (∀ x ∈ Lib.decDigits n, isDig x = true) ∧ Lib.decDigits n ≠ [] ∧ valD (Lib.decDigits n) = n := by
  intro n
  induction n using Nat.strongRecOn with
  | ind n ih =>
    by_cases h : n < 10
    · rw [Lib.decDigits_one h]
      refine ⟨fun x hx => ?_, by simp, ?_⟩
      · rw [List.mem_singleton] at hx
        subst hx
        unfold isDig
        rw [dig_nat n h]
        exact decide_eq_true (by omega)
      · show 10 * 0 + ((UInt8.ofNat (48 + n)).toNat - 48) = n
        rw [dig_nat n h]
        omega
    · obtain ⟨i1, i2, i3⟩ := ih (n / 10) (by omega)
      rw [decDigits_step (by omega)]
      refine ⟨fun x hx => ?_, by simp, ?_⟩
      · rcases List.mem_append.1 hx with h1 | h1
        · exact i1 x h1
        · rw [List.mem_singleton] at h1
          subst h1
          unfold isDig digB
          rw [dig_nat (n % 10) (by omega)]
          exact decide_eq_true (by omega)
      · rw [valD_snoc, i3]
        unfold digB
        rw [dig_nat (n % 10) (by omega)]
        omega
theorem dec_dig {z : Int} : ∀ x ∈ dec z, isDig x = true := (decD_all _).1
theorem dec_ne {z : Int} : dec z ≠ [] := (decD_all _).2.1
theorem dec_val {z : Int} (h : 0 ≤ z) : ((valD (dec z) : Nat) : Int) = z := by
  unfold dec
  rw [(decD_all _).2.2]
  omega
theorem dec_inj {a b : Int} (ha : 0 ≤ a) (hb : 0 ≤ b) (h : dec a = dec b) : a = b := by
  rw [← dec_val ha, ← dec_val hb, h]
/-- No nought stands ahead. -/
def Lead (l : List UInt8) : Prop := l.length = 1 ∨ ∃ x m, l = x :: m ∧ x ≠ 48
theorem decD_lead : ∀ (n : Nat), Lead (Lib.decDigits n) := by
  intro n
  induction n using Nat.strongRecOn with
  | ind n ih =>
    by_cases h : n < 10
    · rw [Lib.decDigits_one h]; exact .inl rfl
    · rw [decDigits_step (by omega)]
      right
      rcases ih (n / 10) (by omega) with h1 | ⟨x, m, h1, h2⟩
      · by_cases h10 : n / 10 < 10
        · rw [Lib.decDigits_one h10]
          refine ⟨_, _, rfl, fun e => ?_⟩
          have := congrArg UInt8.toNat e
          rw [dig_nat _ h10] at this
          have e2 : (48 : UInt8).toNat = 48 := rfl
          omega
        · rw [decDigits_step (by omega), List.length_append, List.length_singleton] at h1
          have := (decD_all (n / 10 / 10)).2.1
          have : (Lib.decDigits (n / 10 / 10)).length ≠ 0 := fun e => this (List.eq_nil_of_length_eq_zero e)
          omega
      · exact ⟨x, m ++ [digB n], by rw [h1]; rfl, h2⟩
theorem dec_lead {z : Int} : Lead (dec z) := decD_lead _
theorem valD_pos {x : UInt8} {m : List UInt8} (hd : isDig x = true) (h : x ≠ 48) : 1 ≤ valD (x :: m) := by
  refine Nat.le_trans ?_ (valTo_mono m _)
  unfold isDig at hd
  have hd := of_decide_eq_true hd
  have : x.toNat ≠ 48 := fun e => h (UInt8.toNat_inj.1 (by rw [e]; rfl))
  omega
/-- Digits with no nought ahead are the numeral of their value. -/
theorem dec_of : ∀ (k : Nat) (l : List UInt8), l.length = k → l ≠ [] → (∀ x ∈ l, isDig x = true) → Lead l → Lib.decDigits (valD l) = l := by
  intro k
  induction k with
  | zero => intro l hl hne; exact absurd (List.eq_nil_of_length_eq_zero hl) hne
  | succ k ih =>
    intro l hl hne hd hL
    obtain ⟨m, x, rfl⟩ : ∃ m x, l = m ++ [x] := ⟨l.dropLast, l.getLast hne, (List.dropLast_concat_getLast hne).symm⟩
    have hx := hd x (by simp)
    have hx2 := hx
    unfold isDig at hx2
    have hx2 := of_decide_eq_true hx2
    have hdx : UInt8.ofNat (48 + (x.toNat - 48)) = x := UInt8.toNat_inj.1 (by rw [dig_nat _ (by omega)]; omega)
    by_cases hm : m = []
    · subst hm
      rw [valD_snoc, show valD [] = 0 from rfl, Nat.mul_zero, Nat.zero_add, Lib.decDigits_one (by omega), hdx]
      rfl
    · have hLm : Lead m ∧ 1 ≤ valD m := by
        rcases hL with h1 | ⟨y, t, h1, h2⟩
        · rw [List.length_append, List.length_singleton] at h1
          exact absurd (List.eq_nil_of_length_eq_zero (by omega)) hm
        · match m, hm, h1 with
          | z :: m', _, h1 =>
            injection h1 with e1 e2
            subst e1
            exact ⟨.inr ⟨z, m', rfl, h2⟩, valD_pos (hd z (by simp)) h2⟩
      have hI := ih m (by rw [List.length_append, List.length_singleton] at hl; omega) hm (fun y hy => hd y (by simp [hy])) hLm.1
      rw [valD_snoc, decDigits_step (by omega), show (10 * valD m + (x.toNat - 48)) / 10 = valD m by omega, hI]
      unfold digB
      rw [show (10 * valD m + (x.toNat - 48)) % 10 = x.toNat - 48 by omega, hdx]
theorem dec_valD {l : List UInt8} (hne : l ≠ []) (hd : ∀ x ∈ l, isDig x = true) (hL : Lead l) : dec ((valD l : Nat) : Int) = l := by
  unfold dec
  exact dec_of _ l rfl hne hd hL
theorem take_dig : ∀ (l m : List UInt8), (∀ x ∈ l, isDig x = true) → NoDig m → (l ++ m).takeWhile isDig = l
  | [], m, _, h => by
    match m, h with
    | [], _ => rfl
    | x :: m, h => show List.takeWhile isDig (x :: m) = []; rw [List.takeWhile_cons, show isDig x = false from h]; rfl
  | x :: l, m, hd, h => by
    show List.takeWhile isDig (x :: (l ++ m)) = x :: l
    rw [List.takeWhile_cons, hd x (by simp)]
    exact congrArg (x :: ·) (take_dig l m (fun y hy => hd y (by simp [hy])) h)
/-- A numeral ahead of what begins with no digit is told apart. -/
theorem dec_apart {a b : Int} {l m : List UInt8} (ha : 0 ≤ a) (hb : 0 ≤ b) (hl : NoDig l) (hm : NoDig m) (h : dec a ++ l = dec b ++ m) : a = b ∧ l = m := by
  have h1 := take_dig (dec a) l dec_dig hl
  have h2 := take_dig (dec b) m dec_dig hm
  rw [h, h2] at h1
  have e := dec_inj ha hb h1.symm
  subst e
  exact ⟨rfl, List.append_cancel_left h⟩

/-! ### words -/
/-- The words of a text, taken apart at each such byte. -/
def splitL (c : UInt8) : List UInt8 → List (List UInt8)
  | [] => [[]]
  | x :: l => if x = c then [] :: splitL c l else match splitL c l with
    | [] => [[x]]
    | w :: ws => (x :: w) :: ws
def joinL (c : UInt8) : List (List UInt8) → List UInt8
  | [] => []
  | [w] => w
  | w :: v :: ws => w ++ c :: joinL c (v :: ws)
theorem splitL_ne (c : UInt8) (l : List UInt8) : splitL c l ≠ [] := by
  cases l with
  | nil => simp [splitL]
  | cons x l =>
    unfold splitL
    split
    · simp
    · split <;> simp
theorem join_cons {c : UInt8} {w : List UInt8} {ws : List (List UInt8)} (h : ws ≠ []) : joinL c (w :: ws) = w ++ c :: joinL c ws := by
  cases ws with
  | nil => exact absurd rfl h
  | cons v ws => rfl
theorem join_split (c : UInt8) : ∀ l, joinL c (splitL c l) = l
  | [] => rfl
  | x :: l => by
    have ih := join_split c l
    unfold splitL
    split
    · rename_i h
      subst h
      rw [join_cons (splitL_ne _ _), ih]
      rfl
    · cases hs : splitL c l with
      | nil => exact absurd hs (splitL_ne c l)
      | cons w ws =>
        rw [hs] at ih
        cases ws with
        | nil => show x :: w = x :: l; rw [← ih]; rfl
        | cons v ws => show x :: w ++ c :: joinL c (v :: ws) = x :: l; rw [← ih]; rfl
theorem split_no {c : UInt8} : ∀ l, ∀ w ∈ splitL c l, c ∉ w
  | [], w, hw => by simp [splitL] at hw; subst hw; simp
  | x :: l, w, hw => by
    have ih := split_no (c := c) l
    unfold splitL at hw
    split at hw
    · rcases List.mem_cons.1 hw with rfl | h
      · simp
      · exact ih w h
    · rename_i hne
      cases hs : splitL c l with
      | nil => exact absurd hs (splitL_ne c l)
      | cons v ws =>
        rw [hs] at hw ih
        rcases List.mem_cons.1 hw with rfl | h
        · intro hm
          rcases List.mem_cons.1 hm with e | e
          · exact hne e.symm
          · exact ih v (by simp) e
        · exact ih w (by simp [h])
theorem split_word {c : UInt8} : ∀ (w l : List UInt8), c ∉ w → splitL c (w ++ c :: l) = w :: splitL c l
  | [], l, _ => by show splitL c (c :: l) = _; rw [splitL, if_pos rfl]
  | x :: w, l, h => by
    show splitL c (x :: (w ++ c :: l)) = _
    rw [splitL, if_neg (fun e => h (by simp [e])), split_word w l (fun hm => h (by simp [hm]))]
theorem split_last {c : UInt8} : ∀ (w : List UInt8), c ∉ w → splitL c w = [w]
  | [], _ => rfl
  | x :: w, h => by
    rw [splitL, if_neg (fun e => h (by simp [e])), split_last w (fun hm => h (by simp [hm]))]
theorem split_join {c : UInt8} : ∀ (ws : List (List UInt8)), ws ≠ [] → (∀ w ∈ ws, c ∉ w) → splitL c (joinL c ws) = ws
  | [], h, _ => absurd rfl h
  | [w], _, h => split_last w (h w (by simp))
  | w :: v :: ws, _, h => by
    rw [join_cons (by simp), split_word w _ (h w (by simp)), split_join (v :: ws) (by simp) (fun u hu => h u (by simp [hu]))]
theorem join_snoc {c : UInt8} : ∀ (ws : List (List UInt8)) (w : List UInt8), ws ≠ [] → joinL c (ws ++ [w]) = joinL c ws ++ c :: w
  | [], _, h => absurd rfl h
  | [v], w, _ => rfl
  | v :: u :: ws, w, _ => by
    rw [join_cons (ws := u :: ws) (by simp), show v :: u :: ws ++ [w] = v :: (u :: ws ++ [w]) from rfl, join_cons (by simp), join_snoc (u :: ws) w (by simp)]
    simp only [List.append_assoc, List.cons_append]
theorem dig_not {c : UInt8} (hc : isDig c = false) {z : Int} : c ∉ dec z := fun h => by
  rw [dec_dig c h] at hc
  cases hc
end Go.Proofs.YtkojnepgeegalaaDoor
