/- An act ahead of a text: when there is one, and when none. No condition. -/
import Derived.Test.YtkojnepgeegalaaDoorRdV0
namespace Go.Proofs.YtkojnepgeegalaaDoor
set_option linter.unusedSimpArgs false
set_option linter.unusedVariables false
set_option maxRecDepth 100000
open Go.RowKit

def isLow (x : UInt8) : Bool := decide (97 ≤ x.toNat ∧ x.toNat ≤ 122)
def NoLow : List UInt8 → Prop
  | [] => True
  | x :: _ => isLow x = false
theorem take_low : ∀ (l m : List UInt8), (∀ x ∈ l, isLow x = true) → NoLow m → (l ++ m).takeWhile isLow = l
  | [], m, _, h => by
    match m, h with
    | [], _ => rfl
    | x :: m, h => show List.takeWhile isLow (x :: m) = []; rw [List.takeWhile_cons, show isLow x = false from h]; rfl
  | x :: l, m, hd, h => by
    show List.takeWhile isLow (x :: (l ++ m)) = x :: l
    rw [List.takeWhile_cons, hd x (by simp)]
    exact congrArg (x :: ·) (take_low l m (fun y hy => hd y (by simp [hy])) h)
theorem low_apart {a b l m : List UInt8} (ha : ∀ x ∈ a, isLow x = true) (hb : ∀ x ∈ b, isLow x = true) (hl : NoLow l) (hm : NoLow m) (h : a ++ l = b ++ m) : a = b ∧ l = m := by
  have h1 := take_low a l ha hl
  have h2 := take_low b m hb hm
  rw [h, h2] at h1
  subst h1
  exact ⟨rfl, List.append_cancel_left h⟩
/-- The words of acts. -/
def acW : List (List UInt8) := [[108, 101, 110, 100], [114, 101, 116, 117, 114, 110], [97, 115, 107], [114, 101, 110, 101, 119], [100, 114, 111, 112], [100, 97, 121]]
theorem acW_low : ∀ wd ∈ acW, ∀ x ∈ wd, isLow x = true := by decide
theorem acW_inj : ∀ i, i < 6 → ∀ j, j < 6 → acW.getD i [] = acW.getD j [] → i = j := by decide
theorem acW_mem {i : Nat} (h : i < 6) : acW.getD i [] ∈ acW := by
  have hl : i < acW.length := h
  rw [List.getD_eq_getElem?_getD, List.getElem?_eq_getElem hl]
  exact List.getElem_mem hl
theorem acW_lowD {i : Nat} (h : i < 6) : ∀ x ∈ acW.getD i [], isLow x = true := acW_low _ (acW_mem h)
def acR (x : Nat × Nat × Nat) : List UInt8 := if x.1 = 5 then [] else 32 :: (dec (x.2.1 : Int) ++ 32 :: dec (x.2.2 : Int))
/-- The text of an act: what it is, who, which book. -/
def acT (x : Nat × Nat × Nat) : List UInt8 := acW.getD x.1 [] ++ acR x
def AcOk (x : Nat × Nat × Nat) : Prop := (x.1 = 5 ∧ x.2.1 = 0 ∧ x.2.2 = 0) ∨ (x.1 ≤ 4 ∧ x.2.1 ≤ 49 ∧ x.2.2 ≤ 59)
theorem AcOk.lt {x : Nat × Nat × Nat} (h : AcOk x) : x.1 < 6 := by
  rcases h with ⟨h, _⟩ | ⟨h, _⟩ <;> omega
/-- What may stand behind an act, so that it ends there. -/
def AcE (x : Nat × Nat × Nat) (m : List UInt8) : Prop := (x.1 = 5 → NoLow m) ∧ (x.1 ≠ 5 → NoDig m)
theorem acE_both {x : Nat × Nat × Nat} {m : List UInt8} (h1 : NoDig m) (h2 : NoLow m) : AcE x m := ⟨fun _ => h2, fun _ => h1⟩
theorem acR_low {x : Nat × Nat × Nat} {m : List UInt8} (h : AcE x m) : NoLow (acR x ++ m) := by
  unfold acR
  by_cases e : x.1 = 5
  · rw [if_pos e]; exact h.1 e
  · rw [if_neg e]; exact (by decide : isLow 32 = false)
theorem acR_form {x : Nat × Nat × Nat} (h : x.1 ≠ 5) (m : List UInt8) : acR x ++ m = 32 :: (dec (x.2.1 : Int) ++ 32 :: (dec (x.2.2 : Int) ++ m)) := by
  unfold acR
  rw [if_neg h]
  simp only [List.append_assoc, List.cons_append]
theorem ac_apart {x x' : Nat × Nat × Nat} {m m' : List UInt8} (h : AcOk x) (h' : AcOk x') (hm : AcE x m) (hm' : AcE x' m') (e : acT x ++ m = acT x' ++ m') : x = x' ∧ m = m' := by
  unfold acT at e
  rw [List.append_assoc, List.append_assoc] at e
  obtain ⟨e1, e2⟩ := low_apart (acW_lowD h.lt) (acW_lowD h'.lt) (acR_low hm) (acR_low hm') e
  have e3 := acW_inj _ h.lt _ h'.lt e1
  obtain ⟨a, b, c⟩ := x
  obtain ⟨a', b', c'⟩ := x'
  simp only at e3
  subst e3
  by_cases h5 : a = 5
  · rcases h with ⟨_, k1, k2⟩ | ⟨k, _⟩
    · rcases h' with ⟨_, k3, k4⟩ | ⟨k, _⟩
      · simp only at k1 k2 k3 k4
        subst k1 k2 k3 k4 h5
        exact ⟨rfl, e2⟩
      · simp only at k; omega
    · simp only at k; omega
  · rw [acR_form h5, acR_form h5] at e2
    injection e2 with _ e4
    obtain ⟨e5, e6⟩ := tok_apart (by decide) (by omega) (by omega) e4
    obtain ⟨e7, e8⟩ := dec_apart (by omega) (by omega) (hm.2 h5) (hm'.2 h5) e6
    simp only at e5 e7
    rw [show b = b' from Int.ofNat.inj e5, show c = c' from Int.ofNat.inj e7]
    exact ⟨rfl, e8⟩
structure AcP (L : List UInt8) (x : Nat × Nat × Nat) : Prop where
  ok : AcOk x
  eq : L = acT x
theorem acE_nil (x : Nat × Nat × Nat) : AcE x [] := acE_both trivial trivial
theorem acP_uniq {L : List UInt8} {x x' : Nat × Nat × Nat} (h : AcP L x) (h' : AcP L x') : x = x' :=
  (ac_apart h.ok h'.ok (acE_nil x) (acE_nil x') (by rw [← h.eq, ← h'.eq])).1
open Classical in
noncomputable def raX (L : List UInt8) : Nat × Nat × Nat := if h : ∃ x, AcP L x then Classical.choose h else (0, 0, 0)
open Classical in
noncomputable def raC (L : List UInt8) : Int := if ∃ x, AcP L x then 0 else 5
theorem ra_yes {L : List UInt8} {x : Nat × Nat × Nat} (h : AcP L x) : raX L = x ∧ raC L = 0 := by
  have hx : ∃ x, AcP L x := ⟨x, h⟩
  unfold raX raC
  rw [dif_pos hx, if_pos hx]
  exact ⟨acP_uniq (Classical.choose_spec hx) h, rfl⟩
theorem ra_no {L : List UInt8} (h : ∀ x, ¬ AcP L x) : raX L = (0, 0, 0) ∧ raC L = 5 := by
  have hx : ¬ ∃ x, AcP L x := fun ⟨x, e⟩ => h x e
  unfold raX raC
  rw [dif_neg hx, if_neg hx]
  exact ⟨rfl, rfl⟩
/-! ### the reader -/
def WordS (T : ByteArray) (p : Nat) (wd : List UInt8) (q : Nat) : Prop := restT T p = wd ++ restT T q ∧ (∀ x ∈ wd, isLow x = true) ∧ NoLow (restT T q)
def ActS (T : ByteArray) (p : Nat) (f : Bool) (x : Nat × Nat × Nat) (q : Nat) (f' : Bool) : Prop :=
  (f' = false ∧ f = false ∧ AcOk x ∧ restT T p = acT x ++ restT T q ∧ AcE x (restT T q)) ∨ (f' = true ∧ (f = false → ∀ (x' : Nat × Nat × Nat) m, AcOk x' → AcE x' m → restT T p ≠ acT x' ++ m))
theorem word_is {T : ByteArray} {p q : Nat} {wd : List UInt8} (h : WordS T p wd q) {x : Nat × Nat × Nat} {m : List UInt8} (hx : AcOk x) (hm : AcE x m) (e : restT T p = acT x ++ m) : wd = acW.getD x.1 [] ∧ restT T q = acR x ++ m := by
  unfold acT at e
  rw [h.1, List.append_assoc] at e
  exact low_apart h.2.1 (acW_lowD hx.lt) h.2.2 (acR_low hm) e
theorem actS_none {T : ByteArray} {p q : Nat} {f : Bool} {wd : List UInt8} (h : WordS T p wd q) (hn : wd ∉ acW) (x : Nat × Nat × Nat) (q' : Nat) : ActS T p f x q' true :=
  .inr ⟨rfl, fun _ x' m hx hm e => hn (by rw [(word_is h hx hm e).1]; exact acW_mem hx.lt)⟩
theorem actS_day {T : ByteArray} {p q : Nat} {f : Bool} {wd : List UInt8} (h : WordS T p wd q) (hd : wd = acW.getD 5 []) : ActS T p f (5, 0, 0) q f := by
  cases f
  · refine .inl ⟨rfl, rfl, .inl ⟨rfl, rfl, rfl⟩, ?_, fun _ => h.2.2, fun h => absurd rfl h⟩
    rw [h.1, hd]
    unfold acT acR
    rw [if_pos rfl, List.append_nil]
  · exact .inr ⟨rfl, fun h => by cases h⟩
theorem actS_go {T : ByteArray} {p q q1 q2 q3 q4 : Nat} {f f1 f2 f3 f4 : Bool} {wd : List UInt8} {i a b : Nat} (h : WordS T p wd q) (hi : i ≤ 4) (hd : wd = acW.getD i []) (h1 : SkipS T q f 32 q1 f1) (h2 : NumR T q1 f1 49 (a : Int) q2 f2) (h3 : SkipS T q2 f2 32 q3 f3) (h4 : NumR T q3 f3 59 (b : Int) q4 f4) : ActS T p f (i, a, b) q4 f4 := by
  have ra := num_in (by omega) h2
  have rb := num_in (by omega) h4
  have late : f1 = true ∨ f2 = true ∨ f3 = true → f4 = true := fun hh => by
    have s2 : f1 = true → f2 = true := fun e => by
      rcases h2 with ⟨_, _, k⟩ | ⟨_, _, k⟩
      · rw [k]; exact e
      · exact k
    have s4 : f3 = true → f4 = true := fun e => by
      rcases h4 with ⟨_, _, k⟩ | ⟨_, _, k⟩
      · rw [k]; exact e
      · exact k
    rcases hh with e | e | e
    · exact s4 (skip_true h3 (s2 e))
    · exact s4 (skip_true h3 e)
    · exact s4 e
  have hw : ∀ (x' : Nat × Nat × Nat) m, AcOk x' → AcE x' m → restT T p = acT x' ++ m → x'.1 = i ∧ restT T q = 32 :: (dec (x'.2.1 : Int) ++ 32 :: (dec (x'.2.2 : Int) ++ m)) ∧ x'.2.1 ≤ 49 ∧ x'.2.2 ≤ 59 ∧ NoDig m := fun x' m hx hm e => by
    obtain ⟨e1, e2⟩ := word_is h hx hm e
    have e3 := acW_inj _ (by omega) _ hx.lt (hd.symm.trans e1)
    have h5 : x'.1 ≠ 5 := by omega
    refine ⟨e3.symm, by rw [e2, acR_form h5], ?_, ?_, hm.2 h5⟩
    · rcases hx with ⟨k, _⟩ | ⟨_, k, _⟩
      · exact absurd k h5
      · exact k
    · rcases hx with ⟨k, _⟩ | ⟨_, _, k⟩
      · exact absurd k h5
      · exact k
  rcases h1 with ⟨k1, p1, e1⟩ | ⟨k1, e1⟩
  · rcases h2 with ⟨k2, _, e2⟩ | ⟨k2, _, e2⟩
    · rcases h3 with ⟨k3, p3, e3⟩ | ⟨k3, e3⟩
      · rcases h4 with ⟨k4, _, e4⟩ | ⟨k4, _, e4⟩
        · have ef : f4 = f := by rw [e4, e3, e2, e1]
          cases f
          · refine .inl ⟨ef, rfl, .inr ⟨hi, by show a ≤ 49; omega, by show b ≤ 59; omega⟩, ?_, fun e => by simp only at e; omega, fun _ => k4.2.1⟩
            rw [h.1, hd]
            unfold acT
            rw [List.append_assoc, acR_form (by show i ≠ 5; omega), k1, ← p1, k2.1, k3, ← p3, k4.1]
          · exact .inr ⟨ef, fun h => by cases h⟩
        · refine .inr ⟨e4, fun _ x' m hx hm e => ?_⟩
          obtain ⟨_, w1, w2, w3, w4⟩ := hw x' m hx hm e
          rw [k1, ← p1, k2.1, k3, ← p3] at w1
          injection w1 with _ w5
          obtain ⟨_, w6⟩ := tok_apart (by decide) k2.2.2.1 (by omega) w5
          exact k4 _ _ ⟨w6, w4, by omega, by omega⟩
      · refine .inr ⟨late (.inr (.inr e3)), fun _ x' m hx hm e => ?_⟩
        obtain ⟨_, w1, w2, w3, w4⟩ := hw x' m hx hm e
        rw [k1, ← p1] at w1
        injection w1 with _ w5
        have := numOk_uniq (b := 49) k2 ⟨w5, noDig_c (by decide) _, by omega, by omega⟩
        exact k3 _ this.2
    · refine .inr ⟨late (.inr (.inl e2)), fun _ x' m hx hm e => ?_⟩
      obtain ⟨_, w1, w2, w3, w4⟩ := hw x' m hx hm e
      rw [k1, ← p1] at w1
      injection w1 with _ w5
      exact k2 _ _ ⟨w5, noDig_c (by decide) _, by omega, by omega⟩
  · refine .inr ⟨late (.inl e1), fun _ x' m hx hm e => ?_⟩
    obtain ⟨_, w1, _⟩ := hw x' m hx hm e
    exact k1 _ w1
theorem act_end {T : ByteArray} {x : Nat × Nat × Nat} {q : Nat} {f f2 : Bool} (h : ActS T 0 false x q f) (h2 : f2 = (f || !decide (q = T.size))) (hq : q ≤ T.size) : (f2 = false ∧ AcP T.data.toList x) ∨ (f2 = true ∧ ∀ x', ¬ AcP T.data.toList x') := by
  rcases h with ⟨h1, _, h3, h4, h5⟩ | ⟨h1, h3⟩
  · rw [h1] at h2
    by_cases e : q = T.size
    · rw [decide_eq_true e] at h2
      refine .inl ⟨h2, h3, ?_⟩
      rw [restT_end (p := q) (by omega), List.append_nil] at h4
      exact h4
    · rw [decide_eq_false e] at h2
      refine .inr ⟨h2, fun x' hb => ?_⟩
      have e2 := (ac_apart h3 hb.ok h5 (acE_nil x') (by rw [← h4, List.append_nil]; exact hb.eq)).2
      have := congrArg List.length e2
      rw [restT_len, List.length_nil] at this
      omega
  · rw [h1] at h2
    exact .inr ⟨h2, fun x' hb => h3 rfl x' [] hb.ok (acE_nil x') (by rw [List.append_nil]; exact hb.eq)⟩
end Go.Proofs.YtkojnepgeegalaaDoor
