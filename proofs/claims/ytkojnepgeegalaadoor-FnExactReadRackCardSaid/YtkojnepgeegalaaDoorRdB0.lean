/- A book ahead of a text: when there is one, and when none. No condition. -/
import Derived.Test.YtkojnepgeegalaaDoorRdA
import Derived.Test.YtkojnepgeegalaaDoorBkT
namespace Go.Proofs.YtkojnepgeegalaaDoor
set_option linter.unusedSimpArgs false
set_option linter.unusedVariables false
set_option maxRecDepth 100000
open Go.RowKit

/-- A numeral, and the byte that has to follow it. -/
def TokS (c : UInt8) (T : ByteArray) (q : Nat) (f : Bool) (n : Int) (q2 : Nat) (f2 : Bool) : Prop :=
  (f2 = false ∧ f = false ∧ (0 ≤ n ∧ n ≤ 9999) ∧ restT T q = dec n ++ c :: restT T q2) ∨ (f2 = true ∧ (f = false → ∀ (n' : Int) r', 0 ≤ n' → n' ≤ 9999 → restT T q ≠ dec n' ++ c :: r'))
theorem tokS_of {c : UInt8} (hc : isDig c = false) {T : ByteArray} {q q1 q2 : Nat} {f f1 f2 : Bool} {n : Int} (hn : NumR T q f 9999 n q1 f1) (hs : SkipS T q1 f1 c q2 f2) : TokS c T q f n q2 f2 := by
  rcases hn with ⟨h1, h2, hf⟩ | ⟨h1, _, hf⟩
  · rcases hs with ⟨k1, k2, k3⟩ | ⟨k1, k2⟩
    · cases f
      · exact .inl ⟨by rw [k3, hf], rfl, ⟨h1.2.2.1, h1.2.2.2⟩, by rw [h1.1, k1, k2]⟩
      · exact .inr ⟨by rw [k3, hf], fun h => by cases h⟩
    · refine .inr ⟨k2, fun _ n' r' h3 h4 e => ?_⟩
      have := numOk_uniq h1 ⟨e, noDig_c hc r', h3, h4⟩
      exact k1 _ this.2
  · refine .inr ⟨?_, fun _ n' r' h3 h4 e => h1 n' _ ⟨e, noDig_c hc r', h3, h4⟩⟩
    rcases hs with ⟨_, _, k⟩ | ⟨_, k⟩
    · rw [k]; exact hf
    · exact k
/-- Three letters, and a blank. -/
def MrkS (T : ByteArray) (q : Nat) (f : Bool) (x0 x1 x2 : UInt8) (q2 : Nat) (f2 : Bool) : Prop :=
  (f2 = false ∧ f = false ∧ restT T q = x0 :: x1 :: x2 :: 32 :: restT T q2) ∨ (f2 = true ∧ (f = false → ∀ a b c r', restT T q ≠ a :: b :: c :: 32 :: r'))
theorem let_step {T : ByteArray} {q q1 : Nat} {f f1 : Bool} {x : UInt8} (h : LetS T q f x q1 f1) : (restT T q = x :: restT T q1 ∧ f1 = f) ∨ (restT T q = [] ∧ f1 = true) := by
  rcases h with ⟨h1, h2, h3⟩ | ⟨h1, _, _, h3⟩
  · exact .inl ⟨by rw [h1, h2], h3⟩
  · exact .inr ⟨h1, h3⟩
theorem let_true {T : ByteArray} {q q1 : Nat} {f f1 : Bool} {x : UInt8} (h : LetS T q f x q1 f1) (hf : f = true) : f1 = true := by
  rcases h with ⟨_, _, h3⟩ | ⟨_, _, _, h3⟩
  · rw [h3]; exact hf
  · exact h3
theorem skip_true {T : ByteArray} {q q1 : Nat} {f f1 : Bool} {c : UInt8} (h : SkipS T q f c q1 f1) (hf : f = true) : f1 = true := by
  rcases h with ⟨_, _, h3⟩ | ⟨_, h3⟩
  · rw [h3]; exact hf
  · exact h3
theorem mrkS_of {T : ByteArray} {q q1 q2 q3 q4 : Nat} {f f1 f2 f3 f4 : Bool} {x0 x1 x2 : UInt8} (h0 : LetS T q f x0 q1 f1) (h1 : LetS T q1 f1 x1 q2 f2) (h2 : LetS T q2 f2 x2 q3 f3) (hs : SkipS T q3 f3 32 q4 f4) : MrkS T q f x0 x1 x2 q4 f4 := by
  rcases let_step h0 with ⟨a1, a2⟩ | ⟨a1, a2⟩
  · rcases let_step h1 with ⟨b1, b2⟩ | ⟨b1, b2⟩
    · rcases let_step h2 with ⟨c1, c2⟩ | ⟨c1, c2⟩
      · rcases hs with ⟨k1, k2, k3⟩ | ⟨k1, k2⟩
        · cases f
          · exact .inl ⟨by rw [k3, c2, b2, a2], rfl, by rw [a1, b1, c1, k1, k2]⟩
          · exact .inr ⟨by rw [k3, c2, b2, a2], fun h => by cases h⟩
        · refine .inr ⟨k2, fun _ a b c r' e => ?_⟩
          rw [a1, b1, c1] at e
          simp only [List.cons.injEq] at e
          exact k1 _ e.2.2.2
      · refine .inr ⟨skip_true hs c2, fun _ a b c r' e => ?_⟩
        rw [a1, b1, c1] at e
        simp at e
    · refine .inr ⟨skip_true hs (let_true h2 b2), fun _ a b c r' e => ?_⟩
      rw [a1, b1] at e
      simp at e
  · refine .inr ⟨skip_true hs (let_true h2 (let_true h1 a2)), fun _ a b c r' e => ?_⟩
    rw [a1] at e
    simp at e
def bkOf (c : Int) (x0 x1 x2 : UInt8) (v wi hi we : Int) : Bk := ⟨c, (x0.toNat : Int), (x1.toNat : Int), (x2.toNat : Int), v, wi, hi, we⟩
/-- What reading a book says. -/
def BookS (T : ByteArray) (p : Nat) (f : Bool) (b : Bk) (q : Nat) (f' : Bool) : Prop :=
  (f' = false ∧ f = false ∧ bookB b = true ∧ restT T p = bookT b ++ restT T q ∧ NoDig (restT T q)) ∨ (f' = true ∧ (f = false → ∀ b' m, bookB b' = true → NoDig m → restT T p ≠ bookT b' ++ m))
theorem bookB_in {b : Bk} (h : bookB b = true) : (0 ≤ b.c ∧ b.c ≤ 999) ∧ (97 ≤ b.m0 ∧ b.m0 ≤ 122) ∧ (97 ≤ b.m1 ∧ b.m1 ≤ 122) ∧ (97 ≤ b.m2 ∧ b.m2 ≤ 122) ∧ (1 ≤ b.v ∧ b.v ≤ 99) ∧ (1 ≤ b.wi ∧ b.wi ≤ 100) ∧ (50 ≤ b.hi ∧ b.hi ≤ 400) ∧ (1 ≤ b.we ∧ b.we ≤ 9999) := by
  unfold bookB markB inB at h
  simp only [Bool.and_eq_true, decide_eq_true_eq] at h
  omega
theorem bookT_form (b : Bk) (m : List UInt8) : bookT b ++ m = dec b.c ++ 32 :: (UInt8.ofNat b.m0.toNat :: UInt8.ofNat b.m1.toNat :: UInt8.ofNat b.m2.toNat :: 32 :: (dec b.v ++ 32 :: (dec b.wi ++ 120 :: (dec b.hi ++ 32 :: (dec b.we ++ m))))) := by
  unfold bookT mrkT
  simp only [List.append_assoc, List.cons_append, List.nil_append]
theorem tok_apart {c : UInt8} (hc : isDig c = false) {n n' : Int} {r r' : List UInt8} (h0 : 0 ≤ n) (h0' : 0 ≤ n') (e : dec n ++ c :: r = dec n' ++ c :: r') : n = n' ∧ r = r' := by
  obtain ⟨h1, h2⟩ := dec_apart h0 h0' (noDig_c hc r) (noDig_c hc r') e
  injection h2 with _ h3
  exact ⟨h1, h3⟩
theorem u8_back {x : UInt8} {z : Int} (h : 97 ≤ z ∧ z ≤ 122) (e : x = UInt8.ofNat z.toNat) : (x.toNat : Int) = z := by
  rw [e, UInt8.toNat_ofNat']
  omega
theorem u8_self (x : UInt8) : UInt8.ofNat ((x.toNat : Int)).toNat = x := by
  apply UInt8.toNat_inj.1
  rw [UInt8.toNat_ofNat']
  have := x.toNat_lt
  omega
theorem bookS_of {T : ByteArray} {p q1 q2 q3 q4 q5 q6 : Nat} {f f1 f2 f3 f4 f5 f6 f7 : Bool} {c v wi hi we : Int} {x0 x1 x2 : UInt8} (h1 : TokS 32 T p f c q1 f1) (h2 : MrkS T q1 f1 x0 x1 x2 q2 f2) (h3 : TokS 32 T q2 f2 v q3 f3) (h4 : TokS 120 T q3 f3 wi q4 f4) (h5 : TokS 32 T q4 f4 hi q5 f5) (h6 : NumR T q5 f5 9999 we q6 f6)
    (h7 : f7 = (f6 || !bookB (bkOf c x0 x1 x2 v wi hi we))) : BookS T p f (bkOf c x0 x1 x2 v wi hi we) q6 f7 := by
  cases hf : f7
  · left
    rw [hf] at h7
    have h8 : f6 = false ∧ bookB (bkOf c x0 x1 x2 v wi hi we) = true := by
      have h := h7.symm
      rw [Bool.or_eq_false_iff] at h
      refine ⟨h.1, ?_⟩
      have h2 := h.2
      cases hb : bookB (bkOf c x0 x1 x2 v wi hi we)
      · rw [hb] at h2; cases h2
      · rfl
    rcases h6 with ⟨k1, _, k3⟩ | ⟨_, _, k3⟩
    · rw [h8.1] at k3
      rcases h5 with ⟨_, e4, _, t5⟩ | ⟨e5, _⟩
      · rcases h4 with ⟨_, e3, _, t4⟩ | ⟨e, _⟩
        · rcases h3 with ⟨_, e2, _, t3⟩ | ⟨e, _⟩
          · rcases h2 with ⟨_, e1, t2⟩ | ⟨e, _⟩
            · rcases h1 with ⟨_, e0, _, t1⟩ | ⟨e, _⟩
              · refine ⟨rfl, e0, h8.2, ?_, k1.2.1⟩
                rw [bookT_form, t1, t2, t3, t4, t5, k1.1]
                unfold bkOf
                simp only [u8_self]
              · rw [e1] at e; cases e
            · rw [e2] at e; cases e
          · rw [e3] at e; cases e
        · rw [e4] at e; cases e
      · rw [← k3] at e5; cases e5
    · rw [h8.1] at k3; cases k3
  · right
    refine ⟨rfl, fun e0 b' m hb hm e => ?_⟩
    obtain ⟨i0, i1, i2, i3, i4, i5, i6, i7⟩ := bookB_in hb
    rw [bookT_form] at e
    rcases h1 with ⟨e1, _, n1, t1⟩ | ⟨_, k⟩
    · rw [t1] at e
      obtain ⟨rfl, ea⟩ := tok_apart (by decide) n1.1 i0.1 e
      rcases h2 with ⟨e2, _, t2⟩ | ⟨_, k⟩
      · rw [t2] at ea
        simp only [List.cons.injEq] at ea
        obtain ⟨y0, y1, y2, -, eb⟩ := ea
        rcases h3 with ⟨e3, _, n3, t3⟩ | ⟨_, k⟩
        · rw [t3] at eb
          obtain ⟨rfl, ec⟩ := tok_apart (by decide) n3.1 (by omega) eb
          rcases h4 with ⟨e4, _, n4, t4⟩ | ⟨_, k⟩
          · rw [t4] at ec
            obtain ⟨rfl, ed⟩ := tok_apart (by decide) n4.1 (by omega) ec
            rcases h5 with ⟨e5, _, n5, t5⟩ | ⟨_, k⟩
            · rw [t5] at ed
              obtain ⟨rfl, ee⟩ := tok_apart (by decide) n5.1 (by omega) ed
              rcases h6 with ⟨k1, _, k3⟩ | ⟨k, _⟩
              · obtain ⟨rfl, _⟩ := numOk_uniq k1 (⟨ee, hm, by omega, i7.2⟩ : NumOk 9999 _ _ _)
                have ez : bkOf b'.c x0 x1 x2 b'.v b'.wi b'.hi b'.we = b' := by
                  unfold bkOf
                  rw [u8_back i1 y0, u8_back i2 y1, u8_back i3 y2]
                rw [ez, hb, k3, e5, hf] at h7
                cases h7
              · exact k _ _ ⟨ee, hm, by omega, i7.2⟩
            · exact k e4 _ _ (by omega) (by omega) ed
          · exact k e3 _ _ (by omega) (by omega) ec
        · exact k e2 _ _ (by omega) (by omega) eb
      · exact k e1 _ _ _ _ ea
    · exact k e0 _ _ (by omega) (by omega) e
end Go.Proofs.YtkojnepgeegalaaDoor
