/- A case in a text: when there is one, and when none. No condition. -/
import Derived.Test.YtkojnepgeegalaaDoorRdG
namespace Go.Proofs.YtkojnepgeegalaaDoor
set_option linter.unusedSimpArgs false
set_option linter.unusedVariables false
set_option maxRecDepth 100000
open Go.RowKit

/-- A text of a case. -/
structure CsP (L : List UInt8) (c : Cs) : Prop where
  ok : caseB c = true
  eq : L = joinL 32 (([c.wi, c.lo] ++ c.hs).map dec)
theorem caseB_in {c : Cs} (h : caseB c = true) : (1 ≤ c.wi ∧ c.wi ≤ 2000) ∧ (1 ≤ c.lo ∧ c.lo ≤ 200000) ∧ (1 ≤ c.hs.length ∧ c.hs.length ≤ 12) ∧ AllIn 1000 c.hs := by
  unfold caseB inB at h
  simp only [Bool.and_eq_true, decide_eq_true_eq, List.all_eq_true] at h
  refine ⟨h.1, h.2.1, by omega, fun z hz => ?_⟩
  have := h.2.2.2 z hz
  omega
theorem CsP.all {L : List UInt8} {c : Cs} (h : CsP L c) : ∀ z ∈ [c.wi, c.lo] ++ c.hs, 0 ≤ z := fun z hz => by
  obtain ⟨h1, h2, _, h4⟩ := caseB_in h.ok
  rcases List.mem_append.1 hz with h | h
  · simp only [List.mem_cons, List.not_mem_nil, or_false] at h
    rcases h with rfl | rfl <;> omega
  · exact (h4 z h).1
theorem CsP.split {L : List UInt8} {c : Cs} (h : CsP L c) : splitL 32 L = ([c.wi, c.lo] ++ c.hs).map dec := by
  rw [h.eq]
  exact split_dec (by decide) (by simp)
theorem cs_ext {c c' : Cs} (h : [c.wi, c.lo] ++ c.hs = [c'.wi, c'.lo] ++ c'.hs) : c = c' := by
  obtain ⟨a, b, e⟩ := c
  obtain ⟨a', b', e'⟩ := c'
  simp only [List.cons_append, List.nil_append, List.cons.injEq] at h
  obtain ⟨rfl, rfl, rfl⟩ := h
  rfl
theorem csP_uniq {L : List UInt8} {c c' : Cs} (h : CsP L c) (h' : CsP L c') : c = c' :=
  cs_ext (map_dec_inj _ _ h.all h'.all (h.split.symm.trans h'.split))
def zeroCs : Cs := ⟨0, 0, []⟩
open Classical in
noncomputable def rcV (L : List UInt8) : Cs := if h : ∃ c, CsP L c then Classical.choose h else zeroCs
open Classical in
noncomputable def rcK (L : List UInt8) : Int := if ∃ c, CsP L c then 0 else 5
theorem rc_yes {L : List UInt8} {c : Cs} (h : CsP L c) : rcV L = c ∧ rcK L = 0 := by
  have hx : ∃ c, CsP L c := ⟨c, h⟩
  unfold rcV rcK
  rw [dif_pos hx, if_pos hx]
  exact ⟨csP_uniq (Classical.choose_spec hx) h, rfl⟩
theorem rc_no {L : List UInt8} (h : ∀ c, ¬ CsP L c) : rcV L = zeroCs ∧ rcK L = 5 := by
  have hx : ¬ ∃ c, CsP L c := fun ⟨c, e⟩ => h c e
  unfold rcV rcK
  rw [dif_neg hx, if_neg hx]
  exact ⟨rfl, rfl⟩
theorem rcV_len (L : List UInt8) : (rcV L).hs.length ≤ 12 := by
  by_cases h : ∃ c, CsP L c
  · obtain ⟨c, h⟩ := h
    rw [(rc_yes h).1]
    exact (caseB_in h.ok).2.2.1.2
  · rw [(rc_no (fun c e => h ⟨c, e⟩)).1]
    simp [zeroCs]
/-- A numeral of at most so much, and the blank behind it. -/
def TokM (most : Int) (T : ByteArray) (q : Nat) (f : Bool) (n : Int) (q2 : Nat) (f2 : Bool) : Prop :=
  (f2 = false ∧ f = false ∧ (0 ≤ n ∧ n ≤ most) ∧ restT T q = dec n ++ 32 :: restT T q2) ∨ (f2 = true ∧ (f = false → ∀ (n' : Int) r', 0 ≤ n' → n' ≤ most → restT T q ≠ dec n' ++ 32 :: r'))
theorem tokM_of {most : Int} {T : ByteArray} {q q1 q2 : Nat} {f f1 f2 : Bool} {n : Int} (hn : NumR T q f most n q1 f1) (hs : SkipS T q1 f1 32 q2 f2) : TokM most T q f n q2 f2 := by
  rcases hn with ⟨h1, h2, hf⟩ | ⟨h1, _, hf⟩
  · rcases hs with ⟨k1, k2, k3⟩ | ⟨k1, k2⟩
    · cases f
      · exact .inl ⟨by rw [k3, hf], rfl, ⟨h1.2.2.1, h1.2.2.2⟩, by rw [h1.1, k1, k2]⟩
      · exact .inr ⟨by rw [k3, hf], fun h => by cases h⟩
    · refine .inr ⟨k2, fun _ n' r' h3 h4 e => ?_⟩
      have := numOk_uniq h1 ⟨e, noDig_c (by decide) r', h3, h4⟩
      exact k1 _ this.2
  · exact .inr ⟨skip_true hs hf, fun _ n' r' h3 h4 e => h1 n' _ ⟨e, noDig_c (by decide) r', h3, h4⟩⟩
theorem join_three (a b : Int) {zs : List Int} (h : zs ≠ []) : joinL 32 (([a, b] ++ zs).map dec) = dec a ++ 32 :: (dec b ++ 32 :: joinL 32 (zs.map dec)) := by
  show joinL 32 (dec a :: dec b :: zs.map dec) = _
  rw [join_cons (by simp), join_cons (by simpa using h)]
theorem case_end {T : ByteArray} {q1 q2 : Nat} {f1 f2 f3 f4 : Bool} {a b : Int} {zs : List Int} (h1 : TokM 2000 T 0 false a q1 f1) (h2 : TokM 200000 T q1 f1 b q2 f2) (h3 : LastF 32 1000 T q2 f2 zs f3) (h4 : f4 = (f3 || !caseB ⟨a, b, zs⟩)) : (f4 = false ∧ CsP T.data.toList ⟨a, b, zs⟩) ∨ (f4 = true ∧ ∀ c', ¬ CsP T.data.toList c') := by
  cases hf : f4
  · left
    rw [hf] at h4
    have h5 : f3 = false ∧ caseB ⟨a, b, zs⟩ = true := by
      have h := h4.symm
      rw [Bool.or_eq_false_iff] at h
      refine ⟨h.1, ?_⟩
      have h2 := h.2
      cases hb : caseB ⟨a, b, zs⟩
      · rw [hb] at h2; cases h2
      · rfl
    rcases h3 with ⟨_, e2, k1, _, _, t3⟩ | ⟨e, _⟩
    · rcases h2 with ⟨_, e1, _, t2⟩ | ⟨e, _⟩
      · rcases h1 with ⟨_, _, _, t1⟩ | ⟨e, _⟩
        · refine ⟨rfl, h5.2, ?_⟩
          show T.data.toList = joinL 32 (([a, b] ++ zs).map dec)
          rw [join_three a b (fun e => by rw [e] at k1; simp at k1), ← t3, ← t2, ← t1]
          rfl
        · rw [e1] at e; cases e
      · rw [e2] at e; cases e
    · rw [h5.1] at e; cases e
  · right
    refine ⟨rfl, fun c' hp => ?_⟩
    obtain ⟨i1, i2, i3, i4⟩ := caseB_in hp.ok
    have e := hp.eq
    rw [join_three _ _ (fun e => by rw [e] at i3; simp at i3)] at e
    rcases h1 with ⟨e1, _, n1, t1⟩ | ⟨_, k⟩
    · have e' : restT T 0 = dec c'.wi ++ 32 :: (dec c'.lo ++ 32 :: joinL 32 (c'.hs.map dec)) := e
      rw [t1] at e'
      obtain ⟨w1, ea⟩ := tok_apart (by decide) n1.1 (by omega) e'
      rcases h2 with ⟨e2, _, n2, t2⟩ | ⟨_, k⟩
      · rw [t2] at ea
        obtain ⟨w2, eb⟩ := tok_apart (by decide) n2.1 (by omega) ea
        rcases h3 with ⟨e3, _, k1, _, k3, t3⟩ | ⟨_, k⟩
        · rw [t3] at eb
          have hz : zs.map dec = c'.hs.map dec := by
            have s1 := split_dec (c := 32) (by decide) (zs := zs) (fun e => by rw [e] at k1; simp at k1)
            have s2 := split_dec (c := 32) (by decide) (zs := c'.hs) (fun e => by rw [e] at i3; simp at i3)
            rw [← s1, ← s2, eb]
          have w3 := map_dec_inj zs c'.hs (fun z hz => (k3 z hz).1) (fun z hz => (i4 z hz).1) hz
          have w4 : (⟨a, b, zs⟩ : Cs) = c' := by rw [w1, w2, w3]
          rw [e3, w4, hp.ok, hf] at h4
          cases h4
        · exact k e2 _ i3.1 i3.2 i4 eb
      · exact k e1 _ _ (by omega) (by omega) ea
    · exact k rfl _ _ (by omega) (by omega) e
end Go.Proofs.YtkojnepgeegalaaDoor
