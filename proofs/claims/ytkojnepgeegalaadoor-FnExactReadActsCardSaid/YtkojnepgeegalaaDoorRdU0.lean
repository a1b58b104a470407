/- Acts ahead of a text, a line each: when there are such, and when none. No condition. -/
import Derived.Test.YtkojnepgeegalaaDoorRdT4
namespace Go.Proofs.YtkojnepgeegalaaDoor
set_option linter.unusedSimpArgs false
set_option linter.unusedVariables false
set_option maxRecDepth 100000
open Go.RowKit

abbrev Ax := Nat × Nat × Nat
def actsL : List Ax → List UInt8
  | [] => []
  | b :: t => acT b ++ 10 :: actsL t
structure AcsP (L : List UInt8) (bs : List Ax) : Prop where
  ok : ∀ b ∈ bs, AcOk b
  len : bs.length ≤ 200
  eq : L = actsL bs
theorem acE_ten {x : Ax} (l : List UInt8) : AcE x (10 :: l) := acE_both (noDig_c (by decide) l) (by decide : isLow 10 = false)
theorem actsL_ne (b : Ax) (t : List Ax) : actsL (b :: t) ≠ [] := by
  show acT b ++ 10 :: actsL t ≠ []
  simp
theorem acs_prefix : ∀ (bs bs' : List Ax) (R : List UInt8), (∀ b ∈ bs, AcOk b) → (∀ b ∈ bs', AcOk b) → actsL bs ++ R = actsL bs' → ∃ more, bs' = bs ++ more ∧ R = actsL more
  | [], bs', R, _, _, e => ⟨bs', rfl, e⟩
  | b :: t, [], R, _, _, e => absurd (List.append_eq_nil_iff.1 e).1 (actsL_ne b t)
  | b :: t, b' :: t', R, h, h', e => by
    have e1 : acT b ++ (10 :: (actsL t ++ R)) = acT b' ++ (10 :: actsL t') := by
      have : actsL (b :: t) ++ R = acT b ++ (10 :: (actsL t ++ R)) := by
        show (acT b ++ 10 :: actsL t) ++ R = _
        simp only [List.append_assoc, List.cons_append]
      rw [← this]
      exact e
    obtain ⟨h1, h2⟩ := ac_apart (h b (by simp)) (h' b' (by simp)) (acE_ten _) (acE_ten _) e1
    injection h2 with _ h3
    obtain ⟨more, h4, h5⟩ := acs_prefix t t' R (fun x hx => h x (by simp [hx])) (fun x hx => h' x (by simp [hx])) h3
    exact ⟨more, by rw [h1, h4]; rfl, h5⟩
theorem actsL_snoc : ∀ (bs : List Ax) (b : Ax), actsL (bs ++ [b]) = actsL bs ++ (acT b ++ [10])
  | [], b => rfl
  | c :: t, b => by
    show acT c ++ 10 :: actsL (t ++ [b]) = (acT c ++ 10 :: actsL t) ++ (acT b ++ [10])
    rw [actsL_snoc t b]
    simp only [List.append_assoc, List.cons_append]
theorem acsP_uniq {L : List UInt8} {bs bs' : List Ax} (h : AcsP L bs) (h' : AcsP L bs') : bs = bs' := by
  obtain ⟨more, h1, h2⟩ := acs_prefix bs bs' [] h.ok h'.ok (by rw [List.append_nil, ← h.eq, ← h'.eq])
  match more, h1, h2 with
  | [], h1, _ => rw [h1, List.append_nil]
  | b :: t, _, h2 => exact absurd h2.symm (actsL_ne b t)
open Classical in
noncomputable def rtX (L : List UInt8) : List Ax := if h : ∃ bs, AcsP L bs then Classical.choose h else []
open Classical in
noncomputable def rtC (L : List UInt8) : Int := if ∃ bs, AcsP L bs then 0 else 5
theorem rt_yes {L : List UInt8} {bs : List Ax} (h : AcsP L bs) : rtX L = bs ∧ rtC L = 0 := by
  have hx : ∃ bs, AcsP L bs := ⟨bs, h⟩
  unfold rtX rtC
  rw [dif_pos hx, if_pos hx]
  exact ⟨acsP_uniq (Classical.choose_spec hx) h, rfl⟩
theorem rt_no {L : List UInt8} (h : ∀ bs, ¬ AcsP L bs) : rtX L = [] ∧ rtC L = 5 := by
  have hx : ¬ ∃ bs, AcsP L bs := fun ⟨bs, e⟩ => h bs e
  unfold rtX rtC
  rw [dif_neg hx, if_neg hx]
  exact ⟨rfl, rfl⟩
theorem rtX_len (L : List UInt8) : (rtX L).length ≤ 200 := by
  by_cases h : ∃ bs, AcsP L bs
  · obtain ⟨bs, h⟩ := h
    rw [(rt_yes h).1]
    exact h.len
  · rw [(rt_no (fun bs e => h ⟨bs, e⟩)).1]
    simp
/-! ### by lines -/
theorem acW_no10 : ∀ wd ∈ acW, (10 : UInt8) ∉ wd := by decide
theorem acT_no {b : Ax} (h : AcOk b) : (10 : UInt8) ∉ acT b := by
  unfold acT acR
  rw [List.mem_append, not_or]
  refine ⟨acW_no10 _ (acW_mem h.lt), ?_⟩
  split
  · simp
  · simp only [List.mem_append, List.mem_cons, not_or]
    exact ⟨by decide, dig_not (by decide), by decide, dig_not (by decide)⟩
theorem actsL_split : ∀ (bs : List Ax), (∀ b ∈ bs, AcOk b) → splitL 10 (actsL bs) = bs.map acT ++ [[]]
  | [], _ => rfl
  | b :: t, h => by
    show splitL 10 (acT b ++ 10 :: actsL t) = _
    rw [split_word _ _ (acT_no (h b (by simp))), actsL_split t (fun x hx => h x (by simp [hx]))]
    rfl
theorem AcsP.split {L : List UInt8} {bs : List Ax} (h : AcsP L bs) : splitL 10 L = bs.map acT ++ [[]] := by
  rw [h.eq]
  exact actsL_split bs h.ok
theorem actsL_join : ∀ (bs : List Ax), joinL 10 (bs.map acT ++ [[]]) = actsL bs
  | [] => rfl
  | b :: t => by
    rw [List.map_cons, List.cons_append, join_cons (by simp), actsL_join t]
    rfl
theorem acs_of_split {L : List UInt8} {bs : List Ax} (h : ∀ b ∈ bs, AcOk b) (hl : bs.length ≤ 200) (e : splitL 10 L = bs.map acT ++ [[]]) : AcsP L bs :=
  ⟨h, hl, by rw [← actsL_join, ← e, join_split]⟩
/-! ### by the reader -/
def PreA (L : List UInt8) (bs : List Ax) (T : ByteArray) (q : Nat) (f : Bool) : Prop :=
  (f = false ∧ (∀ b ∈ bs, AcOk b) ∧ bs.length ≤ 200 ∧ L = actsL bs ++ restT T q) ∨ (f = true ∧ ∀ bs', ¬ AcsP L bs')
theorem preA_zero (T : ByteArray) : PreA T.data.toList [] T 0 false := .inl ⟨rfl, fun _ h => by simp at h, by simp, rfl⟩
theorem preA_step {L : List UInt8} {bs : List Ax} {T : ByteArray} {q q1 q2 : Nat} {f1 f2 f3 : Bool} {b : Ax} (h : PreA L bs T q false) (hq : restT T q ≠ []) (hb : ActS T q false b q1 f1) (hs : SkipS T q1 f1 10 q2 f2) (h3 : f3 = (f2 || decide (200 < bs.length + 1))) : PreA L (bs ++ [b]) T q2 f3 := by
  rcases h with ⟨_, h1, h2, h4⟩ | ⟨h, _⟩
  · have bad : ∀ bs', AcsP L bs' → ∃ c t, bs' = bs ++ c :: t ∧ AcOk c ∧ restT T q = acT c ++ 10 :: actsL t := fun bs' hp => by
      obtain ⟨more, e1, e2⟩ := acs_prefix bs bs' _ h1 hp.ok (h4.symm.trans hp.eq)
      match more, e1, e2 with
      | [], _, e2 => exact absurd e2 hq
      | c :: t, e1, e2 => exact ⟨c, t, e1, hp.ok c (by rw [e1]; simp), e2⟩
    rcases hb with ⟨m1, _, m3, m4, m5⟩ | ⟨m1, m2⟩
    · rcases hs with ⟨k1, k2, k3⟩ | ⟨k1, k2⟩
      · have hx : L = actsL (bs ++ [b]) ++ restT T q2 := by
          rw [actsL_snoc, h4, m4, k1, k2]
          simp only [List.append_assoc, List.cons_append, List.nil_append]
        by_cases hl : 200 < bs.length + 1
        · refine .inr ⟨by rw [h3, decide_eq_true hl]; simp, fun bs' hp => ?_⟩
          obtain ⟨c, t, e, _⟩ := bad bs' hp
          have := hp.len
          rw [e, List.length_append, List.length_cons] at this
          omega
        · refine .inl ⟨by rw [h3, k3, m1, decide_eq_false hl]; rfl, fun c hc => ?_, by rw [List.length_append, List.length_singleton]; omega, hx⟩
          rcases List.mem_append.1 hc with h | h
          · exact h1 c h
          · rw [List.mem_singleton] at h; rw [h]; exact m3
      · refine .inr ⟨by rw [h3, k2]; rfl, fun bs' hp => ?_⟩
        obtain ⟨c, t, _, hc, e2⟩ := bad bs' hp
        have := (ac_apart m3 hc m5 (acE_ten _) (m4.symm.trans e2)).2
        exact k1 _ this
    · refine .inr ⟨?_, fun bs' hp => ?_⟩
      · rw [h3, skip_true hs m1]; rfl
      · obtain ⟨c, t, _, hc, e2⟩ := bad bs' hp
        exact m2 rfl c _ hc (acE_ten _) e2
  · cases h
theorem preA_end {bs : List Ax} {T : ByteArray} {q : Nat} {f : Bool} (h : PreA T.data.toList bs T q f) (hf : f = true ∨ q = T.size) : (f = false ∧ rtX T.data.toList = bs ∧ rtC T.data.toList = 0) ∨ (f = true ∧ rtX T.data.toList = [] ∧ rtC T.data.toList = 5) := by
  rcases h with ⟨h1, h2, h3, h4⟩ | ⟨h1, h2⟩
  · rcases hf with h | h
    · rw [h] at h1; cases h1
    · rw [restT_end (p := q) (by omega), List.append_nil] at h4
      exact .inl ⟨h1, rt_yes ⟨h2, h3, h4⟩⟩
  · exact .inr ⟨h1, rt_no h2⟩
end Go.Proofs.YtkojnepgeegalaaDoor
