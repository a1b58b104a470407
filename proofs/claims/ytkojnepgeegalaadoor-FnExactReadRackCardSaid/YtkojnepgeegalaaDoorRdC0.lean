/- Books ahead of a text, a line each: when there are such, and when none. No condition. -/
import Derived.Test.YtkojnepgeegalaaDoorRdB2
namespace Go.Proofs.YtkojnepgeegalaaDoor
set_option linter.unusedSimpArgs false
set_option linter.unusedVariables false
set_option maxRecDepth 100000
open Go.RowKit

def booksL : List Bk → List UInt8
  | [] => []
  | b :: t => bookT b ++ 10 :: booksL t
structure BksP (L : List UInt8) (bs : List Bk) : Prop where
  ok : ∀ b ∈ bs, bookB b = true
  len : bs.length ≤ 60
  eq : L = booksL bs
theorem noDig_ten (l : List UInt8) : NoDig (10 :: l) := noDig_c (by decide) l
theorem bookT_ne (b : Bk) (m : List UInt8) : bookT b ++ m ≠ [] := by
  rw [bookT_form]
  simp
theorem booksL_ne (b : Bk) (t : List Bk) : booksL (b :: t) ≠ [] := bookT_ne b _
theorem bks_prefix : ∀ (bs bs' : List Bk) (R : List UInt8), (∀ b ∈ bs, bookB b = true) → (∀ b ∈ bs', bookB b = true) → booksL bs ++ R = booksL bs' → ∃ more, bs' = bs ++ more ∧ R = booksL more
  | [], bs', R, _, _, e => ⟨bs', rfl, e⟩
  | b :: t, [], R, _, _, e => absurd (List.append_eq_nil_iff.1 e).1 (booksL_ne b t)
  | b :: t, b' :: t', R, h, h', e => by
    have e1 : bookT b ++ (10 :: (booksL t ++ R)) = bookT b' ++ (10 :: booksL t') := by
      have : booksL (b :: t) ++ R = bookT b ++ (10 :: (booksL t ++ R)) := by
        show (bookT b ++ 10 :: booksL t) ++ R = _
        simp only [List.append_assoc, List.cons_append]
      rw [← this]
      exact e
    obtain ⟨h1, h2⟩ := bookT_uniq (h b (by simp)) (h' b' (by simp)) (noDig_ten _) (noDig_ten _) e1
    injection h2 with _ h3
    obtain ⟨more, h4, h5⟩ := bks_prefix t t' R (fun x hx => h x (by simp [hx])) (fun x hx => h' x (by simp [hx])) h3
    exact ⟨more, by rw [h1, h4]; rfl, h5⟩
theorem booksL_snoc : ∀ (bs : List Bk) (b : Bk), booksL (bs ++ [b]) = booksL bs ++ (bookT b ++ [10])
  | [], b => rfl
  | c :: t, b => by
    show bookT c ++ 10 :: booksL (t ++ [b]) = (bookT c ++ 10 :: booksL t) ++ (bookT b ++ [10])
    rw [booksL_snoc t b]
    simp only [List.append_assoc, List.cons_append]
theorem bksP_uniq {L : List UInt8} {bs bs' : List Bk} (h : BksP L bs) (h' : BksP L bs') : bs = bs' := by
  obtain ⟨more, h1, h2⟩ := bks_prefix bs bs' [] h.ok h'.ok (by rw [List.append_nil, ← h.eq, ← h'.eq])
  match more, h1, h2 with
  | [], h1, _ => rw [h1, List.append_nil]
  | b :: t, _, h2 => exact absurd h2.symm (booksL_ne b t)
open Classical in
noncomputable def rsB (L : List UInt8) : List Bk := if h : ∃ bs, BksP L bs then Classical.choose h else []
open Classical in
noncomputable def rsC (L : List UInt8) : Int := if ∃ bs, BksP L bs then 0 else 5
theorem rs_yes {L : List UInt8} {bs : List Bk} (h : BksP L bs) : rsB L = bs ∧ rsC L = 0 := by
  have hx : ∃ bs, BksP L bs := ⟨bs, h⟩
  unfold rsB rsC
  rw [dif_pos hx, if_pos hx]
  exact ⟨bksP_uniq (Classical.choose_spec hx) h, rfl⟩
theorem rs_no {L : List UInt8} (h : ∀ bs, ¬ BksP L bs) : rsB L = [] ∧ rsC L = 5 := by
  have hx : ¬ ∃ bs, BksP L bs := fun ⟨bs, e⟩ => h bs e
  unfold rsB rsC
  rw [dif_neg hx, if_neg hx]
  exact ⟨rfl, rfl⟩
theorem rsB_len (L : List UInt8) : (rsB L).length ≤ 60 := by
  by_cases h : ∃ bs, BksP L bs
  · obtain ⟨bs, h⟩ := h
    rw [(rs_yes h).1]
    exact h.len
  · rw [(rs_no (fun bs e => h ⟨bs, e⟩)).1]
    simp
/-! ### by lines -/
theorem bookT_no {b : Bk} (h : bookB b = true) : (10 : UInt8) ∉ bookT b := by
  obtain ⟨i0, i1, i2, i3, i4, i5, i6, i7⟩ := bookB_in h
  have hm : ∀ z : Int, 97 ≤ z ∧ z ≤ 122 → (10 : UInt8) ≠ UInt8.ofNat z.toNat := fun z hz e => by
    have := u8_back hz e
    have h2 : ((10 : UInt8).toNat : Int) = 10 := rfl
    omega
  have e := bookT_form b []
  rw [List.append_nil] at e
  rw [e]
  simp only [List.mem_append, List.mem_cons, List.not_mem_nil, or_false, not_or]
  exact ⟨dig_not (by decide), by decide, hm _ i1, hm _ i2, hm _ i3, by decide, dig_not (by decide), by decide, dig_not (by decide), by decide, dig_not (by decide), by decide, dig_not (by decide)⟩
theorem booksL_split : ∀ (bs : List Bk), (∀ b ∈ bs, bookB b = true) → splitL 10 (booksL bs) = bs.map bookT ++ [[]]
  | [], _ => rfl
  | b :: t, h => by
    show splitL 10 (bookT b ++ 10 :: booksL t) = _
    rw [split_word _ _ (bookT_no (h b (by simp))), booksL_split t (fun x hx => h x (by simp [hx]))]
    rfl
theorem BksP.split {L : List UInt8} {bs : List Bk} (h : BksP L bs) : splitL 10 L = bs.map bookT ++ [[]] := by
  rw [h.eq]
  exact booksL_split bs h.ok
theorem booksL_join : ∀ (bs : List Bk), joinL 10 (bs.map bookT ++ [[]]) = booksL bs
  | [] => rfl
  | b :: t => by
    rw [List.map_cons, List.cons_append, join_cons (by simp), booksL_join t]
    rfl
theorem bks_of_split {L : List UInt8} {bs : List Bk} (h : ∀ b ∈ bs, bookB b = true) (hl : bs.length ≤ 60) (e : splitL 10 L = bs.map bookT ++ [[]]) : BksP L bs :=
  ⟨h, hl, by rw [← booksL_join, ← e, join_split]⟩
/-! ### by the reader -/
def PreB (L : List UInt8) (bs : List Bk) (T : ByteArray) (q : Nat) (f : Bool) : Prop :=
  (f = false ∧ (∀ b ∈ bs, bookB b = true) ∧ bs.length ≤ 60 ∧ L = booksL bs ++ restT T q) ∨ (f = true ∧ ∀ bs', ¬ BksP L bs')
theorem preB_zero (T : ByteArray) : PreB T.data.toList [] T 0 false := .inl ⟨rfl, fun _ h => by simp at h, by simp, rfl⟩
theorem preB_step {L : List UInt8} {bs : List Bk} {T : ByteArray} {q q1 q2 : Nat} {f1 f2 f3 : Bool} {b : Bk} (h : PreB L bs T q false) (hq : restT T q ≠ []) (hb : BookS T q false b q1 f1) (hs : SkipS T q1 f1 10 q2 f2) (h3 : f3 = (f2 || decide (60 < bs.length + 1))) : PreB L (bs ++ [b]) T q2 f3 := by
  rcases h with ⟨_, h1, h2, h4⟩ | ⟨h, _⟩
  · have bad : ∀ bs', BksP L bs' → ∃ c t, bs' = bs ++ c :: t ∧ bookB c = true ∧ restT T q = bookT c ++ 10 :: booksL t := fun bs' hp => by
      obtain ⟨more, e1, e2⟩ := bks_prefix bs bs' _ h1 hp.ok (h4.symm.trans hp.eq)
      match more, e1, e2 with
      | [], _, e2 => exact absurd e2 hq
      | c :: t, e1, e2 => exact ⟨c, t, e1, hp.ok c (by rw [e1]; simp), e2⟩
    rcases hb with ⟨m1, _, m3, m4, m5⟩ | ⟨m1, m2⟩
    · rcases hs with ⟨k1, k2, k3⟩ | ⟨k1, k2⟩
      · have hx : L = booksL (bs ++ [b]) ++ restT T q2 := by
          rw [booksL_snoc, h4, m4, k1, k2]
          simp only [List.append_assoc, List.cons_append, List.nil_append]
        by_cases hl : 60 < bs.length + 1
        · refine .inr ⟨by rw [h3, decide_eq_true hl]; simp, fun bs' hp => ?_⟩
          obtain ⟨c, t, e, _⟩ := bad bs' hp
          have := hp.len
          rw [e, List.length_append, List.length_cons] at this
          omega
        · refine .inl ⟨by rw [h3, k3, m1, decide_eq_false hl]; rfl, fun c hc => ?_, by rw [List.length_append, List.length_singleton]; omega, hx⟩
          rcases List.mem_append.1 hc with h | h
          · exact h1 c h
          · rw [List.mem_singleton] at h; rw [h]; exact m3
      · refine .inr ⟨by rw [h3, k2]; rfl, fun bs' hp => ?_⟩
        obtain ⟨c, t, _, hc, e2⟩ := bad bs' hp
        have := (bookT_uniq m3 hc m5 (noDig_ten _) (m4.symm.trans e2)).2
        exact k1 _ this
    · refine .inr ⟨?_, fun bs' hp => ?_⟩
      · rw [h3, skip_true hs m1]; rfl
      · obtain ⟨c, t, _, hc, e2⟩ := bad bs' hp
        exact m2 rfl c _ hc (noDig_ten _) e2
  · cases h
theorem preB_end {bs : List Bk} {T : ByteArray} {q : Nat} {f : Bool} (h : PreB T.data.toList bs T q f) (hf : f = true ∨ q = T.size) : (f = false ∧ rsB T.data.toList = bs ∧ rsC T.data.toList = 0) ∨ (f = true ∧ rsB T.data.toList = [] ∧ rsC T.data.toList = 5) := by
  rcases h with ⟨h1, h2, h3, h4⟩ | ⟨h1, h2⟩
  · rcases hf with h | h
    · rw [h] at h1; cases h1
    · rw [restT_end (p := q) (by omega), List.append_nil] at h4
      exact .inl ⟨h1, rs_yes ⟨h2, h3, h4⟩⟩
  · exact .inr ⟨h1, rs_no h2⟩
end Go.Proofs.YtkojnepgeegalaaDoor
