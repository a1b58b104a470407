/- Moves ahead of a text: when there are such, and when none. No condition. -/
import Derived.Test.YtkojnepgeegalaaDoorRdB0
namespace Go.Proofs.YtkojnepgeegalaaDoor
set_option linter.unusedSimpArgs false
set_option linter.unusedVariables false
set_option maxRecDepth 100000
open Go.RowKit

def mvN (m : Nat × Nat) : List UInt8 := dec (m.1 : Int) ++ 62 :: dec (m.2 : Int)
def MvOk (m : Nat × Nat) : Prop := m.1 ≤ 99 ∧ m.2 ≤ 99
/-- A text of moves. -/
structure MvP (L : List UInt8) (ms : List (Nat × Nat)) : Prop where
  ok : ∀ m ∈ ms, MvOk m
  len : ms.length ≤ 200
  eq : L = joinL 32 (ms.map mvN)
theorem mvN_ne (m : Nat × Nat) : mvN m ≠ [] := by unfold mvN; simp
theorem mvN_app (m : Nat × Nat) (r : List UInt8) : mvN m ++ r = dec (m.1 : Int) ++ 62 :: (dec (m.2 : Int) ++ r) := by
  unfold mvN
  simp only [List.append_assoc, List.cons_append]
theorem mv_apart {m m' : Nat × Nat} {r r' : List UInt8} (hr : NoDig r) (hr' : NoDig r') (e : mvN m ++ r = mvN m' ++ r') : m = m' ∧ r = r' := by
  rw [mvN_app, mvN_app] at e
  obtain ⟨h1, h2⟩ := tok_apart (by decide) (by omega) (by omega) e
  obtain ⟨h3, h4⟩ := dec_apart (by omega) (by omega) hr hr' h2
  refine ⟨?_, h4⟩
  cases m
  cases m'
  simp only at h1 h3
  rw [show _ = _ from Int.ofNat.inj h1, show _ = _ from Int.ofNat.inj h3]
theorem mv_inj {m m' : Nat × Nat} (e : mvN m = mvN m') : m = m' :=
  (mv_apart (r := []) (r' := []) trivial trivial (by rw [List.append_nil, List.append_nil]; exact e)).1
theorem mv_map_inj : ∀ (ms ms' : List (Nat × Nat)), ms.map mvN = ms'.map mvN → ms = ms'
  | [], [], _ => rfl
  | [], m :: t, h => by simp at h
  | m :: t, [], h => by simp at h
  | m :: t, m' :: t', h => by
    rw [List.map_cons, List.map_cons] at h
    injection h with e1 e2
    rw [mv_inj e1, mv_map_inj t t' e2]
theorem mvN_no (m : Nat × Nat) : (32 : UInt8) ∉ mvN m := by
  unfold mvN
  simp only [List.mem_append, List.mem_cons, not_or]
  exact ⟨dig_not (by decide), by decide, dig_not (by decide)⟩
theorem mvN_split (m : Nat × Nat) : splitL 62 (mvN m) = [dec (m.1 : Int), dec (m.2 : Int)] := by
  unfold mvN
  rw [split_word _ _ (dig_not (by decide)), split_last _ (dig_not (by decide))]
theorem mvs_split {ms : List (Nat × Nat)} (h : ms ≠ []) : splitL 32 (joinL 32 (ms.map mvN)) = ms.map mvN :=
  split_join _ (by simpa using h) (fun w hw => by
    obtain ⟨m, _, rfl⟩ := List.mem_map.1 hw
    exact mvN_no m)
theorem join_nil_iff {ms : List (Nat × Nat)} (h : joinL 32 (ms.map mvN) = []) : ms = [] := by
  match ms with
  | [] => rfl
  | [m] => exact absurd h (mvN_ne m)
  | m :: v :: t =>
    rw [List.map_cons, join_cons (by simp)] at h
    simp at h
theorem MvP.split {L : List UInt8} {ms : List (Nat × Nat)} (h : MvP L ms) (hL : L ≠ []) : splitL 32 L = ms.map mvN := by
  rw [h.eq]
  exact mvs_split (fun e => hL (by rw [h.eq, e]; rfl))
theorem MvP.nil {ms : List (Nat × Nat)} (h : MvP [] ms) : ms = [] := join_nil_iff h.eq.symm
theorem mvP_uniq {L : List UInt8} {ms ms' : List (Nat × Nat)} (h : MvP L ms) (h' : MvP L ms') : ms = ms' := by
  by_cases hL : L = []
  · subst hL
    rw [h.nil, h'.nil]
  · exact mv_map_inj _ _ ((h.split hL).symm.trans (h'.split hL))
open Classical in
noncomputable def rmZ (L : List UInt8) : List (Nat × Nat) := if h : ∃ ms, MvP L ms then Classical.choose h else []
open Classical in
noncomputable def rmC (L : List UInt8) : Int := if ∃ ms, MvP L ms then 0 else 5
theorem rm_yes {L : List UInt8} {ms : List (Nat × Nat)} (h : MvP L ms) : rmZ L = ms ∧ rmC L = 0 := by
  have hx : ∃ ms, MvP L ms := ⟨ms, h⟩
  unfold rmZ rmC
  rw [dif_pos hx, if_pos hx]
  exact ⟨mvP_uniq (Classical.choose_spec hx) h, rfl⟩
theorem rm_no {L : List UInt8} (h : ∀ ms, ¬ MvP L ms) : rmZ L = [] ∧ rmC L = 5 := by
  have hx : ¬ ∃ ms, MvP L ms := fun ⟨ms, e⟩ => h ms e
  unfold rmZ rmC
  rw [dif_neg hx, if_neg hx]
  exact ⟨rfl, rfl⟩
theorem rmZ_len (L : List UInt8) : (rmZ L).length ≤ 300 := by
  by_cases h : ∃ ms, MvP L ms
  · obtain ⟨ms, h⟩ := h
    have := h.len
    rw [(rm_yes h).1]
    omega
  · rw [(rm_no (fun ms e => h ⟨ms, e⟩)).1]
    simp
def tailM : List (Nat × Nat) → List UInt8
  | [] => []
  | m :: t => 32 :: joinL 32 ((m :: t).map mvN)
theorem join_mv_cons (m : Nat × Nat) (t : List (Nat × Nat)) : joinL 32 ((m :: t).map mvN) = mvN m ++ tailM t := by
  cases t with
  | nil => show mvN m = mvN m ++ []; rw [List.append_nil]
  | cons v t => rw [List.map_cons, join_cons (by simp)]; rfl
theorem noDig_tailM (t : List (Nat × Nat)) : NoDig (tailM t) := by
  cases t with
  | nil => trivial
  | cons m t => exact noDig_c (by decide) _
theorem mv_prefix : ∀ (ms ms' : List (Nat × Nat)) (R : List UInt8), ms ≠ [] → NoDig R → joinL 32 (ms.map mvN) ++ R = joinL 32 (ms'.map mvN) → ∃ more, ms' = ms ++ more ∧ R = tailM more
  | [], _, _, h, _, _ => absurd rfl h
  | m :: t, [], R, _, _, e => by
    rw [join_mv_cons] at e
    have := (List.append_eq_nil_iff.1 (show (mvN m ++ tailM t) ++ R = [] from e)).1
    exact absurd (List.append_eq_nil_iff.1 this).1 (mvN_ne m)
  | [m], m' :: t', R, _, hR, e => by
    rw [join_mv_cons, join_mv_cons] at e
    simp only [tailM, List.append_nil] at e
    obtain ⟨h1, h2⟩ := mv_apart hR (noDig_tailM t') e
    exact ⟨t', by rw [h1]; rfl, h2⟩
  | m :: v :: t, m' :: t', R, _, hR, e => by
    rw [join_mv_cons, join_mv_cons, List.append_assoc] at e
    obtain ⟨h1, h2⟩ := mv_apart (noDig_c (c := 32) (by decide) _) (noDig_tailM t') (show mvN m ++ (32 :: (joinL 32 ((v :: t).map mvN) ++ R)) = mvN m' ++ tailM t' from e)
    match t', h2 with
    | [], h2 => cases h2
    | v' :: t', h2 =>
      injection h2 with _ h3
      obtain ⟨more, h4, h5⟩ := mv_prefix (v :: t) (v' :: t') R (by simp) hR h3
      exact ⟨more, by rw [h1, h4]; rfl, h5⟩
theorem join_mv_snoc (ms : List (Nat × Nat)) (m : Nat × Nat) : joinL 32 ((ms ++ [m]).map mvN) = joinL 32 (ms.map mvN) ++ ((if ms = [] then [] else [32]) ++ mvN m) := by
  by_cases h : ms = []
  · subst h; rfl
  · rw [List.map_append, List.map_cons, List.map_nil, join_snoc _ _ (by simpa using h), if_neg h]
    rfl
/-- What reading a move says. -/
def MoveS (T : ByteArray) (q : Nat) (f : Bool) (a b : Nat) (q2 : Nat) (f2 : Bool) : Prop :=
  MvOk (a, b) ∧ ((f2 = false ∧ f = false ∧ restT T q = mvN (a, b) ++ restT T q2 ∧ NoDig (restT T q2)) ∨ (f2 = true ∧ (f = false → ∀ (m : Nat × Nat) r, MvOk m → NoDig r → restT T q ≠ mvN m ++ r)))
theorem num_in {T : ByteArray} {q q1 : Nat} {f f1 : Bool} {most n : Int} (hm : 0 ≤ most) (hn : NumR T q f most n q1 f1) : 0 ≤ n ∧ n ≤ most := by
  rcases hn with ⟨h1, _⟩ | ⟨_, h1, _⟩
  · exact ⟨h1.2.2.1, h1.2.2.2⟩
  · omega
theorem moveS_of {T : ByteArray} {q q1 q2 q3 : Nat} {f f1 f2 f3 : Bool} {a b : Nat} (h1 : NumR T q f 99 (a : Int) q1 f1) (h2 : SkipS T q1 f1 62 q2 f2) (h3 : NumR T q2 f2 99 (b : Int) q3 f3) : MoveS T q f a b q3 f3 := by
  have ra := num_in (by omega) h1
  have rb := num_in (by omega) h3
  refine ⟨⟨by show a ≤ 99; omega, by show b ≤ 99; omega⟩, ?_⟩
  rcases h1 with ⟨k1, _, e1⟩ | ⟨k1, _, e1⟩
  · rcases h2 with ⟨k2, p2, e2⟩ | ⟨k2, e2⟩
    · rcases h3 with ⟨k3, _, e3⟩ | ⟨k3, _, e3⟩
      · have ef : f3 = f := by rw [e3, e2, e1]
        have hx : restT T q = mvN (a, b) ++ restT T q3 := by rw [k1.1, k2, ← p2, k3.1, mvN_app]
        cases f
        · exact .inl ⟨ef, rfl, hx, k3.2.1⟩
        · exact .inr ⟨ef, fun h => by cases h⟩
      · refine .inr ⟨e3, fun _ m r hm hr e => ?_⟩
        rw [mvN_app, k1.1, k2, ← p2] at e
        obtain ⟨_, h5⟩ := tok_apart (by decide) k1.2.2.1 (by omega) e
        exact k3 _ _ ⟨h5, hr, by omega, by have := hm.2; omega⟩
    · refine .inr ⟨?_, fun _ m r hm hr e => ?_⟩
      · rcases h3 with ⟨_, _, e3⟩ | ⟨_, _, e3⟩
        · rw [e3]; exact e2
        · exact e3
      · rw [mvN_app] at e
        have := numOk_uniq (b := 99) k1 ⟨e, noDig_c (by decide) _, by omega, by have := hm.1; omega⟩
        exact k2 _ this.2
  · refine .inr ⟨?_, fun _ m r hm hr e => ?_⟩
    · have e2 : f2 = true := skip_true h2 e1
      rcases h3 with ⟨_, _, e3⟩ | ⟨_, _, e3⟩
      · rw [e3]; exact e2
      · exact e3
    · rw [mvN_app] at e
      exact k1 _ _ ⟨e, noDig_c (by decide) _, by omega, by have := hm.1; omega⟩
/-- Moves stand ahead; or the text is none. -/
def PreM (L : List UInt8) (ms : List (Nat × Nat)) (T : ByteArray) (q : Nat) (f : Bool) : Prop :=
  (f = false ∧ (∀ m ∈ ms, MvOk m) ∧ ms.length ≤ 200 ∧ L = joinL 32 (ms.map mvN) ++ restT T q ∧ (ms ≠ [] → NoDig (restT T q))) ∨ (f = true ∧ ∀ ms', ¬ MvP L ms')
theorem preM_zero (T : ByteArray) : PreM T.data.toList [] T 0 false := .inl ⟨rfl, fun _ h => by simp at h, by simp, rfl, fun h => absurd rfl h⟩
/-- One move more. -/
theorem preM_step {L : List UInt8} {ms : List (Nat × Nat)} {T : ByteArray} {q q1 q2 : Nat} {f1 f2 f3 : Bool} {a b : Nat} (h : PreM L ms T q false) (hq : restT T q ≠ []) (hs : (ms = [] ∧ q1 = q ∧ f1 = false) ∨ (ms ≠ [] ∧ SkipS T q false 32 q1 f1)) (hm : MoveS T q1 f1 a b q2 f2) (h3 : f3 = (f2 || decide (200 < ms.length + 1))) : PreM L (ms ++ [(a, b)]) T q2 f3 := by
  rcases h with ⟨_, h1, h2, h4, h5⟩ | ⟨h, _⟩
  · have good : f1 = false → restT T q = (if ms = [] then [] else [32]) ++ restT T q1 := fun e => by
      rcases hs with ⟨k1, k2, _⟩ | ⟨k1, k2⟩
      · rw [if_pos k1, k2]; rfl
      · rw [if_neg k1]
        rcases k2 with ⟨k3, k4, _⟩ | ⟨_, k3⟩
        · rw [k3, k4]; rfl
        · rw [e] at k3; cases k3
    have bad : ∀ ms', MvP L ms' → f1 = false ∧ ∃ m t, ms' = ms ++ m :: t ∧ restT T q1 = mvN m ++ tailM t := fun ms' hp => by
      rcases hs with ⟨k1, k2, k3⟩ | ⟨k1, k2⟩
      · subst k1
        match ms', hp with
        | [], hp =>
          rw [hp.eq] at h4
          exact absurd h4.symm hq
        | m :: t, hp =>
          refine ⟨k3, m, t, rfl, ?_⟩
          rw [k2, ← join_mv_cons, ← hp.eq]
          exact h4.symm
      · obtain ⟨more, e1, e2⟩ := mv_prefix ms ms' _ k1 (h5 k1) (h4.symm.trans hp.eq)
        match more, e1, e2 with
        | [], _, e2 => exact absurd e2 hq
        | m :: t, e1, e2 =>
          rcases k2 with ⟨k3, k4, k5⟩ | ⟨k3, _⟩
          · refine ⟨k5, m, t, e1, ?_⟩
            rw [k3, ← k4] at e2
            injection e2 with _ e3
            rw [e3, join_mv_cons]
          · exact absurd e2 (k3 _)
    obtain ⟨mo, hm⟩ := hm
    rcases hm with ⟨m1, m2, m3, m4⟩ | ⟨m1, m2⟩
    · have hx : L = joinL 32 ((ms ++ [(a, b)]).map mvN) ++ restT T q2 := by
        rw [join_mv_snoc, h4, good m2, m3]
        simp only [List.append_assoc]
      by_cases hl : 200 < ms.length + 1
      · refine .inr ⟨by rw [h3, decide_eq_true hl]; simp, fun ms' hp => ?_⟩
        obtain ⟨_, m, t, e, _⟩ := bad ms' hp
        have := hp.len
        rw [e, List.length_append, List.length_cons] at this
        omega
      · refine .inl ⟨by rw [h3, m1, decide_eq_false hl]; rfl, fun m hm => ?_, by rw [List.length_append, List.length_singleton]; omega, hx, fun _ => m4⟩
        rcases List.mem_append.1 hm with h | h
        · exact h1 m h
        · rw [List.mem_singleton] at h; rw [h]; exact mo
    · refine .inr ⟨by rw [h3, m1]; rfl, fun ms' hp => ?_⟩
      obtain ⟨e0, m, t, e, e2⟩ := bad ms' hp
      exact m2 e0 m _ (hp.ok m (by rw [e]; simp)) (noDig_tailM t) e2
  · cases h
theorem preM_end {ms : List (Nat × Nat)} {T : ByteArray} {q : Nat} {f : Bool} (h : PreM T.data.toList ms T q f) (hf : f = true ∨ q = T.size) : (f = false ∧ rmZ T.data.toList = ms ∧ rmC T.data.toList = 0) ∨ (f = true ∧ rmZ T.data.toList = [] ∧ rmC T.data.toList = 5) := by
  rcases h with ⟨h1, h2, h3, h4, _⟩ | ⟨h1, h2⟩
  · rcases hf with h | h
    · rw [h] at h1; cases h1
    · rw [restT_end (p := q) (by omega), List.append_nil] at h4
      exact .inl ⟨h1, rm_yes ⟨h2, h3, h4⟩⟩
  · exact .inr ⟨h1, rm_no h2⟩
end Go.Proofs.YtkojnepgeegalaaDoor
