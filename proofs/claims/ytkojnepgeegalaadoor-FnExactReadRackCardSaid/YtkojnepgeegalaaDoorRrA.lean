/- Racks: valid ones, their places, copies, comparisons and marks, by the model and by the program; a rack in a text: contracts. Condition: as they stand in each. -/
import Derived.Test.YtkojnepgeegalaaDoorRdC0
import Derived.Test.YtkojnepgeegalaaDoorRkD
import Derived.Shelf.GgSortFunc.RowK
import Derived.Test.YtkojnepgeegalaaDoorToBookS
import Derived.Test.YtkojnepgeegalaaDoorOpen
import Derived.Laws.OwnMore
import Derived.Maps.AppendAt
import Derived.Test.YtkojnepgeegalaaDoorQuiet
import Derived.Test.YtkojnepgeegalaaDoorNums
import Derived.Test.YtkojnepgeegalaaDoorRuns
import Derived.Test.YtkojnepgeegalaaDoorPl
import Derived.Deep.Cut
import Derived.Stop.IfaceNil
import Derived.IntWalk
import Derived.Test.YtkojnepgeegalaaDoorFields
namespace Go.Proofs.YtkojnepgeegalaaDoor
set_option linter.unusedSimpArgs false
set_option linter.unusedVariables false
set_option maxRecDepth 100000

section
open Go.RowKit

def plTx (x : Pl) : List UInt8 := dec x.p ++ 32 :: bookT x.b
def PlOk (x : Pl) : Prop := (0 ≤ x.p ∧ x.p ≤ 9999) ∧ bookB x.b = true
def plsT : List Pl → List UInt8
  | [] => []
  | x :: t => plTx x ++ 10 :: plsT t
def rackT (r : Rk) : List UInt8 := dec r.n ++ 10 :: plsT r.ps
structure RcP (L : List UInt8) (r : Rk) : Prop where
  ok : rkB r = true
  eq : L = rackT r
theorem plTx_app (x : Pl) (m : List UInt8) : plTx x ++ m = dec x.p ++ 32 :: (bookT x.b ++ m) := by
  unfold plTx
  simp only [List.append_assoc, List.cons_append]
theorem pl_apart {x x' : Pl} {m m' : List UInt8} (h : PlOk x) (h' : PlOk x') (hm : NoDig m) (hm' : NoDig m') (e : plTx x ++ m = plTx x' ++ m') : x = x' ∧ m = m' := by
  rw [plTx_app, plTx_app] at e
  obtain ⟨e1, e2⟩ := tok_apart (by decide) h.1.1 h'.1.1 e
  obtain ⟨e3, e4⟩ := bookT_uniq h.2 h'.2 hm hm' e2
  refine ⟨?_, e4⟩
  cases x
  cases x'
  simp only at e1 e3
  rw [e1, e3]
theorem pls_prefix : ∀ (ps ps' : List Pl) (R : List UInt8), (∀ x ∈ ps, PlOk x) → (∀ x ∈ ps', PlOk x) → plsT ps ++ R = plsT ps' → ∃ more, ps' = ps ++ more ∧ R = plsT more
  | [], ps', R, _, _, e => ⟨ps', rfl, e⟩
  | x :: t, [], R, _, _, e => by
    have h := (List.append_eq_nil_iff.1 e).1
    unfold plsT at h
    simp at h
  | x :: t, x' :: t', R, h, h', e => by
    have e1 : plTx x ++ (10 :: (plsT t ++ R)) = plTx x' ++ (10 :: plsT t') := by
      have : plsT (x :: t) ++ R = plTx x ++ (10 :: (plsT t ++ R)) := by
        show (plTx x ++ 10 :: plsT t) ++ R = _
        simp only [List.append_assoc, List.cons_append]
      rw [← this]
      exact e
    obtain ⟨h1, h2⟩ := pl_apart (h x (by simp)) (h' x' (by simp)) (noDig_ten _) (noDig_ten _) e1
    injection h2 with _ h3
    obtain ⟨more, h4, h5⟩ := pls_prefix t t' R (fun y hy => h y (by simp [hy])) (fun y hy => h' y (by simp [hy])) h3
    exact ⟨more, by rw [h1, h4]; rfl, h5⟩
theorem plsT_snoc : ∀ (ps : List Pl) (x : Pl), plsT (ps ++ [x]) = plsT ps ++ (plTx x ++ [10])
  | [], x => rfl
  | y :: t, x => by
    show plTx y ++ 10 :: plsT (t ++ [x]) = (plTx y ++ 10 :: plsT t) ++ (plTx x ++ [10])
    rw [plsT_snoc t x]
    simp only [List.append_assoc, List.cons_append]
theorem plsT_nil {ps : List Pl} (h : plsT ps = []) : ps = [] := by
  cases ps with
  | nil => rfl
  | cons x t => unfold plsT at h; simp at h
theorem okB_mem {xs : List Bk} (h : okB xs = true) : ∀ b ∈ xs, bookB b = true := by
  unfold okB at h
  simp only [Bool.and_eq_true, List.all_eq_true] at h
  exact h.1
theorem RcP.pls {L : List UInt8} {r : Rk} (h : RcP L r) : ∀ x ∈ r.ps, PlOk x ∧ x.p < r.n := fun x hx => by
  obtain ⟨h1, h2, h3, _⟩ := rkB_of h.ok
  obtain ⟨i, hi, e⟩ := List.getElem_of_mem hx
  have g1 := h2.ge i hi hi
  have g2 := (h2 i hi hi).2
  rw [e] at g1 g2
  exact ⟨⟨⟨by omega, by omega⟩, okB_mem h3 _ (List.mem_map.2 ⟨x, hx, rfl⟩)⟩, by omega⟩
theorem RcP.n {L : List UInt8} {r : Rk} (h : RcP L r) : 1 ≤ r.n ∧ r.n ≤ 60 := (rkB_of h.ok).1
theorem rcP_uniq {L : List UInt8} {r r' : Rk} (h : RcP L r) (h' : RcP L r') : r = r' := by
  have e := h.eq.symm.trans h'.eq
  have a := h.n
  have b := h'.n
  unfold rackT at e
  obtain ⟨e1, e2⟩ := dec_apart (by omega) (by omega) (noDig_ten _) (noDig_ten _) e
  injection e2 with _ e3
  obtain ⟨more, e4, e5⟩ := pls_prefix r.ps r'.ps [] (fun x hx => (h.pls x hx).1) (fun x hx => (h'.pls x hx).1) (by rw [List.append_nil]; exact e3)
  rw [plsT_nil e5.symm, List.append_nil] at e4
  cases r
  cases r'
  simp only at e1 e4
  rw [e1, e4]
def zeroRk : Rk := ⟨0, []⟩
open Classical in
noncomputable def rrV (L : List UInt8) : Rk := if h : ∃ r, RcP L r then Classical.choose h else zeroRk
open Classical in
noncomputable def rrK (L : List UInt8) : Int := if ∃ r, RcP L r then 0 else 5
theorem rr_yes {L : List UInt8} {r : Rk} (h : RcP L r) : rrV L = r ∧ rrK L = 0 := by
  have hx : ∃ r, RcP L r := ⟨r, h⟩
  unfold rrV rrK
  rw [dif_pos hx, if_pos hx]
  exact ⟨rcP_uniq (Classical.choose_spec hx) h, rfl⟩
theorem rr_no {L : List UInt8} (h : ∀ r, ¬ RcP L r) : rrV L = zeroRk ∧ rrK L = 5 := by
  have hx : ¬ ∃ r, RcP L r := fun ⟨r, e⟩ => h r e
  unfold rrV rrK
  rw [dif_neg hx, if_neg hx]
  exact ⟨rfl, rfl⟩
theorem rrV_len (L : List UInt8) : (rrV L).ps.length ≤ 60 := by
  by_cases h : ∃ r, RcP L r
  · obtain ⟨r, h⟩ := h
    rw [(rr_yes h).1]
    exact rkB_len h.ok
  · rw [(rr_no (fun r e => h ⟨r, e⟩)).1]
    simp [zeroRk]
/-! ### by the reader -/
def PlS (T : ByteArray) (p : Nat) (f : Bool) (x : Pl) (q : Nat) (f' : Bool) : Prop :=
  (f' = false ∧ f = false ∧ PlOk x ∧ restT T p = plTx x ++ restT T q ∧ NoDig (restT T q)) ∨ (f' = true ∧ (f = false → ∀ x' m, PlOk x' → NoDig m → restT T p ≠ plTx x' ++ m))
theorem plS_of {T : ByteArray} {p q1 q2 : Nat} {f f1 f2 : Bool} {a : Int} {b : Bk} (h1 : TokS 32 T p f a q1 f1) (h2 : BookS T q1 f1 b q2 f2) : PlS T p f ⟨a, b⟩ q2 f2 := by
  rcases h1 with ⟨e1, e0, n1, t1⟩ | ⟨e1, k⟩
  · rcases h2 with ⟨e2, _, k3, t2, k5⟩ | ⟨e2, k⟩
    · exact .inl ⟨e2, e0, ⟨n1, k3⟩, by rw [plTx_app, t1, t2], k5⟩
    · refine .inr ⟨e2, fun _ x' m hx hm e => ?_⟩
      rw [plTx_app, t1] at e
      obtain ⟨_, e3⟩ := tok_apart (by decide) n1.1 hx.1.1 e
      exact k e1 x'.b m hx.2 hm e3
  · refine .inr ⟨?_, fun e0 x' m hx hm e => ?_⟩
    · rcases h2 with ⟨_, e2, _⟩ | ⟨e2, _⟩
      · rw [e2] at e1; cases e1
      · exact e2
    · rw [plTx_app] at e
      exact k e0 _ _ hx.1.1 hx.1.2 e
/-- A rack's head and books stand ahead; or the text is none. -/
def PreR (L : List UInt8) (n : Int) (ps : List Pl) (T : ByteArray) (q : Nat) (f : Bool) : Prop :=
  (f = false ∧ (0 ≤ n ∧ n ≤ 9999) ∧ (∀ x ∈ ps, PlOk x) ∧ L = (dec n ++ 10 :: plsT ps) ++ restT T q) ∨ (f = true ∧ ∀ r, ¬ RcP L r)
theorem preR_head {T : ByteArray} {n : Int} {q : Nat} {f : Bool} (h : TokS 10 T 0 false n q f) : PreR T.data.toList n [] T q f := by
  rcases h with ⟨e1, _, n1, t1⟩ | ⟨e1, k⟩
  · refine .inl ⟨e1, n1, fun _ h => by simp at h, ?_⟩
    have : T.data.toList = dec n ++ 10 :: restT T q := t1
    rw [this]
    simp only [plsT, List.append_assoc, List.cons_append, List.nil_append]
  · refine .inr ⟨e1, fun r hp => ?_⟩
    have hn := hp.n
    exact k rfl r.n (plsT r.ps) (by omega) (by omega) hp.eq
theorem preR_in {L : List UInt8} {n : Int} {ps : List Pl} {T : ByteArray} {q : Nat} (hn : 0 ≤ n ∧ n ≤ 9999) (ho : ∀ x ∈ ps, PlOk x) (hL : L = (dec n ++ 10 :: plsT ps) ++ restT T q) {r : Rk} (hp : RcP L r) : r.n = n ∧ ∃ more, r.ps = ps ++ more ∧ restT T q = plsT more := by
  have e := hp.eq
  rw [hL] at e
  unfold rackT at e
  rw [List.append_assoc, List.cons_append] at e
  have hb := hp.n
  obtain ⟨e1, e2⟩ := dec_apart (by omega) (by omega) (noDig_ten _) (noDig_ten _) e
  injection e2 with _ e3
  obtain ⟨more, e4, e5⟩ := pls_prefix ps r.ps _ ho (fun x hx => (hp.pls x hx).1) e3
  exact ⟨e1.symm, more, e4, e5⟩
theorem preR_step {L : List UInt8} {n : Int} {ps : List Pl} {T : ByteArray} {q q1 q2 : Nat} {f1 f2 : Bool} {x : Pl} (h : PreR L n ps T q false) (hq : restT T q ≠ []) (hb : PlS T q false x q1 f1) (hs : SkipS T q1 f1 10 q2 f2) : PreR L n (ps ++ [x]) T q2 f2 := by
  rcases h with ⟨_, hn, h1, h4⟩ | ⟨h, _⟩
  · have bad : ∀ r, RcP L r → ∃ c t, PlOk c ∧ restT T q = plTx c ++ 10 :: plsT t := fun r hp => by
      obtain ⟨_, more, e1, e2⟩ := preR_in hn h1 h4 hp
      match more, e1, e2 with
      | [], _, e2 => exact absurd e2 hq
      | c :: t, e1, e2 => exact ⟨c, t, (hp.pls c (by rw [e1]; simp)).1, e2⟩
    rcases hb with ⟨m1, _, m3, m4, m5⟩ | ⟨m1, m2⟩
    · rcases hs with ⟨k1, k2, k3⟩ | ⟨k1, k2⟩
      · refine .inl ⟨k3.trans m1, hn, fun c hc => ?_, ?_⟩
        · rcases List.mem_append.1 hc with h | h
          · exact h1 c h
          · rw [List.mem_singleton] at h; rw [h]; exact m3
        · rw [plsT_snoc, h4, m4, k1, k2]
          simp only [List.append_assoc, List.cons_append, List.nil_append]
      · refine .inr ⟨k2, fun r hp => ?_⟩
        obtain ⟨c, t, hc, e2⟩ := bad r hp
        have := (pl_apart m3 hc m5 (noDig_ten _) (m4.symm.trans e2)).2
        exact k1 _ this
    · refine .inr ⟨skip_true hs m1, fun r hp => ?_⟩
      obtain ⟨c, t, hc, e2⟩ := bad r hp
      exact m2 rfl c _ hc (noDig_ten _) e2
  · cases h
theorem preR_end {n : Int} {ps : List Pl} {T : ByteArray} {q : Nat} {f f2 : Bool} (h : PreR T.data.toList n ps T q f) (hf : f = true ∨ q = T.size ∨ 60 < ps.length) (h2 : f2 = (f || !rkB ⟨n, ps⟩)) : (f2 = false ∧ RcP T.data.toList ⟨n, ps⟩) ∨ (f2 = true ∧ ∀ r, ¬ RcP T.data.toList r) := by
  rcases h with ⟨h1, hn, h3, h4⟩ | ⟨h1, h3⟩
  · rw [h1, Bool.false_or] at h2
    by_cases hl : 60 < ps.length
    · have hb : rkB ⟨n, ps⟩ = false := by
        cases hv : rkB ⟨n, ps⟩
        · rfl
        · have := rkB_len hv
          have h5 : ps.length ≤ 60 := this
          omega
      refine .inr ⟨by rw [h2, hb]; rfl, fun r hp => ?_⟩
      obtain ⟨_, more, e1, _⟩ := preR_in hn h3 h4 hp
      have := rkB_len hp.ok
      rw [e1, List.length_append] at this
      omega
    · have hq : q = T.size := by
        rcases hf with h | h | h
        · rw [h1] at h; cases h
        · exact h
        · exact absurd h hl
      have e4 := h4
      rw [restT_end (p := q) (by omega), List.append_nil] at e4
      cases hv : rkB ⟨n, ps⟩
      · refine .inr ⟨by rw [h2, hv]; rfl, fun r hp => ?_⟩
        obtain ⟨e1, more, e2, e3⟩ := preR_in hn h3 h4 hp
        rw [restT_end (p := q) (by omega)] at e3
        rw [plsT_nil e3.symm, List.append_nil] at e2
        have er : r = ⟨n, ps⟩ := by cases r; simp only at e1 e2; rw [e1, e2]
        rw [← er, hp.ok] at hv
        cases hv
      · exact .inl ⟨by rw [h2, hv]; rfl, hv, e4⟩
  · rw [h1] at h2
    exact .inr ⟨by rw [h2]; rfl, h3⟩
/-! ### by lines -/
theorem plTx_no {x : Pl} (h : PlOk x) : (10 : UInt8) ∉ plTx x := by
  unfold plTx
  simp only [List.mem_append, List.mem_cons, not_or]
  exact ⟨dig_not (by decide), by decide, bookT_no h.2⟩
theorem plsT_split : ∀ (ps : List Pl), (∀ x ∈ ps, PlOk x) → splitL 10 (plsT ps) = ps.map plTx ++ [[]]
  | [], _ => rfl
  | x :: t, h => by
    show splitL 10 (plTx x ++ 10 :: plsT t) = _
    rw [split_word _ _ (plTx_no (h x (by simp))), plsT_split t (fun y hy => h y (by simp [hy]))]
    rfl
theorem RcP.split {L : List UInt8} {r : Rk} (h : RcP L r) : splitL 10 L = dec r.n :: (r.ps.map plTx ++ [[]]) := by
  rw [h.eq]
  unfold rackT
  rw [split_word _ _ (dig_not (by decide)), plsT_split _ (fun x hx => (h.pls x hx).1)]
theorem plsT_join : ∀ (ps : List Pl), joinL 10 (ps.map plTx ++ [[]]) = plsT ps
  | [] => rfl
  | x :: t => by
    rw [List.map_cons, List.cons_append, join_cons (by simp), plsT_join t]
    rfl
theorem rc_of_split {L : List UInt8} {n : Int} {ps : List Pl} (hk : rkB ⟨n, ps⟩ = true) (e : splitL 10 L = dec n :: (ps.map plTx ++ [[]])) : RcP L ⟨n, ps⟩ := by
  refine ⟨hk, ?_⟩
  unfold rackT
  rw [← join_split 10 L, e, join_cons (by simp), plsT_join]
end

section
open Go.RowKit

def bkq (q : List Pc) : List Bk := (whr true q).map (fun z => (q.getD z.toNat default).b)
def plq (q : List Pc) : List Pl := (whr true q).map (fun z => ⟨z, (q.getD z.toNat default).b⟩)
theorem bkq_plc {n : Nat} {ps : List Pl} (hp : PosTo n ps ps.length) : bkq (plc n ps) = bks ps := by
  unfold bkq bks
  rw [whr_true hp, List.map_map]
  refine List.map_congr_left fun x hx => ?_
  obtain ⟨i, hi, rfl⟩ := List.getElem_of_mem hx
  have := plc_at hp (Nat.le_refl _) i hi hi
  simp only [Function.comp_apply, plc, getD_pc this]
theorem plq_plc {n : Nat} {ps : List Pl} (hp : PosTo n ps ps.length) : plq (plc n ps) = ps := by
  unfold plq
  rw [whr_true hp, List.map_map]
  conv => rhs; rw [← List.map_id ps]
  refine List.map_congr_left fun x hx => ?_
  obtain ⟨i, hi, rfl⟩ := List.getElem_of_mem hx
  have := plc_at hp (Nat.le_refl _) i hi hi
  simp only [Function.comp_apply, plc, getD_pc this, id]
theorem bkq_length (q : List Pc) : (bkq q).length = (whr true q).length := by simp [bkq]
theorem plq_length (q : List Pc) : (plq q).length = (whr true q).length := by simp [plq]
theorem whr_length (t : Bool) (q : List Pc) : (whr t q).length ≤ q.length := whereTo_length t q _
theorem whr_mem {t : Bool} {q : List Pc} {z : Int} (h : z ∈ whr t q) : 0 ≤ z ∧ z < (q.length : Int) := whereTo_mem t q _ z h
theorem map_take_succ {α β : Type} (f : α → β) (l : List α) (k : Nat) (h : k < l.length) : (l.map f).take (k + 1) = (l.map f).take k ++ [f l[k]] := by
  rw [List.take_succ_eq_append_getElem (by simpa using h)]
  simp

/-! ### room for a book -/
def rmTo (n : Int) (ps : List Pl) (i : Nat) : Int := if i < ps.length then (ps.getD i default).p else n
/-- The books up to c are those that b does not come ahead of. -/
def Parts (b : Bk) (ps : List Pl) (c : Nat) : Prop := c ≤ ps.length ∧ (∀ (i : Nat) (hi : i < ps.length), i < c → 0 ≤ usual b ps[i].b) ∧ (∀ (i : Nat) (hi : i < ps.length), c ≤ i → usual b ps[i].b < 0)
def frs (b : Bk) (q : List Pc) : Nat → Int
  | 0 => 0
  | j + 1 => if (q.getD j default).t = true ∧ 0 ≤ usual b (q.getD j default).b then (j : Int) + 1 else frs b q j
theorem frs_bd (b : Bk) (q : List Pc) : ∀ j, 0 ≤ frs b q j ∧ frs b q j ≤ (j : Int)
  | 0 => ⟨Int.le_refl _, Int.le_refl _⟩
  | j + 1 => by
    have := frs_bd b q j
    rw [frs]
    split <;> omega
theorem plc_book {n : Nat} {ps : List Pl} (hp : PosTo n ps ps.length) {i j : Nat} (hi : i < ps.length) (e : ps[i].p = (j : Int)) : ((plc n ps).getD j default).t = true ∧ ((plc n ps).getD j default).b = ps[i].b := by
  have := plc_at hp (Nat.le_refl _) i hi hi
  rw [e, Int.toNat_natCast] at this
  have h2 : (plc n ps).getD j default = ⟨true, ps[i].b⟩ := getD_pc this
  rw [h2]
  exact ⟨rfl, rfl⟩
theorem frs_eq {n : Nat} {ps : List Pl} {b : Bk} {m : Nat} (hp : PosTo n ps ps.length) (hm : Parts b ps m) : ∀ j, j ≤ n → ∃ c, c ≤ ps.length ∧ (∀ (i : Nat) (hi : i < ps.length), i < c → ps[i].p < (j : Int)) ∧ (∀ (i : Nat) (hi : i < ps.length), c ≤ i → (j : Int) ≤ ps[i].p) ∧ frs b (plc n ps) j = lstP ps (min c m)
  | 0, _ => ⟨0, Nat.zero_le _, fun _ _ h => absurd h (Nat.not_lt_zero _), fun i hi _ => by have := hp.ge i hi hi; omega, by rw [Nat.zero_min]; rfl⟩
  | j + 1, hj => by
    obtain ⟨c, hc, h1, h2, h3⟩ := frs_eq hp hm j (by omega)
    rw [frs, h3]
    by_cases hcl : c < ps.length
    · by_cases e : ps[c].p = (j : Int)
      · obtain ⟨e1, e2⟩ := plc_book hp hcl e
        refine ⟨c + 1, by omega, fun i hi hic => ?_, fun i hi hic => ?_, ?_⟩
        · by_cases e3 : i = c
          · subst e3; omega
          · have := h1 i hi (by omega); omega
        · have := hp.lt c i hi (by omega) hi
          omega
        · rw [e1, e2]
          by_cases hcm : c < m
          · rw [if_pos ⟨rfl, hm.2.1 c hcl hcm⟩, show min (c + 1) m = c + 1 by omega, lstP_succ hcl]
            omega
          · have := hm.2.2 c hcl (by omega)
            rw [if_neg (by omega), show min (c + 1) m = min c m by omega]
      · have h4 := h2 c hcl (Nat.le_refl _)
        have hno : tkB ps j = false := tkB_no (fun i hi e1 => by
          by_cases hic : i < c
          · have := h1 i hi hic; omega
          · by_cases e2 : i = c
            · subst e2; exact e e1
            · have := hp.lt c i hi (by omega) hi
              omega)
        have ht := plc_tk hp (j := j) (by omega)
        rw [hno] at ht
        refine ⟨c, hc, fun i hi hic => by have := h1 i hi hic; omega, fun i hi hic => ?_, ?_⟩
        · by_cases e1 : i = c
          · subst e1; omega
          · have := hp.lt c i hi (by omega) hi
            omega
        · rw [if_neg (by rw [ht]; simp)]
    · have hno : tkB ps j = false := tkB_no (fun i hi e1 => by have := h1 i hi (by omega); omega)
      have ht := plc_tk hp (j := j) (by omega)
      rw [hno] at ht
      refine ⟨c, hc, fun i hi hic => by have := h1 i hi hic; omega, fun i hi hic => by omega, ?_⟩
      rw [if_neg (by rw [ht]; simp)]
theorem frs_all {n : Nat} {ps : List Pl} {b : Bk} {m : Nat} (hp : PosTo n ps ps.length) (hm : Parts b ps m) : frs b (plc n ps) n = lstP ps m := by
  obtain ⟨c, hc, h1, h2, h3⟩ := frs_eq hp hm n (Nat.le_refl _)
  have e : c = ps.length := by
    by_cases hcl : c < ps.length
    · have := h2 c hcl (Nat.le_refl _)
      have := (hp c hcl hcl).2
      omega
    · omega
  have := hm.1
  rw [h3, e, show min ps.length m = m by omega]
theorem room_free {n : Nat} {ps : List Pl} {m : Nat} (hp : PosTo n ps ps.length) (hm : m ≤ ps.length) {j : Nat} (h1 : lstP ps m ≤ (j : Int)) (h2 : (j : Int) < rmTo n ps m) : tkB ps j = false := by
  refine tkB_no fun i hi e => ?_
  by_cases him : i < m
  · cases m with
    | zero => omega
    | succ m =>
      rw [lstP_succ (by omega)] at h1
      by_cases e1 : i = m
      · subst e1; omega
      · have := hp.lt i m (by omega) (by omega) (by omega)
        omega
  · unfold rmTo at h2
    by_cases hml : m < ps.length
    · rw [if_pos hml, getD_pl hml] at h2
      by_cases e1 : i = m
      · subst e1; omega
      · have := hp.lt m i hi (by omega) hi
        omega
    · omega
theorem room_le {n : Nat} {ps : List Pl} {m : Nat} (hp : PosTo n ps ps.length) (hm : m ≤ ps.length) : 0 ≤ lstP ps m ∧ lstP ps m ≤ rmTo n ps m ∧ rmTo n ps m ≤ n := by
  have h0 := hp.mono hm |>.next hm
  refine ⟨h0, ?_⟩
  unfold rmTo
  by_cases hml : m < ps.length
  · rw [if_pos hml, getD_pl hml]
    have := hp m hml hml
    omega
  · rw [if_neg hml]
    cases m with
    | zero => rw [lstP_zero]; omega
    | succ m =>
      rw [lstP_succ (by omega)]
      have := hp m (by omega) (by omega)
      omega
theorem room_end {n : Nat} {ps : List Pl} {m : Nat} (hml : m < ps.length) {j : Nat} (h : (j : Int) = rmTo n ps m) : tkB ps j = true := by
  unfold rmTo at h
  rw [if_pos hml, getD_pl hml] at h
  exact tkB_yes hml h.symm

/-! ### rows -/
def lrow (t : Bool) (ps : List Pl) : Nat → Int × Int × Int
  | 0 => (0, 0, 0)
  | j + 1 =>
    let s := lrow t ps j
    if tkB ps j != t then (s.1, s.2.1, (j : Int) + 1)
    else if s.2.1 < (j : Int) - s.2.2 + 1 then (s.2.2, (j : Int) - s.2.2 + 1, s.2.2)
    else s
theorem lrow_bd (t : Bool) (ps : List Pl) : ∀ j, (0 ≤ (lrow t ps j).1 ∧ (lrow t ps j).1 ≤ (j : Int)) ∧ (0 ≤ (lrow t ps j).2.1 ∧ (lrow t ps j).2.1 ≤ (j : Int)) ∧ (0 ≤ (lrow t ps j).2.2 ∧ (lrow t ps j).2.2 ≤ (j : Int))
  | 0 => ⟨⟨Int.le_refl _, Int.le_refl _⟩, ⟨Int.le_refl _, Int.le_refl _⟩, ⟨Int.le_refl _, Int.le_refl _⟩⟩
  | j + 1 => by
    have := lrow_bd t ps j
    rw [lrow]
    split
    · simp only; omega
    · split
      · simp only; omega
      · omega
theorem lrow_other {t : Bool} {ps : List Pl} {j : Nat} (h : (tkB ps j != t) = true) : lrow t ps (j + 1) = ((lrow t ps j).1, (lrow t ps j).2.1, (j : Int) + 1) := by rw [lrow]; rw [if_pos h]
theorem lrow_more {t : Bool} {ps : List Pl} {j : Nat} (h : (tkB ps j != t) = false) (h2 : (lrow t ps j).2.1 < (j : Int) - (lrow t ps j).2.2 + 1) : lrow t ps (j + 1) = ((lrow t ps j).2.2, (j : Int) - (lrow t ps j).2.2 + 1, (lrow t ps j).2.2) := by
  rw [lrow]; rw [if_neg (by rw [h]; simp), if_pos h2]
theorem lrow_less {t : Bool} {ps : List Pl} {j : Nat} (h : (tkB ps j != t) = false) (h2 : ¬ (lrow t ps j).2.1 < (j : Int) - (lrow t ps j).2.2 + 1) : lrow t ps (j + 1) = lrow t ps j := by
  rw [lrow]; rw [if_neg (by rw [h]; simp), if_neg h2]
end

section
open Go.RowKit

theorem PosTo.mem {n : Int} {ps : List Pl} (h : PosTo n ps ps.length) : ∀ x ∈ ps, 0 ≤ x.p ∧ x.p ≤ n - 1 := by
  intro x hx
  obtain ⟨i, hi, rfl⟩ := List.getElem_of_mem hx
  have := h.ge i hi hi
  exact ⟨by omega, (h i hi hi).2⟩
theorem PosTo.pw {n : Int} {ps : List Pl} (h : PosTo n ps ps.length) : ps.Pairwise (fun a b => a.p < b.p) := by
  rw [List.pairwise_iff_getElem]
  intro i j hi hj hij
  exact h.lt i j hj hij hj
theorem posTo_of {n : Int} {ps : List Pl} (hr : ∀ x ∈ ps, 0 ≤ x.p ∧ x.p ≤ n - 1) (hs : ps.Pairwise (fun a b => a.p < b.p)) : PosTo n ps ps.length := by
  rw [List.pairwise_iff_getElem] at hs
  intro i hi _
  have h0 := hr _ (List.getElem_mem hi)
  refine ⟨?_, h0.2⟩
  cases i with
  | zero => rw [lstP_zero]; exact h0.1
  | succ i =>
    rw [lstP_succ (by omega)]
    have := hs i (i + 1) (by omega) hi (by omega)
    omega
theorem plc_mem {n : Nat} {ps : List Pl} (hp : PosTo n ps ps.length) {x : Pl} (hx : x ∈ ps) : (plc n ps)[x.p.toNat]? = some ⟨true, x.b⟩ := by
  obtain ⟨i, hi, rfl⟩ := List.getElem_of_mem hx
  exact plc_at hp (Nat.le_refl _) i hi hi
theorem plc_non {n : Nat} {ps : List Pl} (hp : PosTo n ps ps.length) {j : Nat} (hj : j < n) (h : ∀ x ∈ ps, x.p ≠ (j : Int)) : (plc n ps)[j]? = some pc0 :=
  plc_free hp (Nat.le_refl _) j hj (fun i hi _ => h _ (List.getElem_mem hi))
theorem plc_length (n : Nat) (ps : List Pl) : (plc n ps).length = n := plcTo_length n ps _
theorem plc_ext {n : Nat} {ps : List Pl} {q : List Pc} (hp : PosTo n ps ps.length) (hl : q.length = n) (h1 : ∀ x ∈ ps, q[x.p.toNat]? = some ⟨true, x.b⟩) (h2 : ∀ j : Nat, j < n → (∀ x ∈ ps, x.p ≠ (j : Int)) → q[j]? = some pc0) : q = plc n ps := by
  refine List.ext_getElem? fun j => ?_
  by_cases hj : j < n
  · by_cases hx : ∃ x ∈ ps, x.p = (j : Int)
    · obtain ⟨x, hx, e⟩ := hx
      have a := h1 x hx
      have b := plc_mem hp hx
      rw [e, Int.toNat_natCast] at a b
      rw [a, b]
    · have hx' : ∀ x ∈ ps, x.p ≠ (j : Int) := fun x h e => hx ⟨x, h, e⟩
      rw [h2 j hj hx', plc_non hp hj hx']
  · rw [List.getElem?_eq_none (by omega), List.getElem?_eq_none (by rw [plc_length]; omega)]

/-! ### taking out -/
def outL (ps : List Pl) (a : Int) : List Pl := ps.filter (fun x => x.p != a)
theorem outL_pos {n : Int} {ps : List Pl} (hp : PosTo n ps ps.length) (a : Int) : PosTo n (outL ps a) (outL ps a).length :=
  posTo_of (fun x hx => hp.mem x (List.mem_filter.1 hx).1) (hp.pw.filter _)
theorem out_plc {n : Nat} {ps : List Pl} (hp : PosTo n ps ps.length) (a : Nat) (ha : a < n) : (plc n ps).set a pc0 = plc n (outL ps a) := by
  refine plc_ext (outL_pos hp a) (by rw [List.length_set, plc_length]) (fun x hx => ?_) (fun j hj hx => ?_)
  · obtain ⟨h1, h2⟩ := List.mem_filter.1 hx
    have h3 : x.p ≠ (a : Int) := by simpa using h2
    have := (hp.mem x h1).1
    rw [List.getElem?_set_ne (by omega)]
    exact plc_mem hp h1
  · by_cases e : a = j
    · subst e
      rw [List.getElem?_set_self (by rw [plc_length]; exact ha)]
    · rw [List.getElem?_set_ne e]
      refine plc_non hp hj fun x h1 h2 => hx x (List.mem_filter.2 ⟨h1, by simp; omega⟩) h2
theorem outL_len (ps : List Pl) (a : Int) : (outL ps a).length ≤ ps.length := List.length_filter_le _ _
theorem outL_same {ps : List Pl} {a : Nat} : (outL ps a).length = ps.length ↔ tkB ps a = false := by
  unfold outL
  rw [List.length_filter_eq_length_iff]
  unfold tkB
  rw [List.any_eq_false]
  simp

/-! ### parts -/
def loL (ps : List Pl) (a : Int) : List Pl := ps.filter (fun x => decide (x.p < a))
def hiL (ps : List Pl) (a : Int) : List Pl := (ps.filter (fun x => !decide (x.p < a))).map (fun x => ⟨x.p - a, x.b⟩)
theorem loL_pos {n a : Int} {ps : List Pl} (hp : PosTo n ps ps.length) : PosTo a (loL ps a) (loL ps a).length :=
  posTo_of (fun x hx => by
    have h := List.mem_filter.1 hx
    have := (hp.mem x h.1).1
    have h2 := h.2
    simp at h2
    omega) (hp.pw.filter _)
theorem hiL_pos {n a : Int} {ps : List Pl} (hp : PosTo n ps ps.length) : PosTo (n - a) (hiL ps a) (hiL ps a).length := by
  refine posTo_of (fun x hx => ?_) ?_
  · obtain ⟨y, hy, rfl⟩ := List.mem_map.1 hx
    have h := List.mem_filter.1 hy
    have := (hp.mem y h.1).2
    have h2 := h.2
    simp at h2
    simp only
    omega
  · unfold hiL
    rw [List.pairwise_map]
    exact (hp.pw.filter _).imp (fun h => by simp only; omega)
theorem lo_plc {n a : Nat} {ps : List Pl} (hp : PosTo n ps ps.length) (ha : a ≤ n) : (plc n ps).take a = plc a (loL ps a) := by
  refine plc_ext (loL_pos hp) (by rw [List.length_take, plc_length]; omega) (fun x hx => ?_) (fun j hj hx => ?_)
  · have h := List.mem_filter.1 hx
    have h2 := h.2
    simp at h2
    have := (hp.mem x h.1).1
    rw [List.getElem?_take, if_pos (by omega)]
    exact plc_mem hp h.1
  · rw [List.getElem?_take, if_pos hj]
    refine plc_non hp (by omega) fun x h1 h2 => hx x (List.mem_filter.2 ⟨h1, by simp; omega⟩) h2
theorem hi_plc {n a : Nat} {ps : List Pl} (hp : PosTo n ps ps.length) (ha : a ≤ n) : (plc n ps).drop a = plc (n - a) (hiL ps a) := by
  have hh : PosTo ((n - a : Nat) : Int) (hiL ps a) (hiL ps a).length := by
    have := hiL_pos (a := (a : Int)) hp
    rwa [show (n : Int) - (a : Int) = ((n - a : Nat) : Int) by omega] at this
  refine plc_ext hh (by rw [List.length_drop, plc_length]) (fun x hx => ?_) (fun j hj hx => ?_)
  · obtain ⟨y, hy, rfl⟩ := List.mem_map.1 hx
    have h := List.mem_filter.1 hy
    have h2 := h.2
    simp at h2
    have := hp.mem y h.1
    rw [List.getElem?_drop]
    have e := plc_mem hp h.1
    simp only
    rw [show a + (y.p - (a : Int)).toNat = y.p.toNat by omega]
    exact e
  · rw [List.getElem?_drop]
    refine plc_non hp (by omega) fun x h1 h2 => hx ⟨x.p - a, x.b⟩ (List.mem_map.2 ⟨x, List.mem_filter.2 ⟨h1, by simp; omega⟩, rfl⟩) (by simp only; omega)

/-! ### joined -/
def shL (ps : List Pl) (a : Int) : List Pl := ps.map (fun x => ⟨a + x.p, x.b⟩)
theorem joinL_pos {n m : Int} {ps qs : List Pl} (hp : PosTo n ps ps.length) (hq : PosTo m qs qs.length) (h0 : 0 ≤ n) (h1 : 0 ≤ m) : PosTo (n + m) (ps ++ shL qs n) (ps ++ shL qs n).length := by
  refine posTo_of (fun x hx => ?_) ?_
  · rcases List.mem_append.1 hx with h | h
    · have := hp.mem x h; omega
    · obtain ⟨y, hy, rfl⟩ := List.mem_map.1 h
      have := hq.mem y hy
      simp only
      omega
  · rw [List.pairwise_append]
    refine ⟨hp.pw, ?_, fun x hx y hy => ?_⟩
    · unfold shL
      rw [List.pairwise_map]
      exact hq.pw.imp (fun h => by simp only; omega)
    · obtain ⟨z, hz, rfl⟩ := List.mem_map.1 hy
      have := hp.mem x hx
      have := hq.mem z hz
      simp only
      omega
theorem join_plc {n m : Nat} {ps qs : List Pl} (hp : PosTo n ps ps.length) (hq : PosTo m qs qs.length) : plc n ps ++ plc m qs = plc (n + m) (ps ++ shL qs n) := by
  have hj : PosTo ((n + m : Nat) : Int) (ps ++ shL qs n) (ps ++ shL qs n).length := by
    have := joinL_pos hp hq (by omega) (by omega)
    rwa [show (n : Int) + (m : Int) = ((n + m : Nat) : Int) by omega] at this
  refine plc_ext hj (by rw [List.length_append, plc_length, plc_length]) (fun x hx => ?_) (fun j hj hx => ?_)
  · rcases List.mem_append.1 hx with h | h
    · have := hp.mem x h
      rw [List.getElem?_append_left (by rw [plc_length]; omega)]
      exact plc_mem hp h
    · obtain ⟨y, hy, rfl⟩ := List.mem_map.1 h
      have := hq.mem y hy
      simp only
      rw [List.getElem?_append_right (by rw [plc_length]; omega), plc_length, show ((n : Int) + y.p).toNat - n = y.p.toNat by omega]
      exact plc_mem hq hy
  · by_cases e : j < n
    · rw [List.getElem?_append_left (by rw [plc_length]; omega)]
      exact plc_non hp e fun x h => hx x (List.mem_append_left _ h)
    · rw [List.getElem?_append_right (by rw [plc_length]; omega), plc_length]
      exact plc_non hq (by omega) fun x h h2 => hx ⟨n + x.p, x.b⟩ (List.mem_append_right _ (List.mem_map.2 ⟨x, h, rfl⟩)) (by simp only; omega)

/-! ### spread -/
def sprP (n len i : Nat) : Nat := (2 * i + 1) * n / (2 * len)
def sprTo (n : Nat) (xs : List Bk) : Nat → List Pl
  | 0 => []
  | k + 1 => sprTo n xs k ++ [⟨(sprP n xs.length k : Nat), xs.getD k default⟩]
def sprL (n : Nat) (xs : List Bk) : List Pl := sprTo n xs xs.length
theorem sprTo_length (n : Nat) (xs : List Bk) : ∀ k, (sprTo n xs k).length = k
  | 0 => rfl
  | k + 1 => by rw [sprTo, List.length_append, sprTo_length n xs k]; rfl
theorem sprP_lt {n len i : Nat} (hi : i < len) (hn : 0 < n) : sprP n len i < n := by
  unfold sprP
  rw [Nat.div_lt_iff_lt_mul (by omega)]
  have : 2 * i + 1 < 2 * len := by omega
  calc (2 * i + 1) * n < 2 * len * n := Nat.mul_lt_mul_of_pos_right this hn
    _ = n * (2 * len) := Nat.mul_comm _ _
theorem sprP_mono {n len i : Nat} (h : len ≤ n) (h0 : 0 < len) : sprP n len i < sprP n len (i + 1) := by
  unfold sprP
  have e : (2 * (i + 1) + 1) * n = (2 * i + 1) * n + 2 * n := by rw [show 2 * (i + 1) + 1 = (2 * i + 1) + 2 by omega, Nat.add_mul]
  rw [e]
  have h1 : (2 * i + 1) * n / (2 * len) + 1 = ((2 * i + 1) * n + 2 * len) / (2 * len) := by rw [Nat.add_div_right _ (by omega)]
  have h2 : ((2 * i + 1) * n + 2 * len) / (2 * len) ≤ ((2 * i + 1) * n + 2 * n) / (2 * len) := Nat.div_le_div_right (by omega)
  omega
theorem sprP_lt_of {n len : Nat} (h : len ≤ n) (h0 : 0 < len) {i : Nat} : ∀ {j : Nat}, i < j → sprP n len i < sprP n len j
  | 0, hij => absurd hij (Nat.not_lt_zero _)
  | j + 1, hij => by
    have := sprP_mono (i := j) h h0
    by_cases e : i = j
    · subst e; exact this
    · exact Nat.lt_trans (sprP_lt_of h h0 (by omega)) this
theorem sprTo_get (n : Nat) (xs : List Bk) : ∀ (k i : Nat) (h : i < (sprTo n xs k).length), (sprTo n xs k)[i] = ⟨(sprP n xs.length i : Nat), xs.getD i default⟩
  | 0, i, h => absurd h (Nat.not_lt_zero _)
  | k + 1, i, h => by
    have hl := sprTo_length n xs (k + 1)
    have hl2 := sprTo_length n xs k
    by_cases e : i < k
    · simp only [sprTo]
      rw [List.getElem_append_left (by omega)]
      exact sprTo_get n xs k i (by omega)
    · obtain rfl : i = k := by omega
      simp only [sprTo]
      rw [List.getElem_append_right (by omega)]
      simp [hl2]
theorem sprL_at {n : Nat} {xs : List Bk} {i : Nat} (h : i < (sprL n xs).length) : (sprL n xs)[i] = ⟨(sprP n xs.length i : Nat), xs.getD i default⟩ := sprTo_get _ _ _ _ _
theorem sprL_pos {n : Nat} {xs : List Bk} (h : xs.length ≤ n) : PosTo n (sprL n xs) (sprL n xs).length := by
  have hl : (sprL n xs).length = xs.length := sprTo_length _ _ _
  refine posTo_of (fun x hx => ?_) ?_
  · obtain ⟨i, hi, rfl⟩ := List.getElem_of_mem hx
    have := sprP_lt (n := n) (len := xs.length) (i := i) (by omega) (by omega)
    rw [sprL_at]
    simp only
    omega
  · rw [List.pairwise_iff_getElem]
    intro i j hi hj hij
    have := sprP_lt_of (n := n) (len := xs.length) h (by omega) hij
    rw [sprL_at, sprL_at]
    simp only
    omega
theorem sprL_len (n : Nat) (xs : List Bk) : (sprL n xs).length = xs.length := sprTo_length _ _ _
theorem sprL_bks {n : Nat} {xs : List Bk} : bks (sprL n xs) = xs := by
  refine List.ext_getElem (by rw [bks_length, sprL_len]) fun i h1 h2 => ?_
  rw [bks_get]
  rw [sprL_at]
  simp only
  rw [List.getD_eq_getElem?_getD, List.getElem?_eq_getElem h2]
  rfl
end

section
open Go.RowKit Go.Sort

theorem cells_len (b : Bk) : b.cells.length = 8 := rfl
theorem cells_one (b : Bk) : ∀ v ∈ b.cells, v.oneCell' = true := by
  intro v hv
  simp [Bk.cells] at hv
  rcases hv with rfl | rfl | rfl | rfl | rfl | rfl | rfl | rfl <;> rfl
def flatB (xs : List Bk) : List Value := (flatK Bk.cells 8 xs.toArray).toList
theorem flatB_length (xs : List Bk) : (flatB xs).length = xs.length * 8 := by simp [flatB]
theorem flatB_get {xs : List Bk} {j : Nat} {u : Value} (h : (flatB xs)[j]? = some u) : ∃ (hi : j / 8 < xs.length), (xs[j / 8].cells)[j % 8]? = some u := by
  have hj : j < xs.length * 8 := by rw [← flatB_length]; exact (List.getElem?_eq_some_iff.1 h).1
  have hi : j / 8 < xs.length := by omega
  refine ⟨hi, ?_⟩
  unfold flatB flatK at h
  simp [hj] at h
  have e : xs.toArray[j / 8]! = xs[j / 8] := by simp [hi]
  have e2 : xs[j / 8]! = xs[j / 8] := by simp [hi]
  have hm : j % 8 < (xs[j / 8].cells).length := by rw [cells_len]; omega
  rw [List.getElem?_eq_getElem hm]
  first
    | (obtain ⟨_, h⟩ := h; rw [← h]; simp [hi, hm])
    | (rw [← h]; simp [hi, hm])
theorem flatB_one (xs : List Bk) : ∀ u ∈ flatB xs, u.oneCell' = true := by
  intro u hu
  obtain ⟨j, hj, e⟩ := List.getElem_of_mem hu
  obtain ⟨hi, h⟩ := flatB_get ((List.getElem?_eq_getElem hj).trans (congrArg some e))
  exact cells_one _ u (List.mem_of_getElem? h)
theorem flat_cells {w : World} {b o : Nat} {xs : List Bk} (h : BooksAt w b o xs) : ∀ j u, (flatB xs)[j]? = some u → w.cell? ⟨b, o + j, none⟩ = some u := by
  intro j u hu
  obtain ⟨hi, h1⟩ := flatB_get hu
  have := h (j / 8) hi (j % 8) u h1
  rwa [Nat.add_assoc, show j / 8 * 8 + j % 8 = j by omega] at this
end

section
open Go.RowKit

theorem ownsMono {w : World} {base base' : Nat} {e : TypeId} {size n : Nat} {v : Value} {xs : List Value} (h : w.ownsRow base e size v n xs) (hb : base' ≤ base) : w.ownsRow base' e size v n xs := by
  refine ⟨h.1, ?_⟩
  rcases h.2 with hn | ⟨g, cap, cur, hv, hbg, rest⟩
  · exact .inl hn
  · exact .inr ⟨g, cap, cur, hv, by omega, rest⟩

/-- A row of the call's own is kept while another block is written. -/
theorem ownsOther {w w' : World} {base : Nat} {e : TypeId} {size n : Nat} {v : Value} {xs : List Value} {row : Option Nat} (h : w.ownsRow base e size v n xs) (hg : w.grownBy w' row) (hne : ∀ k, v.ownBlock = some k → some k ≠ row) : w'.ownsRow base e size v n xs := by
  refine h.kept hg ?_
  cases hv : v.ownBlock with
  | none => exact .inl rfl
  | some k => exact .inr (hne k hv)

theorem vlen_own1 {w : World} {base : Nat} {e : TypeId} {v : Value} {n : Nat} {l : List Value} (h : w.ownsRow base e 1 v n l) : ∃ A c, v = .slice A n c := by
  rcases h.2 with ⟨rfl, rfl⟩ | ⟨g, cap, cur, rfl, _⟩
  · exact ⟨_, _, rfl⟩
  · exact ⟨_, _, rfl⟩
end

section
open Go.RowKit Go.Sort

/-- Block g is a row of n books, whatever they are. -/
def RowG (w : World) (g n : Nat) : Prop := ∃ cs : Array Value, w.heap[g]? = some (.cells cs 25 (0, 0)) ∧ cs.size = n * 8

theorem RowG.set {w : World} {g n : Nat} (h : RowG w g n) (o : Nat) (u : Value) : RowG (w.setCell ⟨g, o, none⟩ u) g n := by
  obtain ⟨cs, h1, h2⟩ := h
  exact ⟨_, heap_setCell_same _ _ _ _ _ _ h1, by simpa using h2⟩
theorem RowG.of {w : World} {g k n : Nat} {xs : List Bk} (h : RowK w g xs k n) : RowG w g n := by
  obtain ⟨cs, h1, h2, _⟩ := h
  exact ⟨cs, h1, h2⟩
theorem RowG.below {w w' : World} {B g n : Nat} (h : RowG w g n) (hb : Below B w w') (hg : g < B) : RowG w' g n := by
  obtain ⟨cs, h, h2⟩ := h
  exact ⟨cs, (hb.block g hg).trans h, h2⟩
theorem RowG.cell {w : World} {g n : Nat} (h : RowG w g n) (o : Nat) (ho : o < n * 8) : ∃ u, w.cell? ⟨g, o, none⟩ = some u := by
  obtain ⟨cs, h, h2⟩ := h
  rw [cell_of_row w g _ cs _ _ h]
  exact ⟨cs[o]'(by omega), Array.getElem?_eq_getElem (by omega)⟩
theorem RowG.frozen {w : World} {g n : Nat} (h : RowG w g n) (o : Nat) : w.frozen? ⟨g, o, none⟩ = false := by
  obtain ⟨cs, h, _⟩ := h
  exact frozen_of_row w g _ cs _ h
/-- A book that is marked from the number y on. -/
def mkV (y : Int) : Bk := ⟨IntKind.i16.wrap y, IntKind.u8.wrap (y + 1), IntKind.u8.wrap (y + 1 + 1), IntKind.u8.wrap (y + 1 + 1 + 1), IntKind.i16.wrap (y + 1 + 1 + 1 + 1), IntKind.i16.wrap (y + 1 + 1 + 1 + 1 + 1), IntKind.i16.wrap (y + 1 + 1 + 1 + 1 + 1 + 1), IntKind.i16.wrap (y + 1 + 1 + 1 + 1 + 1 + 1 + 1)⟩
def mkB (k0 : Int) (j : Nat) : Bk := mkV (k0 + 8 * (j : Int))
def mkL (k0 : Int) (n : Nat) : List Bk := (List.range n).map (mkB k0)
theorem mkL_length (k0 : Int) (n : Nat) : (mkL k0 n).length = n := by simp [mkL]
theorem mkL_get {k0 : Int} {n i : Nat} (h : i < (mkL k0 n).length) : (mkL k0 n)[i] = mkB k0 i := by simp [mkL]

/-- Block g is a row of n books, the first j of which are marked. -/
def RowM (k0 : Int) (w : World) (g n j : Nat) : Prop := ∃ cs : Array Value, w.heap[g]? = some (.cells cs 25 (0, 0)) ∧ cs.size = n * 8 ∧ ∀ i, i < j → ∀ r, r < 8 → cs[i * 8 + r]? = (mkB k0 i).cells[r]?
theorem RowM.of {k0 : Int} {w : World} {g n : Nat} (h : RowG w g n) : RowM k0 w g n 0 := by
  obtain ⟨cs, h1, h2⟩ := h
  exact ⟨cs, h1, h2, fun i hi => absurd hi (Nat.not_lt_zero _)⟩
theorem RowM.g {k0 : Int} {w : World} {g n j : Nat} (h : RowM k0 w g n j) : RowG w g n := by
  obtain ⟨cs, h1, h2, _⟩ := h
  exact ⟨cs, h1, h2⟩
set_option maxHeartbeats 1000000 in
theorem RowM.step {k0 : Int} {w : World} {g n j : Nat} (h : RowM k0 w g n j) (hj : j < n) (v0 v1 v2 v3 v4 v5 v6 v7 : Value) (e : (mkB k0 j).cells = [v0, v1, v2, v3, v4, v5, v6, v7]) :
    RowM k0 ((((((((w.setCell ⟨g, j * 8, none⟩ v0).setCell ⟨g, j * 8 + 1, none⟩ v1).setCell ⟨g, j * 8 + 2, none⟩ v2).setCell ⟨g, j * 8 + 3, none⟩ v3).setCell ⟨g, j * 8 + 4, none⟩ v4).setCell ⟨g, j * 8 + 5, none⟩ v5).setCell ⟨g, j * 8 + 6, none⟩ v6).setCell ⟨g, j * 8 + 7, none⟩ v7) g n (j + 1) := by
  obtain ⟨cs, h1, h2, h3⟩ := h
  have s0 := heap_setCell_same _ g (j * 8) _ _ v0 h1
  have s1 := heap_setCell_same _ g (j * 8 + 1) _ _ v1 s0
  have s2 := heap_setCell_same _ g (j * 8 + 2) _ _ v2 s1
  have s3 := heap_setCell_same _ g (j * 8 + 3) _ _ v3 s2
  have s4 := heap_setCell_same _ g (j * 8 + 4) _ _ v4 s3
  have s5 := heap_setCell_same _ g (j * 8 + 5) _ _ v5 s4
  have s6 := heap_setCell_same _ g (j * 8 + 6) _ _ v6 s5
  have s7 := heap_setCell_same _ g (j * 8 + 7) _ _ v7 s6
  refine ⟨_, s7, by simpa using h2, fun i hi r hr => ?_⟩
  clear s0 s1 s2 s3 s4 s5 s6 s7
  simp only [Array.getElem?_setIfInBounds, Array.size_setIfInBounds, h2]
  by_cases hij : i = j
  · subst hij
    rw [e]
    have : r = 0 ∨ r = 1 ∨ r = 2 ∨ r = 3 ∨ r = 4 ∨ r = 5 ∨ r = 6 ∨ r = 7 := by omega
    rcases this with rfl | rfl | rfl | rfl | rfl | rfl | rfl | rfl
    all_goals (repeat first | rw [if_neg (by omega)] | rw [if_pos (by omega), if_pos (by omega)] | rw [if_pos (by omega)])
    all_goals rfl
  · have hlt : i < j := by omega
    rw [if_neg (by omega), if_neg (by omega), if_neg (by omega), if_neg (by omega), if_neg (by omega), if_neg (by omega), if_neg (by omega), if_neg (by omega)]
    exact h3 i hlt r hr
theorem RowM.slice {k0 : Int} {w : World} {g n N : Nat} (h : RowM k0 w g N n) (c : Nat) : SliceOf w (.slice (some ⟨g, 0, none⟩) n c) (mkL k0 n) := by
  obtain ⟨cs, h1, h2, h3⟩ := h
  refine ⟨_, c, by rw [mkL_length], fun _ => ⟨g, 0, rfl, (Array.getElem?_eq_some_iff.1 h1).1, fun i hi j v hv => ?_⟩⟩
  rw [mkL_get] at hv
  have hj : j < 8 := by have := (List.getElem?_eq_some_iff.1 hv).1; simpa [Bk.cells] using this
  have hi' : i < n := by rw [mkL_length] at hi; exact hi
  rw [cell_of_row w g _ cs _ _ h1, Nat.zero_add, h3 i hi' j hj]
  exact hv

set_option maxHeartbeats 8000000 in
theorem markBookS_val (g n N c : Nat) (k0 : Int) (w : World) (h : RowG w g N) (hN : n ≤ N) (hn : n ≤ 1048576) (hk0 : 0 ≤ k0) (hk1 : k0 ≤ 9000000) :
    Calls Tryd.prog 16 #[.slice (some ⟨g, 0, none⟩) n c, .int .i64 k0] w fun e w' => e = .returned (.int .i64 (k0 + 8 * n)) ∧ RowM k0 w' g N n ∧ w.grownBy w' (some g) := by
  have HR := Lib.hid (RowM.of (k0 := k0) h)
  clear h
  go_enter Tryd.func16, Tryd.ntmps16
  go_wp2
  go_loopw [1, 5, 6] (fun x i _ wr => ∃ (j : Nat) (y : Int), y = k0 + 8 * (j : Int) ∧ j ≤ n ∧ i = .int .i64 j ∧ x = .int .i64 y ∧ RowM k0 wr g N j ∧ w.grownBy wr (some g)) (fun _ i _ _ => n - (intOf i).toNat)
  case atStart => exact ⟨0, k0, by simp, Nat.zero_le _, rfl, rfl, HR.out, World.grownBy.refl w _⟩
  case round =>
    obtain ⟨j, y, hy, hj, rfl, rfl, hm, hgr⟩ := hrel
    have HG := Lib.hid hgr
    have HW := Lib.hid hm
    have hrow := hm.g
    clear hgr hm
    by_cases hlt : j < n
    · obtain ⟨u0, c0⟩ := hrow.cell (j * 8) (by omega)
      obtain ⟨u1, c1⟩ := hrow.cell (j * 8 + 1) (by omega)
      obtain ⟨u2, c2⟩ := hrow.cell (j * 8 + 2) (by omega)
      obtain ⟨u3, c3⟩ := hrow.cell (j * 8 + 3) (by omega)
      obtain ⟨u4, c4⟩ := hrow.cell (j * 8 + 4) (by omega)
      obtain ⟨u5, c5⟩ := hrow.cell (j * 8 + 5) (by omega)
      obtain ⟨u6, c6⟩ := hrow.cell (j * 8 + 6) (by omega)
      obtain ⟨u7, c7⟩ := hrow.cell (j * 8 + 7) (by omega)
      have fz := hrow.frozen
      have hy0 : 0 ≤ y := by omega
      have hy1 : y ≤ 18000000 := by omega
      have HY := Lib.hid hy
      clear hrow hy
      go_wp2
      refine wp_loop_rounds 4 ?_
      rw [rounds_succ]; go_wp2
      rw [rounds_succ]; go_wp2
      rw [rounds_succ]; go_wp2
      rw [rounds_succ]; go_wp2
      go_roundw
      case rel => exact ⟨j + 1, y + 1 + 1 + 1 + 1 + 1 + 1 + 1 + 1, by have := HY.out; omega, by omega, by go_num, rfl, HW.out.step (Nat.lt_of_lt_of_le hlt hN) _ _ _ _ _ _ _ _ (by rw [mkB, ← HY.out]; rfl), only_set2 (only_set2 (only_set2 (only_set2 (only_set2 (only_set2 (only_set2 (only_set2 HG.out _ _) _ _) _ _) _ _) _ _) _ _) _ _) _ _⟩
      case measure => simp [intOf]; omega
    · obtain rfl : j = n := by omega
      have HY := Lib.hid hy
      clear hy hrow
      go_wp2
      go_ret
      exact ⟨by rw [← HY.out]; rfl, HW.out, HG.out⟩

set_option maxHeartbeats 8000000 in
theorem heldBookS_any (v : Value) (n : Nat) (k0 : Int) (w : World) (hn : n ≤ 1048576) (hk0 : 0 ≤ k0) (hk1 : k0 ≤ 9000000) (hs : SliceOf w v (mkL k0 n)) :
    Calls Tryd.prog 17 #[v, .int .i64 k0] w fun e w' => e = .returned (.int .i64 (k0 + 8 * n)) ∧ w = w' := by
  obtain ⟨A, c, rfl, hs⟩ := hs
  have el := mkL_length k0 n
  rw [el] at hs ⊢
  have HS := Lib.hid hs
  clear hs el
  go_enter Tryd.func17, Tryd.ntmps17
  go_wp2
  go_loopw [1, 5, 6] (fun x i _ wr => ∃ (j : Nat) (y : Int), y = k0 + 8 * (j : Int) ∧ j ≤ n ∧ i = .int .i64 j ∧ x = .int .i64 y ∧ wr = w) (fun _ i _ _ => n - (intOf i).toNat)
  case atStart => exact ⟨0, k0, by simp, Nat.zero_le _, rfl, rfl, rfl⟩
  case round =>
    obtain ⟨j, y, hy, hj, rfl, rfl, rfl⟩ := hrel
    by_cases hlt : j < n
    · obtain ⟨ga, oa, rfl, hga, hat⟩ := HS.out (by omega)
      have hjl : j < (mkL k0 n).length := by rw [mkL_length]; exact hlt
      obtain ⟨p0, p1, p2, p3, p4, p5, p6, p7⟩ := booksAt_some hat hjl
      rw [mkL_get hjl, mkB, ← hy] at p0 p1 p2 p3 p4 p5 p6 p7
      simp only [mkV] at p0 p1 p2 p3 p4 p5 p6 p7
      have hy0 : 0 ≤ y := by omega
      have hy1 : y ≤ 18000000 := by omega
      have HY := Lib.hid hy
      clear hy hat hjl
      go_wp2
      refine wp_loop_rounds 4 ?_
      rw [rounds_succ]; go_wp2
      rw [rounds_succ]; go_wp2
      rw [rounds_succ]; go_wp2
      rw [rounds_succ]; go_wp2
      go_roundw
      case rel => exact ⟨j + 1, y + 1 + 1 + 1 + 1 + 1 + 1 + 1 + 1, by have := HY.out; omega, by omega, by go_num, rfl, by first | rfl | trivial⟩
      case measure => simp [intOf]; omega
    · obtain rfl : j = n := by omega
      have HY := Lib.hid hy
      clear hy
      go_wp2
      go_ret
      exact ⟨by rw [← HY.out]; rfl, rfl⟩

/-- No list, or a block of its own. -/
def ResB (w : World) (base : Nat) (v : Value) (ys : List Bk) : Prop :=
  (v = .slice none 0 0 ∧ ys = []) ∨ ∃ g N, v = .slice (some ⟨g, 0, none⟩) ys.length N ∧ base ≤ g ∧ RowK w g ys ys.length N ∧ ys.length ≤ N
theorem RowK.at_ {w : World} {g N : Nat} {ys : List Bk} (h : RowK w g ys ys.length N) : BooksAt w g 0 ys := by
  obtain ⟨cs, h, _, h3⟩ := h
  intro i hi j v hv
  rw [cell_of_row w g _ cs _ _ h, Nat.zero_add]
  exact h3 i hi hi j v hv
theorem ResB.slice {w : World} {base : Nat} {v : Value} {ys : List Bk} (h : ResB w base v ys) : SliceOf w v ys := by
  rcases h with ⟨rfl, rfl⟩ | ⟨g, N, rfl, hb, hr, hn⟩
  · exact ⟨none, 0, rfl, fun h => absurd h (Nat.lt_irrefl _)⟩
  · exact ⟨_, N, rfl, fun _ => ⟨g, 0, rfl, hr.lt, hr.at_⟩⟩
theorem ResB.below {w w' : World} {base : Nat} {v : Value} {ys : List Bk} (h : ResB w base v ys) (hb : Below w.heap.size w w') : ResB w' base v ys := by
  rcases h with h | ⟨g, N, rfl, h1, hr, hn⟩
  · exact .inl h
  · exact .inr ⟨g, N, rfl, h1, hr.below hb hr.lt, hn⟩
theorem ResB.mono {w : World} {base base' : Nat} {v : Value} {ys : List Bk} (h : ResB w base v ys) (hb : base' ≤ base) : ResB w base' v ys := by
  rcases h with h | ⟨g, N, rfl, h1, hr, hn⟩
  · exact .inl h
  · exact .inr ⟨g, N, rfl, Nat.le_trans hb h1, hr, hn⟩
theorem ResB.lt {w : World} {base : Nat} {v : Value} {ys : List Bk} (h : ResB w base v ys) : ∀ k, v.ownBlock = some k → base ≤ k ∧ k < w.heap.size := by
  intro k hk
  rcases h with ⟨rfl, _⟩ | ⟨g, N, rfl, h1, hr, hn⟩
  · cases hk
  · obtain rfl : g = k := by injection hk
    exact ⟨h1, hr.lt⟩
theorem ResB.other {w w' : World} {base : Nat} {v : Value} {ys : List Bk} {row : Option Nat} (h : ResB w base v ys) (hg : w.grownBy w' row) (hne : ∀ k, v.ownBlock = some k → some k ≠ row) : ResB w' base v ys := by
  rcases h with h | ⟨g, N, rfl, h1, hr, hn⟩
  · exact .inl h
  · obtain ⟨cs, e1, e2⟩ := hr
    exact .inr ⟨g, N, rfl, h1, ⟨cs, (hg.block g (Array.getElem?_eq_some_iff.1 e1).1 (hne g rfl)).trans e1, e2⟩, hn⟩
theorem flatB_at {ys : List Bk} {i j : Nat} (hi : i < ys.length) (hj : j < 8) : (flatB ys)[i * 8 + j]? = (ys[i].cells)[j]? := by
  have hl : i * 8 + j < (flatB ys).length := by rw [flatB_length]; omega
  have hu : (flatB ys)[i * 8 + j]? = some (flatB ys)[i * 8 + j] := List.getElem?_eq_getElem hl
  obtain ⟨hi', h1⟩ := flatB_get hu
  have e1 : (i * 8 + j) / 8 = i := by omega
  have e2 : (i * 8 + j) % 8 = j := by omega
  simp only [e1, e2] at h1
  rw [hu, h1]
theorem rowK_of_own {w : World} {base g n cap : Nat} {ys : List Bk} (h : w.ownsRow base 25 8 (.slice (some ⟨g, 0, none⟩) n cap) n (flatB ys)) (hn : n = ys.length) : base ≤ g ∧ RowK w g ys ys.length cap ∧ ys.length ≤ cap := by
  rcases h.2 with ⟨h, _⟩ | ⟨g', cap', cur, h, hb, hg, hc, _, hs, ht⟩
  · cases h
  · injection h with h1 h2 h3
    injection h1 with h1
    injection h1 with h1
    subst h1 h3 hn
    refine ⟨hb, ⟨cur, hg, hs, fun i hi _ j v hv => ?_⟩, hc⟩
    have hj : j < 8 := by have := (List.getElem?_eq_some_iff.1 hv).1; rwa [cells_len] at this
    have e := flatB_at hi hj
    rw [← ht, List.getElem?_take, if_pos (by omega), Array.getElem?_toList] at e
    rw [e]
    exact hv
theorem ResB.of {w : World} {base n : Nat} {v : Value} {ys : List Bk} (h : w.ownsRow base 25 8 v n (flatB ys)) (hn : n = ys.length) : ResB w base v ys := by
  rcases h.2 with ⟨rfl, h0⟩ | ⟨g, cap, cur, rfl, _⟩
  · exact .inl ⟨rfl, List.eq_nil_of_length_eq_zero (by omega)⟩
  · obtain ⟨h1, h2, h3⟩ := rowK_of_own h hn
    exact .inr ⟨g, cap, by rw [hn], h1, h2, h3⟩

theorem RowM.row {k0 : Int} {w : World} {g n N : Nat} (h : RowM k0 w g N n) : RowK w g (mkL k0 n) n N := by
  obtain ⟨cs, h1, h2, h3⟩ := h
  refine ⟨cs, h1, h2, fun i hi hik j v hv => ?_⟩
  rw [mkL_get] at hv
  have hj : j < 8 := by have := (List.getElem?_eq_some_iff.1 hv).1; rwa [cells_len] at this
  rw [h3 i hik j hj]
  exact hv

set_option maxHeartbeats 1000000 in
theorem markRes_any (v : Value) (ys : List Bk) (base : Nat) (k0 : Int) (w : World) (h : ResB w base v ys) (hn : ys.length ≤ 1048576) (hk0 : 0 ≤ k0) (hk1 : k0 ≤ 9000000) :
    Calls Tryd.prog 16 #[v, .int .i64 k0] w fun e w' => e = .returned (.int .i64 (k0 + 8 * (ys.length : Nat))) ∧ ResB w' base v (mkL k0 ys.length) ∧ w.grownBy w' v.ownBlock := by
  rcases h with ⟨rfl, rfl⟩ | ⟨g, N, rfl, h1, hr, hN⟩
  · go_enter Tryd.func16, Tryd.ntmps16
    go_wp2
    refine wp_loop_rounds 1 ?_
    rw [rounds_succ]
    go_wp2
    go_ret
    exact ⟨by simp, .inl ⟨rfl, rfl⟩, World.grownBy.refl w _⟩
  · refine (markBookS_val g ys.length N N k0 w ⟨_, hr.choose_spec.1, hr.choose_spec.2.1⟩ hN hn hk0 hk1).mono ?_
    rintro e w' ⟨rfl, hm, hg⟩
    exact ⟨rfl, .inr ⟨g, N, by rw [mkL_length], h1, by rw [mkL_length]; exact hm.row, by rw [mkL_length]; exact hN⟩, hg⟩
end

section
open Go.RowKit

theorem infoInt64 : (Tryd.prog.info? 2).map (fun i => (i.zero, i.size, i.bytes)) = some (some (.int .i64 0), 1, 8) := by kernel_rfl

set_option maxHeartbeats 4000000 in
theorem runsOf_any (v0 : Value) (xs : List Bk) (wf : ∀ b ∈ xs, b.Wf) (w : World) (hs : SliceOf w v0 xs) (hn : xs.length ≤ 1048576) :
    Calls Tryd.prog 96 #[v0] w fun e w' => ∃ v, e = .returned v ∧ w'.ownsRow w.heap.size 2 1 v (runs xs).length ((runs xs).map (Value.int .i64)) ∧ Below w.heap.size w w' := by
  obtain ⟨A, c, rfl, hs⟩ := hs
  obtain ⟨i0, hi, hz0, hz1, hz2⟩ := info_parts infoInt64
  have HS := Lib.hid hs
  have WF := Lib.hid wf
  have H0 := Lib.hid (show w.ownsRow w.heap.size 2 1 (.slice none 0 0) (runsTo xs 0).length ((runsTo xs 0).map (Value.int .i64)) from ⟨rfl, .inl ⟨rfl, rfl⟩⟩)
  clear hs wf
  go_enter Tryd.func96, Tryd.ntmps96
  go_wp2
  go_loopw [3, 7, 4] (fun v i _ wr => ∃ (k : Nat) (x : Int), x = k ∧ k ≤ xs.length ∧ i = .int .i64 x ∧ wr.ownsRow w.heap.size 2 1 v (runsTo xs k).length ((runsTo xs k).map (Value.int .i64)) ∧ Below w.heap.size w wr) (fun _ i _ _ => xs.length - (intOf i).toNat)
  case atStart => exact ⟨0, 0, rfl, Nat.zero_le _, rfl, H0.out, Below.refl _ _⟩
  case round =>
    obtain ⟨k, x, hx, hk, rfl, hown, hb⟩ := hrel
    have OW0 := Lib.hid hown
    clear hown
    by_cases hlt : k < xs.length
    · have hlt' := hlt
      obtain ⟨ga, oa, rfl, hga, hat⟩ := HS.out (by omega)
      have zg := Nat.lt_of_lt_of_le hga hb.size
      rcases k with _ | m
      · obtain rfl : x = 0 := by simpa using hx
        clear hx hat
        go_wp2
        refine wp_region_below (by kernel_rfl) (by kernel_rfl) ?_
        repeat (first | go_big_quiet_step (fail) | quiet_step (fail))
        refine wpQuiet_nil ?_
        rintro wq ⟨⟨_, hq⟩, rfl⟩
        have g1 := hb.trans (hq.mono hb.size)
        have OW := Lib.hid (ownsBelow OW0.out hq)
        go_wp2_with (at_builtin; refine wpList_append_own _ rfl (.tmp 25) (.tmp 27) _ rfl w.heap.size 2 i0 (.int .i64 0) 1 8 Tryd.underlying156 hi hz0 hz1 hz2 rfl (by decide) _ _ _ rfl (OW.out.alloc _) ⟨wq.heap.size, 0, none⟩ 1 1 [.int .i64 0] rfl rfl ?c1a ?c2a ?c3a ?c4a ?c5a ?_)
        case c1a => exact cell_one_new _ _ _
        case c2a => (intro u hu; simp at hu; subst hu; rfl)
        case c3a => (have := runsTo_length xs 0; unfold maxLen; omega)
        case c4a => (have := runsTo_length xs 0; omega)
        case c5a => (have := g1.size; simp; omega)
        intro v' w2 hown' hgrow' _
        have OW' := Lib.hid hown'
        have g2 : Below w.heap.size w w2 := (g1.alloc g1.size _).grown hgrow' (by have := g1.size; simp; omega) (fun k hk => (OW.out.lt k hk).1)
        clear hown' hgrow'
        go_wp2
        go_roundw
        case rel => exact ⟨1, 1, rfl, by omega, by go_num, by simpa [runsTo] using OW'.out, g2⟩
        case measure => simp [intOf]; omega
      · have hx' : x = (m : Int) + 1 := by simpa using hx
        subst hx'
        clear hx
        have hlt0 : m < xs.length := by omega
        have A1 := Lib.hid ((hat.below hb hga).at_ zg hlt)
        have A0 := Lib.hid ((hat.below hb hga).at_ zg hlt0)
        have HO := Lib.hid (outAt_eq hlt)
        have d0 : ((m : Int) + 1 == 0) = false := by simp; omega
        have hlti : (m : Int) + 1 < xs.length := by omega
        clear hat
        obtain ⟨-, p0, p1, p2, p3, p4, p5, p6, p7⟩ := A1.out
        obtain ⟨-, q0, q1, q2, q3, q4, q5, q6, q7⟩ := A0.out
        have p0 := belowBy_cell zg p0; have q0 := belowBy_cell zg q0
        have p1 := belowBy_cell zg p1; have q1 := belowBy_cell zg q1
        have p2 := belowBy_cell zg p2; have q2 := belowBy_cell zg q2
        have p3 := belowBy_cell zg p3; have q3 := belowBy_cell zg q3
        have p4 := belowBy_cell zg p4; have q4 := belowBy_cell zg q4
        have p5 := belowBy_cell zg p5; have q5 := belowBy_cell zg q5
        have p6 := belowBy_cell zg p6; have q6 := belowBy_cell zg q6
        have p7 := belowBy_cell zg p7; have q7 := belowBy_cell zg q7
        go_wp2
        refine wp_region_below (by kernel_rfl) (by kernel_rfl) ?_
        repeat (first | go_big_quiet_step ((go_at_call 98; exact calls_below (compareBooks_any xs[m + 1] xs[m] (WF.out _ (List.getElem_mem _)) (WF.out _ (List.getElem_mem _)) _))) | quiet_step ((go_at_call 98; exact calls_below (compareBooks_any xs[m + 1] xs[m] (WF.out _ (List.getElem_mem _)) (WF.out _ (List.getElem_mem _)) _))))
        refine wpQuiet_nil ?_
        rintro wq ⟨⟨_, hq⟩, rfl⟩
        clear p0 p1 p2 p3 p4 p5 p6 p7 q0 q1 q2 q3 q4 q5 q6 q7
        have g1 := hb.trans (hq.mono hb.size)
        have OW := Lib.hid (ownsBelow OW0.out hq)
        generalize usual xs[m + 1] xs[m] = r at HO ⊢
        cases ho : outAt xs (m + 1)
        · have hd : 0 ≤ r := by have := HO.out.symm.trans ho; simpa using this
          have HH := Lib.hid ho
          clear ho
          go_wp2
          go_roundw
          case rel => exact ⟨m + 2, (m : Int) + 1 + 1, by omega, by omega, by go_num, by simpa [runsTo, HH.out] using OW.out, g1⟩
          case measure => simp [intOf]; omega
        · have hd : r < 0 := by have := HO.out.symm.trans ho; simpa using this
          have HH := Lib.hid ho
          clear ho
          go_wp2_with (at_builtin; refine wpList_append_own _ rfl (.tmp 25) (.tmp 27) _ rfl w.heap.size 2 i0 (.int .i64 0) 1 8 Tryd.underlying156 hi hz0 hz1 hz2 rfl (by decide) _ _ _ rfl (OW.out.alloc _) ⟨wq.heap.size, 0, none⟩ 1 1 [.int .i64 ((m : Int) + 1)] rfl rfl ?c1b ?c2b ?c3b ?c4b ?c5b ?_)
          case c1b => exact cell_one_new _ _ _
          case c2b => (intro u hu; simp at hu; subst hu; rfl)
          case c3b => (have := runsTo_length xs (m + 1); unfold maxLen; omega)
          case c4b => (have := runsTo_length xs (m + 1); omega)
          case c5b => (have := g1.size; simp; omega)
          intro v' w2 hown' hgrow' _
          have OW' := Lib.hid hown'
          have g2 : Below w.heap.size w w2 := (g1.alloc g1.size _).grown hgrow' (by have := g1.size; simp; omega) (fun k hk => (OW.out.lt k hk).1)
          clear hown' hgrow'
          go_wp2
          go_roundw
          case rel => exact ⟨m + 2, (m : Int) + 1 + 1, by omega, by omega, by go_num, by have h := OW'.out; rw [show runsTo xs (m + 2) = runsTo xs (m + 1) ++ [((m : Int) + 1)] by rw [runsTo]; simp [HH.out]]; simpa using h, g2⟩
          case measure => simp [intOf]; omega
    · obtain rfl : k = xs.length := by omega
      subst hx
      go_wp2
      go_ret
      exact ⟨_, rfl, OW0.out, hb⟩

end

section
open Go.RowKit

theorem runsTo_none {xs : List Bk} {k : Nat} (h : NoneTo xs (k + 1)) : runsTo xs (k + 1) = [0] := by
  induction k with
  | zero => rfl
  | succ k ih =>
    rw [runsTo, ih (fun i h1 h2 => h i h1 (by omega)), h (k + 1) (by omega) (by omega)]
    simp

theorem runsTo_prefix (xs : List Bk) (j n : Nat) (h : j ≤ n) : ∃ r, runsTo xs n = runsTo xs j ++ r := by
  induction n with
  | zero => exact ⟨[], by rw [show j = 0 by omega]; simp⟩
  | succ n ih =>
    by_cases e : j = n + 1
    · exact ⟨[], by rw [e]; simp⟩
    · obtain ⟨r, hr⟩ := ih (by omega)
      refine ⟨r ++ (if n == 0 || outAt xs n then [(n : Int)] else []), ?_⟩
      rw [runsTo, hr, List.append_assoc]

theorem none_or (xs : List Bk) (n : Nat) : NoneTo xs n ∨ ∃ k, 1 ≤ k ∧ k < n ∧ NoneTo xs k ∧ outAt xs k = true := by
  induction n with
  | zero => exact .inl fun i _ h => absurd h (Nat.not_lt_zero _)
  | succ n ih =>
    rcases ih with h | ⟨k, h1, h2, h3, h4⟩
    · by_cases h0 : 1 ≤ n
      · cases ho : outAt xs n
        · exact .inl (h.succ ho)
        · exact .inr ⟨n, h0, by omega, h, ho⟩
      · exact .inl fun i h1 h2 => absurd h2 (by omega)
    · exact .inr ⟨k, h1, by omega, h3, h4⟩

theorem runs_none {xs : List Bk} (h : NoneTo xs xs.length) : (runs xs).length < 2 := by
  unfold runs
  rcases hx : xs.length with _ | k
  · simp [runsTo]
  · rw [hx] at h
    rw [runsTo_none h]
    simp

theorem runs_out {xs : List Bk} {k : Nat} (h1 : 1 ≤ k) (h2 : k < xs.length) (h3 : NoneTo xs k) (h4 : outAt xs k = true) : ∃ r, runs xs = 0 :: (k : Int) :: r := by
  obtain ⟨m, rfl⟩ : ∃ m, k = m + 1 := ⟨k - 1, by omega⟩
  obtain ⟨r, hr⟩ := runsTo_prefix xs (m + 2) xs.length (by omega)
  refine ⟨r, ?_⟩
  unfold runs
  rw [hr, runsTo, runsTo_none h3, h4]
  simp

def foCode (xs : List Bk) : Int := if okB xs then (if firstOut xs < 0 then 6 else 0) else 1
def foAt (xs : List Bk) : Int := if okB xs then (if firstOut xs < 0 then 0 else firstOut xs) else 0

--fi
theorem ownsInts {w : World} {base : Nat} {v : Value} {l : List Int} {t : TypeId} (h : w.ownsRow base t 1 v l.length (l.map (Value.int .i64))) : IntsOf .i64 w v l := by
  rcases h.2 with ⟨rfl, hn⟩ | ⟨g, cap, cur, rfl, hb, hg, _⟩
  · exact ⟨none, 0, by rw [hn], fun h0 => absurd h0 (by omega)⟩
  · refine ⟨_, cap, rfl, fun _ => ⟨g, 0, rfl, (Array.getElem?_eq_some_iff.1 hg).1, fun i hi => ?_⟩⟩
    rw [Nat.zero_add, h.cellAt i (by omega)]
    simp [List.getElem?_eq_getElem hi]

--fi
end

section
open Go.RowKit

abbrev PcsOf := SliceN Pc.cells
theorem pcAt_some {w : World} {g o : Nat} {xs : List Pc} (h : AtN Pc.cells w g o xs) {i : Nat} (hi : i < xs.length) :
    w.cell? ⟨g, o + i * 9, none⟩ = some (.bool xs[i].t) ∧ w.cell? ⟨g, o + i * 9 + 1, none⟩ = some (.int .i16 xs[i].b.c) ∧ w.cell? ⟨g, o + i * 9 + 2, none⟩ = some (.int .u8 xs[i].b.m0) ∧ w.cell? ⟨g, o + i * 9 + 3, none⟩ = some (.int .u8 xs[i].b.m1) ∧ w.cell? ⟨g, o + i * 9 + 4, none⟩ = some (.int .u8 xs[i].b.m2) ∧
    w.cell? ⟨g, o + i * 9 + 5, none⟩ = some (.int .i16 xs[i].b.v) ∧ w.cell? ⟨g, o + i * 9 + 6, none⟩ = some (.int .i16 xs[i].b.wi) ∧ w.cell? ⟨g, o + i * 9 + 7, none⟩ = some (.int .i16 xs[i].b.hi) ∧ w.cell? ⟨g, o + i * 9 + 8, none⟩ = some (.int .i16 xs[i].b.we) :=
  ⟨h i hi 0 _ rfl, h i hi 1 _ rfl, h i hi 2 _ rfl, h i hi 3 _ rfl, h i hi 4 _ rfl, h i hi 5 _ rfl, h i hi 6 _ rfl, h i hi 7 _ rfl, h i hi 8 _ rfl⟩
theorem whereTo_succ {t : Bool} {q : List Pc} {k : Nat} (h : k < q.length) : whereTo t q (k + 1) = whereTo t q k ++ (if q[k].t == t then [(k : Int)] else []) := by
  rw [whereTo, getD_pc (List.getElem?_eq_getElem h)]

set_option maxHeartbeats 8000000 in
theorem whereM_any (v0 : Value) (q : List Pc) (t : Bool) (w : World) (hs : PcsOf w v0 q) (hn : q.length ≤ 200) :
    Calls Tryd.prog 97 #[v0, .bool t] w fun e w' => ∃ v, e = .returned v ∧ w'.ownsRow w.heap.size 2 1 v (whr t q).length ((whr t q).map (Value.int .i64)) ∧ Below w.heap.size w w' := by
  obtain ⟨A, c, rfl, hs⟩ := hs
  obtain ⟨i0, hi, hz0, hz1, hz2⟩ := info_parts infoInt64
  have HS := Lib.hid hs
  have H0 := Lib.hid (show w.ownsRow w.heap.size 2 1 (.slice none 0 0) (whereTo t q 0).length ((whereTo t q 0).map (Value.int .i64)) from ⟨rfl, .inl ⟨rfl, rfl⟩⟩)
  clear hs
  go_enter Tryd.func97, Tryd.ntmps97
  go_wp2
  go_loopw [5, 10] (fun v i_ wr => ∃ (k : Nat), k ≤ q.length ∧ i_ = .int .i64 (k : Int) ∧ wr.ownsRow w.heap.size 2 1 v (whereTo t q k).length ((whereTo t q k).map (Value.int .i64)) ∧ Below w.heap.size w wr) (fun _ i_ _ => q.length - (intOf i_).toNat)
  case atStart => exact ⟨0, Nat.zero_le _, rfl, H0.out, Below.refl _ _⟩
  case round =>
    obtain ⟨k, hk, rfl, hown, hb⟩ := hrel
    have OW := Lib.hid hown
    have hz := hb.size
    clear hown
    have hwl := whereTo_length t q k
    by_cases hlt : k < q.length
    · obtain ⟨ga, oa, rfl, hga, hat⟩ := HS.out (by omega)
      have hlt' := hlt
      obtain ⟨p0, p1, p2, p3, p4, p5, p6, p7, p8⟩ := pcAt_some (hat.below hb hga) hlt
      have WS := Lib.hid (whereTo_succ (t := t) hlt)
      clear hat
      generalize q[k] = x at WS p0 p1 p2 p3 p4 p5 p6 p7 p8
      cases ht : (x.t == t)
      · have WE := Lib.hid (show whereTo t q (k + 1) = whereTo t q k by rw [WS.out, ht]; simp)
        go_wp2
        go_roundw
        case rel => exact ⟨k + 1, by omega, by go_num, by rw [WE.out]; exact OW.out.alloc _, hb.alloc hz _⟩
        case measure => simp [intOf]; omega
      · have WE := Lib.hid (show whereTo t q (k + 1) = whereTo t q k ++ [(k : Int)] by rw [WS.out, ht]; rfl)
        go_wp2_with (at_builtin; refine wpList_append_own _ rfl (.tmp 19) (.tmp 21) _ rfl w.heap.size 2 i0 (.int .i64 0) 1 8 Tryd.underlying156 hi hz0 hz1 hz2 rfl (by decide) _ _ _ rfl ((OW.out.alloc _).alloc _) ⟨wr.heap.size + 1, 0, none⟩ 1 1 [.int .i64 (k : Int)] rfl rfl ?c1b ?c2b ?c3b ?c4b ?c5b ?_)
        case c1b => exact (by simpa using cell_one_new (wr.alloc _) (.int .i64 (k : Int)) 2)
        case c2b => (intro u hu; simp at hu; subst hu; rfl)
        case c3b => (unfold maxLen; omega)
        case c4b => omega
        case c5b => (simp; omega)
        intro v' w2 hown' hgrow' _
        have OW' := Lib.hid hown'
        have g2 : Below w.heap.size w w2 := ((hb.alloc hz _).alloc (by simp; omega) _).grown hgrow' (by simp; omega) (fun k hk => (OW.out.lt k hk).1)
        clear hown' hgrow'
        go_wp2
        go_roundw
        case rel => exact ⟨k + 1, by omega, by go_num, by have h := OW'.out; rw [WE.out]; simpa using h, g2⟩
        case measure => simp [intOf]; omega
    · obtain rfl : k = q.length := by omega
      go_wp2
      go_ret
      exact ⟨_, rfl, OW.out, hb⟩
theorem where_any (v0 : Value) (q : List Pc) (t : Bool) (w : World) (hs : PcsOf w v0 q) (hn : q.length ≤ 60) :
    Calls Tryd.prog 97 #[v0, .bool t] w fun e w' => ∃ v, e = .returned v ∧ w'.ownsRow w.heap.size 2 1 v (whr t q).length ((whr t q).map (Value.int .i64)) ∧ Below w.heap.size w w' :=
  whereM_any v0 q t w hs (by omega)
end

section
open Go.RowKit Go.Sort

def flB (L : List Bk) : List Value := L.flatMap Bk.cells
theorem flB_snoc (L : List Bk) (b : Bk) : flB (L ++ [b]) = flB L ++ [.int .i16 b.c, .int .u8 b.m0, .int .u8 b.m1, .int .u8 b.m2, .int .i16 b.v, .int .i16 b.wi, .int .i16 b.hi, .int .i16 b.we] := by
  unfold flB
  rw [List.flatMap_append]
  simp [Bk.cells]
theorem flB_at : ∀ (L : List Bk) (i : Nat) (h : i < L.length) (j : Nat), j < 8 → (flB L)[i * 8 + j]? = (L[i].cells)[j]?
  | [], i, h, _, _ => absurd h (Nat.not_lt_zero _)
  | b :: t, 0, _, j, hj => by
    show (b.cells ++ flB t)[0 * 8 + j]? = _
    rw [Nat.zero_mul, Nat.zero_add, List.getElem?_append_left (by rw [cells_len]; exact hj)]
    rfl
  | b :: t, i + 1, h, j, hj => by
    show (b.cells ++ flB t)[(i + 1) * 8 + j]? = _
    rw [List.getElem?_append_right (by rw [cells_len]; omega), cells_len, show (i + 1) * 8 + j - 8 = i * 8 + j by omega]
    exact flB_at t i (by simpa using h) j hj
theorem ResB.ofL {w : World} {base n : Nat} {v : Value} {ys : List Bk} (h : w.ownsRow base 25 8 v n (flB ys)) (hn : n = ys.length) : ResB w base v ys := by
  rcases h.2 with ⟨rfl, h0⟩ | ⟨g, cap, cur, rfl, hb, hg, hc, _, hs, ht⟩
  · exact .inl ⟨rfl, List.eq_nil_of_length_eq_zero (by omega)⟩
  · subst hn
    refine .inr ⟨g, cap, rfl, hb, ⟨cur, hg, hs, fun i hi _ j v hv => ?_⟩, hc⟩
    have hj : j < 8 := by have := (List.getElem?_eq_some_iff.1 hv).1; rwa [cells_len] at this
    have e := flB_at ys i hi j hj
    rw [← ht, List.getElem?_take, if_pos (by omega), Array.getElem?_toList] at e
    rw [e]
    exact hv
theorem cell8_new (w : World) (a b c d e f g h : Value) (t : TypeId) : ∀ (j : Nat) (u : Value), [a, b, c, d, e, f, g, h][j]? = some u → (w.alloc (.cells #[a, b, c, d, e, f, g, h] t)).cell? (Addr.add ⟨w.heap.size, 0, none⟩ j) = some u := by
  intro j u hu
  rw [Addr.add_lit, Nat.zero_add, cell_of_row _ _ j _ _ _ (heap_alloc_new w _)]
  match j, hu with
  | 0, hu => simpa using hu
  | 1, hu => simpa using hu
  | 2, hu => simpa using hu
  | 3, hu => simpa using hu
  | 4, hu => simpa using hu
  | 5, hu => simpa using hu
  | 6, hu => simpa using hu
  | 7, hu => simpa using hu
theorem one8 (b : Bk) : ∀ u ∈ [Value.int .i16 b.c, .int .u8 b.m0, .int .u8 b.m1, .int .u8 b.m2, .int .i16 b.v, .int .i16 b.wi, .int .i16 b.hi, .int .i16 b.we], u.oneCell' = true := by
  intro u hu
  exact cells_one b u hu

theorem ResB.own0 (w : World) (base : Nat) : w.ownsRow base 25 8 (.slice none 0 0) ([] : List Bk).length (flB []) := ⟨rfl, .inl ⟨rfl, rfl⟩⟩
theorem ResB.own1 (w : World) (base : Nat) (h : base ≤ w.heap.size) : (w.alloc (.cells #[] 25)).ownsRow base 25 8 (.slice (some ⟨w.heap.size, 0, none⟩) 0 0) ([] : List Bk).length (flB []) := ⟨rfl, .inr ⟨w.heap.size, 0, #[], rfl, h, heap_alloc_new w _, Nat.le_refl _, Nat.zero_le _, rfl, rfl⟩⟩
end

section
open Go.RowKit Go.Sort

theorem bkq_take {q : List Pc} {k j : Nat} (h : k < (whr true q).length) (e : (whr true q)[k] = (j : Int)) (hj : j < q.length) : (bkq q).take (k + 1) = (bkq q).take k ++ [q[j].b] := by
  unfold bkq
  rw [map_take_succ _ _ _ h, e, Int.toNat_natCast, getD_pc (List.getElem?_eq_getElem hj)]
theorem plq_take {q : List Pc} {k j : Nat} (h : k < (whr true q).length) (e : (whr true q)[k] = (j : Int)) (hj : j < q.length) : (plq q).take (k + 1) = (plq q).take k ++ [⟨(j : Int), q[j].b⟩] := by
  unfold plq
  rw [map_take_succ _ _ _ h, e, Int.toNat_natCast, getD_pc (List.getElem?_eq_getElem hj)]

set_option maxHeartbeats 8000000 in
theorem booksM_any (v0 : Value) (q : List Pc) (w : World) (hs : PcsOf w v0 q) (hn : q.length ≤ 200) :
    Calls Tryd.prog 94 #[v0] w fun e w' => ∃ u, e = .returned u ∧ ResB w' w.heap.size u (bkq q) ∧ Below w.heap.size w w' := by
  have HQ := Lib.hid hs
  obtain ⟨A, c, rfl, hs⟩ := hs
  have HS := Lib.hid hs
  obtain ⟨i0, hi0, hz0, hz1, hz2⟩ := info_parts infoBook
  clear hs
  go_enter Tryd.func94, Tryd.ntmps94
  go_wp2_with fail
  refine (whereM_any _ q true _ HQ.out hn).mono ?_
  rintro e w1 ⟨v1, rfl, ho1, h1⟩
  have hwl := whr_length true q
  have WM := Lib.hid (fun z hz => whr_mem (t := true) (q := q) (z := z) hz)
  have BL := Lib.hid (bkq_length q)
  have z1 := h1.size
  obtain ⟨A1, c1, rfl, hi1⟩ := ownsInts ho1
  have HI := Lib.hid hi1
  have H1 := Lib.hid h1
  have O0 := Lib.hid (show w1.ownsRow w1.heap.size 25 8 (.slice none 0 0) ((bkq q).take 0).length (flB ((bkq q).take 0)) from by simpa using ResB.own0 w1 w1.heap.size)
  clear ho1 hi1 h1
  go_wp2
  go_loopw [3, 9] (fun v_ i_ wr => ∃ (v : Value) (k : Nat), v = v_ ∧ k ≤ (whr true q).length ∧ i_ = .int .i64 (k : Int) ∧ wr.ownsRow w1.heap.size 25 8 v ((bkq q).take k).length (flB ((bkq q).take k)) ∧ Below w1.heap.size w1 wr) (fun _ i_ _ => (whr true q).length - (intOf i_).toNat)
  case atStart => exact ⟨_, 0, rfl, Nat.zero_le _, rfl, O0.out, Below.refl _ _⟩
  case round =>
    obtain ⟨v, k, rfl, hk, rfl, ho, hb⟩ := hrel
    have OW := Lib.hid ho
    have HB := Lib.hid hb
    have zw := hb.size
    have kl : ((bkq q).take k).length ≤ 200 := by rw [List.length_take]; omega
    have KL := Lib.hid (show ((bkq q).take k).length = k by rw [List.length_take, BL.out]; omega)
    clear ho hb
    by_cases hlt : k < (whr true q).length
    · have hlt' := hlt
      obtain ⟨gl, ol, rfl, hgl, hat⟩ := HI.out (by omega)
      have cl := (HB.out.cell (p := ⟨gl, ol + k, none⟩) hgl).trans (hat k hlt)
      obtain ⟨m1, m2⟩ := WM.out _ (List.getElem_mem hlt)
      obtain ⟨j, hj⟩ : ∃ j : Nat, (whr true q)[k] = (j : Int) := ⟨((whr true q)[k]).toNat, by omega⟩
      have hjq : j < q.length := by omega
      have BT := Lib.hid (bkq_take hlt hj hjq)
      rw [hj] at cl
      obtain ⟨ga, oa, rfl, hga, hqa⟩ := HS.out (by omega)
      obtain ⟨-, p1, p2, p3, p4, p5, p6, p7, p8⟩ := pcAt_some (hqa.below (bnext H1.out HB.out) hga) hjq
      have hj1 : (0 : Int) ≤ (j : Int) := by omega
      have hj2 : (j : Int) < (q.length : Int) := by omega
      clear hat hqa hj m1 m2
      generalize q[j].b = b at BT p1 p2 p3 p4 p5 p6 p7 p8
      go_wp2_with (at_builtin; refine wpList_append_own _ rfl (.tmp 13) (.tmp 19) _ rfl w1.heap.size 25 i0 (.agg #[.int .i16 0, .int .u8 0, .int .u8 0, .int .u8 0, .int .i16 0, .int .i16 0, .int .i16 0, .int .i16 0]) 8 14 Tryd.underlying30 hi0 hz0 hz1 hz2 rfl (by decide) _ _ _ rfl (OW.out.alloc _) ⟨wr.heap.size, 0, none⟩ 1 1 [.int .i16 b.c, .int .u8 b.m0, .int .u8 b.m1, .int .u8 b.m2, .int .i16 b.v, .int .i16 b.wi, .int .i16 b.hi, .int .i16 b.we] rfl rfl (cell8_new _ _ _ _ _ _ _ _ _ _) (one8 b) (by unfold maxLen; omega) (by omega) (by simp; omega) ?_)
      intro v' w4 hown' hgrow' _
      have OW2 := Lib.hid (show w4.ownsRow w1.heap.size 25 8 v' ((bkq q).take (k + 1)).length (flB ((bkq q).take (k + 1))) by rw [BT.out, flB_snoc, List.length_append, KL.out]; first | exact hown' | (rw [show min k (bkq q).length = k by rw [BL.out]; omega] at hown'; exact hown'))
      have HB2 := Lib.hid ((HB.out.alloc zw (.cells #[.int .i16 b.c, .int .u8 b.m0, .int .u8 b.m1, .int .u8 b.m2, .int .i16 b.v, .int .i16 b.wi, .int .i16 b.hi, .int .i16 b.we] 25)).grown hgrow' (by simp; omega) (fun k hk => (OW.out.lt k hk).1))
      clear hown' hgrow'
      go_wp2
      go_roundw
      case rel => exact ⟨_, k + 1, rfl, by omega, by go_num, OW2.out, HB2.out⟩
      case measure => simp [intOf]; omega
    · obtain rfl : k = (whr true q).length := by omega
      have OE := Lib.hid (show wr.ownsRow w1.heap.size 25 8 v (bkq q).length (flB (bkq q)) by have := OW.out; rwa [List.take_of_length_le (by rw [BL.out]; omega)] at this)
      go_wp2
      go_ret
      exact ⟨_, rfl, (ResB.ofL OE.out rfl).mono z1, bnext H1.out HB.out⟩
theorem books_any (v0 : Value) (q : List Pc) (w : World) (hs : PcsOf w v0 q) (hn : q.length ≤ 60) :
    Calls Tryd.prog 94 #[v0] w fun e w' => ∃ u, e = .returned u ∧ ResB w' w.heap.size u (bkq q) ∧ Below w.heap.size w w' :=
  booksM_any v0 q w hs (by omega)
end

section
open Go.RowKit

theorem al3 (w : World) (a b c : Obj) : (((w.alloc a).alloc b).alloc c).heap[w.heap.size + 1]? = some b ∧ (((w.alloc a).alloc b).alloc c).heap[w.heap.size + 1 + 1]? = some c := by
  constructor
  · rw [Below.heap_alloc _ _ _ (by simp)]
    have := heap_alloc_new (w.alloc a) b
    simpa using this
  · have := heap_alloc_new ((w.alloc a).alloc b) c
    simpa using this
end

section
open Go.RowKit

theorem RowN.far {α : Type} {cel : α → List Value} {t : TypeId} {w : World} {g j n : Nat} {xs : List α} (h : RowN cel t w g xs j n) {p : Addr} (hne : g ≠ p.block) {u : Value} : RowN cel t (w.setCell p u) g xs j n := by
  obtain ⟨cs, h, h2⟩ := h
  exact ⟨cs, (Below.heap_setCell w p u g hne).trans h, h2⟩
set_option maxHeartbeats 2000000 in
theorem eqPlaced_same (x : Pl) (w : World) :
    Calls Tryd.prog 85 #[.agg #[.int .i16 x.p, .int .i16 x.b.c, .int .u8 x.b.m0, .int .u8 x.b.m1, .int .u8 x.b.m2, .int .i16 x.b.v, .int .i16 x.b.wi, .int .i16 x.b.hi, .int .i16 x.b.we], .agg #[.int .i16 x.p, .int .i16 x.b.c, .int .u8 x.b.m0, .int .u8 x.b.m1, .int .u8 x.b.m2, .int .i16 x.b.v, .int .i16 x.b.wi, .int .i16 x.b.hi, .int .i16 x.b.we]] w fun e w' => e = .returned (.bool true) ∧ Below w.heap.size w w' := by
  go_enter Tryd.func85, Tryd.ntmps85
  go_wp2_with fail
  refine (eqBook_same x.b _).mono ?_
  rintro e w1 ⟨rfl, hb⟩
  go_wp2
  go_ret
  exact ⟨rfl, bnext (show Below w.heap.size w _ by go_grown) hb⟩

set_option maxHeartbeats 4000000 in
theorem eqPlacedS_same (v1 v2 : Value) (xs : List Pl) (w : World) (hs1 : PlsOf w v1 xs) (hs2 : PlsOf w v2 xs) (hn : xs.length ≤ maxLen) :
    Calls Tryd.prog 65 #[v1, v2] w fun e w' => e = .returned (.bool true) ∧ Below w.heap.size w w' := by
  obtain ⟨A1, k1, rfl, hs1⟩ := hs1
  obtain ⟨A2, k2, rfl, hs2⟩ := hs2
  unfold maxLen at hn
  have H1 := Lib.hid hs1
  have H2 := Lib.hid hs2
  clear hs1 hs2
  go_enter Tryd.func65, Tryd.ntmps65
  go_wp2
  go_loopw [5] (fun i wr => ∃ k : Nat, k ≤ xs.length ∧ i = .int .i64 k ∧ Below w.heap.size w wr) (fun i _ => xs.length - (intOf i).toNat)
  case atStart => exact ⟨0, Nat.zero_le _, rfl, Below.refl _ _⟩
  case round =>
    obtain ⟨k, hk, rfl, hb⟩ := hrel
    by_cases hlt : k < xs.length
    · obtain ⟨g1, o1, rfl, hg1, ha1⟩ := H1.out (by omega)
      obtain ⟨g2, o2, rfl, hg2, ha2⟩ := H2.out (by omega)
      obtain ⟨p0, p1, p2, p3, p4, p5, p6, p7, p8⟩ := plAt_some (ha1.below hb hg1) hlt
      obtain ⟨q0, q1, q2, q3, q4, q5, q6, q7, q8⟩ := plAt_some (ha2.below hb hg2) hlt
      have z1 := Nat.lt_of_lt_of_le hg1 hb.size
      have z2 := Nat.lt_of_lt_of_le hg2 hb.size
      have p0 := belowBy_cell z1 p0; have q0 := belowBy_cell z2 q0
      have p1 := belowBy_cell z1 p1; have q1 := belowBy_cell z2 q1
      have p2 := belowBy_cell z1 p2; have q2 := belowBy_cell z2 q2
      have p3 := belowBy_cell z1 p3; have q3 := belowBy_cell z2 q3
      have p4 := belowBy_cell z1 p4; have q4 := belowBy_cell z2 q4
      have p5 := belowBy_cell z1 p5; have q5 := belowBy_cell z2 q5
      have p6 := belowBy_cell z1 p6; have q6 := belowBy_cell z2 q6
      have p7 := belowBy_cell z1 p7; have q7 := belowBy_cell z2 q7
      have p8 := belowBy_cell z1 p8; have q8 := belowBy_cell z2 q8
      clear ha1 ha2
      go_wp2
      refine wp_region_below (by kernel_rfl) (by kernel_rfl) ?_
      repeat (first | go_big_quiet_step ((go_at_call 85; exact calls_below (eqPlaced_same _ _))) | quiet_step ((go_at_call 85; exact calls_below (eqPlaced_same _ _))))
      refine wpQuiet_nil ?_
      rintro wq ⟨⟨_, hq⟩, rfl⟩
      clear p0 q0 p1 q1 p2 q2 p3 q3 p4 q4 p5 q5 p6 q6 p7 q7 p8 q8
      go_wp2
      go_roundw
      case rel => exact ⟨k + 1, by omega, by go_num, hb.trans (hq.mono hb.size)⟩
      case measure => simp [intOf]; omega
    · obtain rfl : k = xs.length := by omega
      go_wp2
      go_ret
      exact ⟨rfl, hb⟩
set_option maxHeartbeats 2000000 in
theorem eqRack_same (r : Rk) (h1 h2 : Value) (w : World) (s1 : PlsOf w h1 r.ps) (s2 : PlsOf w h2 r.ps) (hn : r.ps.length ≤ maxLen) :
    Calls Tryd.prog 38 #[.agg #[.int .i16 r.n, h1], .agg #[.int .i16 r.n, h2]] w fun e w' => e = .returned (.bool true) ∧ Below w.heap.size w w' := by
  have H1 := Lib.hid s1
  have H2 := Lib.hid s2
  obtain ⟨A1, k1, rfl, -⟩ := s1
  obtain ⟨A2, k2, rfl, -⟩ := s2
  go_enter Tryd.func38, Tryd.ntmps38
  go_wp2_with fail
  refine (eqPlacedS_same _ _ _ _ (H1.out.below (by go_grown)) (H2.out.below (by go_grown)) hn).mono ?_
  rintro e w1 ⟨rfl, hb⟩
  go_wp2
  go_ret
  exact ⟨rfl, bnext (show Below w.heap.size w _ by go_grown) hb⟩

/-! ### marks -/
/-- Block g is a row of n elements of nine cells, whatever they are. -/
def RowX (t : TypeId) (w : World) (g n : Nat) : Prop := ∃ cs : Array Value, w.heap[g]? = some (.cells cs t (0, 0)) ∧ cs.size = n * 9
theorem RowX.of {α : Type} {cel : α → List Value} {t : TypeId} {w : World} {g k n : Nat} {xs : List α} (h : RowN cel t w g xs k n) : RowX t w g n := by
  obtain ⟨cs, h1, h2, _⟩ := h
  exact ⟨cs, h1, h2⟩
theorem RowX.below {t : TypeId} {w w' : World} {B g n : Nat} (h : RowX t w g n) (hb : Below B w w') (hg : g < B) : RowX t w' g n := by
  obtain ⟨cs, h, h2⟩ := h
  exact ⟨cs, (hb.block g hg).trans h, h2⟩
/-- A book in a place that is marked from the number y on. -/
def mkPV (y : Int) : Pl := ⟨IntKind.i16.wrap y, ⟨IntKind.i16.wrap (y + 1), IntKind.u8.wrap (y + 1 + 1), IntKind.u8.wrap (y + 1 + 1 + 1), IntKind.u8.wrap (y + 1 + 1 + 1 + 1), IntKind.i16.wrap (y + 1 + 1 + 1 + 1 + 1), IntKind.i16.wrap (y + 1 + 1 + 1 + 1 + 1 + 1), IntKind.i16.wrap (y + 1 + 1 + 1 + 1 + 1 + 1 + 1), IntKind.i16.wrap (y + 1 + 1 + 1 + 1 + 1 + 1 + 1 + 1)⟩⟩
def mkP (k0 : Int) (j : Nat) : Pl := mkPV (k0 + 9 * (j : Int))
def mkPL (k0 : Int) (n : Nat) : List Pl := (List.range n).map (mkP k0)
theorem mkPL_length (k0 : Int) (n : Nat) : (mkPL k0 n).length = n := by simp [mkPL]
theorem mkPL_get {k0 : Int} {n i : Nat} (h : i < (mkPL k0 n).length) : (mkPL k0 n)[i] = mkP k0 i := by simp [mkPL]
theorem rowMP {t : TypeId} {w : World} {g n : Nat} (k0 : Int) (m : Nat) (h : RowX t w g n) : RowN Pl.cells t w g (mkPL k0 m) 0 n := by
  obtain ⟨cs, h1, h2⟩ := h
  exact ⟨cs, h1, h2, fun i _ h => absurd h (Nat.not_lt_zero _)⟩

set_option maxHeartbeats 8000000 in
theorem markPlacedS_val (g n N c : Nat) (k0 : Int) (w : World) (h : RowX 99 w g N) (hN : n ≤ N) (hn : n ≤ 1048576) (hk0 : 0 ≤ k0) (hk1 : k0 ≤ 20000000) :
    Calls Tryd.prog 66 #[.slice (some ⟨g, 0, none⟩) n c, .int .i64 k0] w fun e w' => e = .returned (.int .i64 (k0 + 9 * n)) ∧ RowN Pl.cells 99 w' g (mkPL k0 n) n N ∧ w.grownBy w' (some g) := by
  have HR := Lib.hid (rowMP k0 n h)
  clear h
  go_enter Tryd.func66, Tryd.ntmps66
  go_wp2
  go_loopw [1, 5, 6] (fun x i _ wr => ∃ (j : Nat) (y : Int), y = k0 + 9 * (j : Int) ∧ j ≤ n ∧ i = .int .i64 j ∧ x = .int .i64 y ∧ RowN Pl.cells 99 wr g (mkPL k0 n) j N ∧ w.grownBy wr (some g)) (fun _ i _ _ => n - (intOf i).toNat)
  case atStart => exact ⟨0, k0, by simp, Nat.zero_le _, rfl, rfl, HR.out, World.grownBy.refl w _⟩
  case round =>
    obtain ⟨j, y, hy, hj, rfl, rfl, hm, hgr⟩ := hrel
    have HG := Lib.hid hgr
    have HW := Lib.hid hm
    clear hgr
    by_cases hlt : j < n
    · obtain ⟨⟨u0, c0⟩, ⟨u1, c1⟩, ⟨u2, c2⟩, ⟨u3, c3⟩, ⟨u4, c4⟩, ⟨u5, c5⟩, ⟨u6, c6⟩, ⟨u7, c7⟩, ⟨u8, c8⟩⟩ := hm.cells9 j (by omega)
      have fz := hm.frozen
      have hy0 : 0 ≤ y := by omega
      have hy1 : y ≤ 40000000 := by omega
      have HY := Lib.hid hy
      have hjl : j < (mkPL k0 n).length := by rw [mkPL_length]; exact hlt
      have HC := Lib.hid (show ((mkPL k0 n)[j]'hjl).cells = (mkPV y).cells by rw [mkPL_get hjl, mkP, ← hy])
      have HL := Lib.hid (show (mkPL k0 n).length ≤ N by rw [mkPL_length]; exact hN)
      have HJ := Lib.hid hjl
      clear hm hy
      go_wp2
      refine wp_loop_rounds 4 ?_
      rw [rounds_succ]; go_wp2
      rw [rounds_succ]; go_wp2
      rw [rounds_succ]; go_wp2
      rw [rounds_succ]; go_wp2
      go_roundw
      case rel => exact ⟨j + 1, y + 1 + 1 + 1 + 1 + 1 + 1 + 1 + 1 + 1, by have := HY.out; omega, by omega, by go_num, rfl, HW.out.step HJ.out HL.out _ _ _ _ _ _ _ _ _ HC.out Pl.nine, only_set2 (only_set2 (only_set2 (only_set2 (only_set2 (only_set2 (only_set2 (only_set2 (only_set2 HG.out _ _) _ _) _ _) _ _) _ _) _ _) _ _) _ _) _ _⟩
      case measure => simp [intOf]; omega
    · obtain rfl : j = n := by omega
      have HY := Lib.hid hy
      clear hy hm
      go_wp2
      go_ret
      exact ⟨by rw [← HY.out]; rfl, HW.out, HG.out⟩

set_option maxHeartbeats 8000000 in
theorem heldPlacedS_any (v : Value) (n : Nat) (k0 : Int) (w : World) (hn : n ≤ 1048576) (hk0 : 0 ≤ k0) (hk1 : k0 ≤ 20000000) (hs : PlsOf w v (mkPL k0 n)) :
    Calls Tryd.prog 67 #[v, .int .i64 k0] w fun e w' => e = .returned (.int .i64 (k0 + 9 * n)) ∧ w = w' := by
  obtain ⟨A, c, rfl, hs⟩ := hs
  have el := mkPL_length k0 n
  rw [el] at hs ⊢
  have HS := Lib.hid hs
  clear hs el
  go_enter Tryd.func67, Tryd.ntmps67
  go_wp2
  go_loopw [1, 5, 6] (fun x i _ wr => ∃ (j : Nat) (y : Int), y = k0 + 9 * (j : Int) ∧ j ≤ n ∧ i = .int .i64 j ∧ x = .int .i64 y ∧ wr = w) (fun _ i _ _ => n - (intOf i).toNat)
  case atStart => exact ⟨0, k0, by simp, Nat.zero_le _, rfl, rfl, rfl⟩
  case round =>
    obtain ⟨j, y, hy, hj, rfl, rfl, rfl⟩ := hrel
    by_cases hlt : j < n
    · obtain ⟨ga, oa, rfl, hga, hat⟩ := HS.out (by omega)
      have hjl : j < (mkPL k0 n).length := by rw [mkPL_length]; exact hlt
      obtain ⟨p0, p1, p2, p3, p4, p5, p6, p7, p8⟩ := plAt_some hat hjl
      rw [mkPL_get hjl, mkP, ← hy] at p0 p1 p2 p3 p4 p5 p6 p7 p8
      simp only [mkPV] at p0 p1 p2 p3 p4 p5 p6 p7 p8
      have hy0 : 0 ≤ y := by omega
      have hy1 : y ≤ 40000000 := by omega
      have HY := Lib.hid hy
      clear hy hat hjl
      go_wp2
      refine wp_loop_rounds 4 ?_
      rw [rounds_succ]; go_wp2
      rw [rounds_succ]; go_wp2
      rw [rounds_succ]; go_wp2
      rw [rounds_succ]; go_wp2
      go_roundw
      case rel => exact ⟨j + 1, y + 1 + 1 + 1 + 1 + 1 + 1 + 1 + 1 + 1, by have := HY.out; omega, by omega, by go_num, by first | rfl | trivial, by first | rfl | trivial⟩
      case measure => simp [intOf]; omega
    · obtain rfl : j = n := by omega
      have HY := Lib.hid hy
      clear hy
      go_wp2
      go_ret
      exact ⟨by rw [← HY.out]; rfl, rfl⟩

theorem grownAl {w w' : World} {o : Obj} {row : Option Nat} (h : (w.alloc o).grownBy w' row) : w.grownBy w' row :=
  ⟨h.os, h.tape, h.output, Nat.le_trans (by simp) h.size, fun k hk hne => (h.block k (by simp; omega) hne).trans (Below.heap_alloc w o k hk)⟩
set_option maxHeartbeats 1000000 in
theorem markPlRes_any (v : Value) (ys : List Pl) (base : Nat) (k0 : Int) (w : World) (h : ResN Pl.cells 99 w base v ys) (hn : ys.length ≤ 1048576) (hk0 : 0 ≤ k0) (hk1 : k0 ≤ 20000000) :
    Calls Tryd.prog 66 #[v, .int .i64 k0] w fun e w' => e = .returned (.int .i64 (k0 + 9 * (ys.length : Nat))) ∧ ResN Pl.cells 99 w' base v (mkPL k0 ys.length) ∧ w.grownBy w' v.ownBlock := by
  rcases h with ⟨rfl, rfl⟩ | ⟨g, N, rfl, h1, hr, hN⟩
  · go_enter Tryd.func66, Tryd.ntmps66
    go_wp2
    refine wp_loop_rounds 1 ?_
    rw [rounds_succ]
    go_wp2
    go_ret
    exact ⟨by simp, .inl ⟨rfl, rfl⟩, World.grownBy.refl w _⟩
  · refine (markPlacedS_val g ys.length N N k0 w (RowX.of hr) hN hn hk0 hk1).mono ?_
    rintro e w' ⟨rfl, hm, hg⟩
    exact ⟨rfl, .inr ⟨g, N, by rw [mkPL_length], h1, by rw [mkPL_length]; exact hm, by rw [mkPL_length]; exact hN⟩, hg⟩

set_option maxHeartbeats 1000000 in
theorem markRack_any (n : Int) (v : Value) (ys : List Pl) (base : Nat) (k0 : Int) (w : World) (h : ResN Pl.cells 99 w base v ys) (hn : ys.length ≤ 1048576) (hk0 : 0 ≤ k0) (hk1 : k0 ≤ 20000000) :
    Calls Tryd.prog 39 #[.agg #[.int .i16 n, v], .int .i64 k0] w fun e w' => e = .returned (.int .i64 (k0 + 9 * (ys.length : Nat))) ∧ ResN Pl.cells 99 w' base v (mkPL k0 ys.length) ∧ w.grownBy w' v.ownBlock := by
  have HA := Lib.hid (h.below ((Below.refl w.heap.size w).alloc (Nat.le_refl _) (.cells #[.int .i16 n, v] 60)))
  obtain ⟨A, m, c, rfl⟩ : ∃ A m c, v = .slice A m c := by rcases h with ⟨rfl, _⟩ | ⟨g, N, rfl, _⟩ <;> exact ⟨_, _, _, rfl⟩
  clear h
  go_enter Tryd.func39, Tryd.ntmps39
  go_wp2_with fail
  refine (markPlRes_any _ ys base k0 _ HA.out hn hk0 hk1).mono ?_
  rintro e w1 ⟨rfl, hm, k1⟩
  have HM := Lib.hid hm
  clear hm
  go_wp2
  go_ret
  exact ⟨rfl, HM.out, grownAl k1⟩

set_option maxHeartbeats 1000000 in
theorem markRackRow_any (nn : Int) (g n : Nat) (k0 : Int) (w : World) (h : RowX 99 w g n) (hn : n ≤ 1048576) (hk0 : 0 ≤ k0) (hk1 : k0 ≤ 20000000) :
    Calls Tryd.prog 39 #[.agg #[.int .i16 nn, .slice (some ⟨g, 0, none⟩) n n], .int .i64 k0] w fun e w' => e = .returned (.int .i64 (k0 + 9 * n)) ∧ True ∧ w.grownBy w' (some g) := by
  have HA := Lib.hid (h.below ((Below.refl w.heap.size w).alloc (Nat.le_refl _) (.cells #[.int .i16 nn, .slice (some ⟨g, 0, none⟩) n n] 60)) (by obtain ⟨cs, h1, _⟩ := h; exact (Array.getElem?_eq_some_iff.1 h1).1))
  clear h
  go_enter Tryd.func39, Tryd.ntmps39
  go_wp2_with fail
  refine (markPlacedS_val g n n n k0 _ HA.out (Nat.le_refl _) hn hk0 hk1).mono ?_
  rintro e w1 ⟨rfl, -, k1⟩
  go_wp2
  go_ret
  exact ⟨rfl, trivial, grownAl k1⟩

set_option maxHeartbeats 1000000 in
theorem heldRack_any (n : Int) (v : Value) (m : Nat) (k0 : Int) (w : World) (hn : m ≤ 1048576) (hk0 : 0 ≤ k0) (hk1 : k0 ≤ 20000000) (hs : PlsOf w v (mkPL k0 m)) :
    Calls Tryd.prog 40 #[.agg #[.int .i16 n, v], .int .i64 k0] w fun e w' => e = .returned (.int .i64 (k0 + 9 * m)) ∧ Below w.heap.size w w' := by
  have HA := Lib.hid (hs.below ((Below.refl w.heap.size w).alloc (Nat.le_refl _) (.cells #[.int .i16 n, v] 60)))
  obtain ⟨A, c, rfl, -⟩ := hs
  have nn : ¬ (k0 + 9 * (m : Int) < 0) := by omega
  go_enter Tryd.func40, Tryd.ntmps40
  go_wp2_with fail
  refine (heldPlacedS_any _ m k0 _ hn hk0 hk1 HA.out).mono ?_
  rintro e w1 ⟨rfl, rfl⟩
  go_wp2
  go_ret
  exact ⟨rfl, by go_grown⟩

end

section
open Go.RowKit

/-- The two error variables that checkSorted names. -/
structure Er2 (w : World) (s i : Addr) : Prop where
  cs : w.cell? ⟨1, 0, none⟩ = some (.iface 166 (.pointer (some s)))
  ci : w.cell? ⟨2, 0, none⟩ = some (.iface 166 (.pointer (some i)))
  low : 1 < w.heap.size ∧ 2 < w.heap.size
theorem Er2.below {w w' : World} {s i : Addr} (h : Er2 w s i) (hb : Below w.heap.size w w') : Er2 w' s i := by
  obtain ⟨l1, l2⟩ := h.low
  exact ⟨(hb.cell (p := ⟨1, 0, none⟩) l1).trans h.cs, (hb.cell (p := ⟨2, 0, none⟩) l2).trans h.ci, ⟨Nat.lt_of_lt_of_le l1 hb.size, Nat.lt_of_lt_of_le l2 hb.size⟩⟩

set_option maxHeartbeats 2000000 in
theorem ck_invalid (v : Value) (xs : List Bk) (w : World) (g : Nat) (s i : Addr) (he : Er2 w s i) (hv : w.cell? ⟨g, 0, none⟩ = some v) (hg : g < w.heap.size) (hs : SliceOf w v xs) (hm : xs.length ≤ maxLen) (hk : okB xs = false) :
    Calls Tryd.prog 93 #[.slice (some ⟨g, 0, none⟩) 1 1] w fun e w' => e = .returned (.iface 166 (.pointer (some i))) ∧ Below w.heap.size w w' := by
  have HS := Lib.hid hs
  have HE := Lib.hid he
  obtain ⟨A, c, rfl, -⟩ := hs
  clear he
  go_enter Tryd.func93, Tryd.ntmps93
  go_wp2
  refine wp_loop_rounds 2 ?_
  rw [rounds_succ]
  go_wp2_with fail
  refine (validBooks_any _ xs _ HS.out hm).mono ?_
  rintro e w1 ⟨rfl, h1⟩
  have ci := (HE.out.below h1).ci
  rw [hk]
  go_wp2
  go_ret
  exact ⟨rfl, h1⟩

set_option maxHeartbeats 2000000 in
theorem ck_valid (v : Value) (xs : List Bk) (wf : ∀ b ∈ xs, b.Wf) (w : World) (g : Nat) (s i : Addr) (he : Er2 w s i) (hv : w.cell? ⟨g, 0, none⟩ = some v) (hg : g < w.heap.size) (hs : SliceOf w v xs) (hn : xs.length ≤ 1048576) (hm : xs.length ≤ maxLen) (hk : okB xs = true) :
    Calls Tryd.prog 93 #[.slice (some ⟨g, 0, none⟩) 1 1] w fun e w' => e = .returned (if (runs xs).length < 2 then .nilIface else .iface 166 (.pointer (some s))) ∧ Below w.heap.size w w' := by
  have HS := Lib.hid hs
  have WF := Lib.hid wf
  have HE := Lib.hid he
  obtain ⟨A, c, rfl, -⟩ := hs
  clear he wf
  by_cases hl : (runs xs).length < 2
  · rw [if_pos hl]
    go_enter Tryd.func93, Tryd.ntmps93
    go_wp2
    refine wp_loop_rounds 2 ?_
    rw [rounds_succ]
    go_wp2_with fail
    refine (validBooks_any _ xs _ HS.out hm).mono ?_
    rintro e w1 ⟨rfl, h1⟩
    have hv1 := (h1.cell (p := ⟨g, 0, none⟩) hg).trans hv
    rw [hk]
    go_wp2
    rw [rounds_succ]
    go_wp2
    refine wp_loop_rounds 2 ?_
    rw [rounds_succ]
    go_wp2_with fail
    refine (runsOf_any _ xs WF.out _ (HS.out.below h1) hn).mono ?_
    rintro e w2 ⟨v2, rfl, ho, h2⟩
    obtain ⟨A2, c2, rfl, -⟩ := ownsInts ho
    have hl' : ¬ (1 : Int) < ((runs xs).length : Int) := by omega
    clear ho
    go_wp2
    rw [rounds_succ]
    go_wp2
    go_ret
    exact ⟨rfl, bnext h1 h2⟩
  · rw [if_neg hl]
    go_enter Tryd.func93, Tryd.ntmps93
    go_wp2
    refine wp_loop_rounds 2 ?_
    rw [rounds_succ]
    go_wp2_with fail
    refine (validBooks_any _ xs _ HS.out hm).mono ?_
    rintro e w1 ⟨rfl, h1⟩
    have hv1 := (h1.cell (p := ⟨g, 0, none⟩) hg).trans hv
    rw [hk]
    go_wp2
    rw [rounds_succ]
    go_wp2
    refine wp_loop_rounds 2 ?_
    rw [rounds_succ]
    go_wp2_with fail
    refine (runsOf_any _ xs WF.out _ (HS.out.below h1) hn).mono ?_
    rintro e w2 ⟨v2, rfl, ho, h2⟩
    obtain ⟨A2, c2, rfl, -⟩ := ownsInts ho
    have cs := (HE.out.below (bnext h1 h2)).cs
    have hl' : (1 : Int) < ((runs xs).length : Int) := by omega
    clear ho
    go_wp2
    go_ret
    exact ⟨rfl, bnext h1 h2⟩

/-- The error that a list is answered with. -/
def erV (xs : List Bk) (s i : Addr) : Value := if okB xs then (if firstOut xs < 0 then .nilIface else .iface 166 (.pointer (some s))) else .iface 166 (.pointer (some i))
theorem ck_any (v : Value) (xs : List Bk) (wf : ∀ b ∈ xs, b.Wf) (w : World) (g : Nat) (s i : Addr) (he : Er2 w s i) (hv : w.cell? ⟨g, 0, none⟩ = some v) (hg : g < w.heap.size) (hs : SliceOf w v xs) (hn : xs.length ≤ 1048576) :
    Calls Tryd.prog 93 #[.slice (some ⟨g, 0, none⟩) 1 1] w fun e w' => e = .returned (erV xs s i) ∧ Below w.heap.size w w' := by
  have hm : xs.length ≤ maxLen := by unfold maxLen; omega
  cases hk : okB xs
  · rw [show erV xs s i = .iface 166 (.pointer (some i)) by unfold erV; rw [hk]; rfl]
    exact ck_invalid v xs w g s i he hv hg hs hm hk
  · have C := ck_valid v xs wf w g s i he hv hg hs hn hm hk
    have E : erV xs s i = if (runs xs).length < 2 then .nilIface else .iface 166 (.pointer (some s)) := by
      unfold erV
      rw [hk, if_pos rfl]
      by_cases hl : (runs xs).length < 2
      · rw [if_pos hl]
        rcases none_or xs xs.length with hno | ⟨k, k1, k2, k3, k4⟩
        · rw [firstOut_none hno]; rfl
        · obtain ⟨r, hr⟩ := runs_out k1 k2 k3 k4
          rw [hr] at hl; simp at hl; omega
      · rw [if_neg hl]
        rcases none_or xs xs.length with hno | ⟨k, k1, k2, k3, k4⟩
        · exact absurd (runs_none hno) hl
        · rw [firstOut_at k3 k1 k2 k4, if_neg (by omega)]
    rw [E]
    exact C
end

section
open Go.RowKit Go.Sort

theorem infoPlace : (Tryd.prog.info? 151).map (fun i => (i.zero, i.size, i.bytes)) = some (some (.agg #[.bool false, .int .i16 0, .int .u8 0, .int .u8 0, .int .u8 0, .int .i16 0, .int .i16 0, .int .i16 0, .int .i16 0]), 9, 16) := by kernel_rfl
/-- What is found in a rack. -/
def CtV (r : Rk) (n : Nat) (base : Nat) (w : World) (v : Value) : Prop :=
  (rkB r = false ∧ v = .iface 134 (.agg #[])) ∨ (rkB r = true ∧ ∃ g, v = .iface 120 (.slice (some ⟨g, 0, none⟩) n n) ∧ base ≤ g ∧ RowN Pc.cells 151 w g (plc n r.ps) n n)
theorem within16P (n low high : Int) (w : World) : Calls Tryd.prog 80 #[.int .i16 n, .int .i16 low, .int .i16 high] w fun e w' => e = .returned (.bool (inB n low high)) ∧ w = w' := within16_any n low high w

theorem made9 (Z : List Value) (hZ : Z.length = 9) (n i j : Nat) (hi : i < n) (v : Value) (hv : Z[j]? = some v) : (madeCells Z.toArray (n * 9))[i * 9 + j]? = some v := by
  have hj : j < 9 := by have := (List.getElem?_eq_some_iff.1 hv).1; omega
  have e : (i * 9 + j) % 9 = j := by omega
  unfold madeCells
  rw [Array.getElem?_map, Array.getElem?_range, if_pos (by omega)]
  simp only [Option.map_some, List.size_toArray, hZ, e]
  rw [getElem!_def]
  simp [hv]
theorem RowN.sl {α : Type} {cel : α → List Value} {t : TypeId} {w : World} {g n : Nat} {xs : List α} (h : RowN cel t w g xs n n) (e : xs.length = n) : SliceN cel w (.slice (some ⟨g, 0, none⟩) n n) xs := by
  subst e
  exact RowN.slice h
theorem set9_far {w : World} {g h o : Nat} {ob : Obj} {v0 v1 v2 v3 v4 v5 v6 v7 v8 : Value} (e : w.heap[h]? = some ob) (hne : h ≠ g) : (set9 w g o v0 v1 v2 v3 v4 v5 v6 v7 v8).heap[h]? = some ob := by
  unfold set9
  iterate 9 (refine (Below.heap_setCell _ _ _ _ (by simpa using hne)).trans ?_)
  exact e
set_option maxHeartbeats 16000000 in
theorem contentOf_any (r : Rk) (hv : Value) (wf : r.Wf) (w : World) (s i : Addr) (he : Er2 w s i) (hs : PlsOf w hv r.ps) (hn : r.ps.length ≤ 1048576) :
    Calls Tryd.prog 89 #[.agg #[.int .i16 r.n, hv]] w fun e w' => ∃ v, e = .returned v ∧ CtV r r.n.toNat w.heap.size w' v ∧ Below w.heap.size w w' := by
  have HE := Lib.hid he
  have WF := Lib.hid wf
  have HSV := Lib.hid hs
  obtain ⟨A, c, rfl, hs⟩ := hs
  have HS := Lib.hid hs
  have G0 := Lib.hid (show Below w.heap.size w (w.alloc (.cells #[.int .i16 r.n, .slice A r.ps.length c] 60)) by go_grown)
  obtain ⟨bn1, bn2⟩ := wf.n
  clear he wf hs
  cases hk : inB r.n 1 60
  · have E := Lib.hid (rkB_n hk)
    go_enter Tryd.func89, Tryd.ntmps89
    go_wp2_with fail
    refine (within16P _ _ _ _).mono ?_
    rintro e w' ⟨rfl, rfl⟩
    rw [hk]
    clear hk
    go_wp2
    go_ret
    exact ⟨_, rfl, .inl ⟨E.out, rfl⟩, G0.out⟩
  · have HK := Lib.hid hk
    obtain ⟨z, ps⟩ := r
    simp only at *
    have hz : 1 ≤ z ∧ z ≤ 60 := by unfold inB at hk; simpa using hk
    obtain ⟨n, rfl⟩ : ∃ n : Nat, z = (n : Int) := ⟨z.toNat, by omega⟩
    obtain ⟨i0, hi, hz0, hz1, hz2⟩ := info_parts infoPlace
    have hmk := fun W => run_make_rowN (P := Tryd.prog) 120 151 i0 _ Tryd.underlying120 hi hz0 .i16 .i16 n n (Nat.le_refl _) (by rw [hz2]; omega) (by omega) W
    rw [hz1] at hmk
    have c0 : (w.alloc (.cells #[.int .i16 (n : Int), .slice A ps.length c] 60)).heap[w.heap.size]? = _ := heap_alloc_new w _
    have C0 := Lib.hid c0
    have M0 := Lib.hid (RowN.made (cel := Pc.cells) 151 (w.alloc (.cells #[.int .i16 (n : Int), .slice A ps.length c] 60)) (.agg #[.bool false, .int .i16 0, .int .u8 0, .int .u8 0, .int .u8 0, .int .i16 0, .int .i16 0, .int .i16 0, .int .i16 0] : Value).cells (plcTo n ps 0) n)
    clear hi hz0 hz1 hz2 c0
    go_enter Tryd.func89, Tryd.ntmps89
    go_wp2_with fail
    refine (within16P _ _ _ _).mono ?_
    rintro e w' ⟨rfl, rfl⟩
    rw [hk]
    clear hk
    go_wp2
    have M1 := Lib.hid (show RowN Pc.cells 151 ((w.alloc (.cells #[.int .i16 (n : Int), .slice A ps.length c] 60)).alloc (.cells (madeCells (.agg #[.bool false, .int .i16 0, .int .u8 0, .int .u8 0, .int .u8 0, .int .i16 0, .int .i16 0, .int .i16 0, .int .i16 0] : Value).cells (n * 9)) 151)) (w.heap.size + 1) (plcTo n ps 0) n n by
      obtain ⟨cs, e1, e2, -⟩ := M0.out
      rw [World.size_alloc] at e1
      refine ⟨_, heap_alloc_new _ _ |> (fun h => by rwa [World.size_alloc] at h), size_madeCells _ _, fun i hi hin j v hv => ?_⟩
      have e3 : (plcTo n ps 0)[i] = pc0 := by simp [plcTo]
      rw [e3] at hv
      exact made9 [.bool false, .int .i16 0, .int .u8 0, .int .u8 0, .int .u8 0, .int .i16 0, .int .i16 0, .int .i16 0, .int .i16 0] rfl n i j hin v hv)
    have C1 := Lib.hid (show ((w.alloc (.cells #[.int .i16 (n : Int), .slice A ps.length c] 60)).alloc (.cells (madeCells (.agg #[.bool false, .int .i16 0, .int .u8 0, .int .u8 0, .int .u8 0, .int .i16 0, .int .i16 0, .int .i16 0, .int .i16 0] : Value).cells (n * 9)) 151)).heap[w.heap.size]? = some (.cells #[.int .i16 (n : Int), .slice A ps.length c] 60 (0, 0)) from (Below.heap_alloc _ _ _ (by simp)).trans C0.out)
    have G1 := Lib.hid (show Below w.heap.size w ((w.alloc (.cells #[.int .i16 (n : Int), .slice A ps.length c] 60)).alloc (.cells (madeCells (.agg #[.bool false, .int .i16 0, .int .u8 0, .int .u8 0, .int .u8 0, .int .i16 0, .int .i16 0, .int .i16 0, .int .i16 0] : Value).cells (n * 9)) 151)) by go_grown)
    have n0 : (0 : Int) ≤ (n : Int) := by omega
    go_loopw [4, 19] (fun l_ i_ wr => ∃ (k : Nat) (l : Int), l = lstP ps k ∧ k ≤ ps.length ∧ i_ = .int .i64 (k : Int) ∧ l_ = .int .i16 l ∧ PosTo n ps k ∧ RowN Pc.cells 151 wr (w.heap.size + 1) (plcTo n ps k) n n ∧ wr.heap[w.heap.size]? = some (.cells #[.int .i16 (n : Int), .slice A ps.length c] 60 (0, 0)) ∧ Below w.heap.size w wr) (fun _ i_ _ => ps.length - (intOf i_).toNat)
    case atStart => exact ⟨0, 0, rfl, Nat.zero_le _, rfl, rfl, posTo_zero _ _, M1.out, C1.out, G1.out⟩
    case round =>
      obtain ⟨k, l, hl, hk, rfl, rfl, hp, hrow, hbx, hb⟩ := hrel
      have HP := Lib.hid hp
      have HR := Lib.hid hrow
      have BX := Lib.hid hbx
      have HB := Lib.hid hb
      have HL := Lib.hid hl
      have zw := hb.size
      have zR := HR.out.lt
      have l0 : 0 ≤ l := by rw [hl]; exact hp.next hk
      clear hp hrow hbx hb hl
      by_cases hlt : k < ps.length
      · have hlt' := hlt
        obtain ⟨ga, oa, rfl, hga, hat⟩ := HS.out (by omega)
        obtain ⟨p0, p1, p2, p3, p4, p5, p6, p7, p8⟩ := plAt_some (hat.below HB.out hga) hlt
        have PS := Lib.hid (plcTo_succ n hlt)
        have wk := WF.out.ps _ (List.getElem_mem hlt)
        obtain ⟨wp1, wp2⟩ := wk.p
        have l1 : l ≤ 61 := by
          have e := HL.out
          cases k with
          | zero => rw [lstP_zero] at e; omega
          | succ m =>
            rw [lstP_succ (by omega)] at e
            have := (HP.out m (by omega) (by omega)).2
            omega
        have SU := Lib.hid (fun h1 h2 => HP.out.succ hlt (by rw [← HL.out]; exact h1) h2)
        have BAD := Lib.hid (fun h => rkB_pos (r := ⟨(n : Int), ps⟩) (posB_bad hlt (by rw [← HL.out]; exact h)))
        have LS := Lib.hid (lstP_succ hlt)
        clear hat wk
        generalize ps[k] = x at PS p0 p1 p2 p3 p4 p5 p6 p7 p8 wp1 wp2 SU BAD LS
        have d1 : Below wr.heap.size wr (wr.alloc (.cells #[.int .i16 x.p, .int .i16 x.b.c, .int .u8 x.b.m0, .int .u8 x.b.m1, .int .u8 x.b.m2, .int .i16 x.b.v, .int .i16 x.b.wi, .int .i16 x.b.hi, .int .i16 x.b.we] 99)) := (Below.refl _ _).alloc (Nat.le_refl _) _
        have D1 := Lib.hid d1
        have c0 : (wr.alloc (.cells #[.int .i16 x.p, .int .i16 x.b.c, .int .u8 x.b.m0, .int .u8 x.b.m1, .int .u8 x.b.m2, .int .i16 x.b.v, .int .i16 x.b.wi, .int .i16 x.b.hi, .int .i16 x.b.we] 99)).cell? ⟨w.heap.size, 0, none⟩ = some (.int .i16 (n : Int)) := (d1.cell (p := ⟨w.heap.size, 0, none⟩) (by show w.heap.size < _; omega)).trans (cell_of_row wr _ 0 _ _ _ BX.out)
        clear d1
        cases hin : inB x.p l ((n : Int) - 1)
        · have E := Lib.hid (BAD.out (by unfold inB at hin; simpa using hin))
          clear BAD SU
          go_wp2_with fail
          refine (within16P _ _ _ _).mono ?_
          rintro e w' ⟨rfl, rfl⟩
          rw [hin]
          clear hin
          go_wp2
          go_ret
          exact ⟨_, rfl, .inl ⟨E.out, rfl⟩, bnext HB.out D1.out⟩
        · have hix : l ≤ x.p ∧ x.p ≤ (n : Int) - 1 := by unfold inB at hin; simpa using hin
          obtain ⟨j, hj⟩ : ∃ j : Nat, x.p = (j : Int) := ⟨x.p.toNat, by omega⟩
          have hjn : j < n := by omega
          have SP := Lib.hid (SU.out hix.1 hix.2)
          clear SU BAD
          obtain ⟨xp, b⟩ := x
          simp only at *
          subst hj
          have jn : (j : Int).toNat = j := Int.toNat_natCast j
          have HR1 := Lib.hid (HR.out.below D1.out HR.out.lt)
          have X1 := Lib.hid (heap_alloc_new wr (.cells #[.int .i16 (j : Int), .int .i16 b.c, .int .u8 b.m0, .int .u8 b.m1, .int .u8 b.m2, .int .i16 b.v, .int .i16 b.wi, .int .i16 b.hi, .int .i16 b.we] 99))
          go_wp2_with fail
          generalize World.alloc wr _ = W1 at D1 HR1 X1 c0 ⊢
          refine (within16P _ _ _ _).mono ?_
          rintro e w' ⟨rfl, rfl⟩
          rw [hin]
          clear hin
          obtain ⟨⟨u0, q0⟩, ⟨u1, q1⟩, ⟨u2, q2⟩, ⟨u3, q3⟩, ⟨u4, q4⟩, ⟨u5, q5⟩, ⟨u6, q6⟩, ⟨u7, q7⟩, ⟨u8, q8⟩⟩ := HR1.out.cells9 j hjn
          have fz := HR1.out.frozen
          have hj1 : (0 : Int) ≤ (j : Int) := by omega
          have hj2 : (j : Int) < (n : Int) := by omega
          have hj3 : (j : Int) ≤ 60 := by omega
          have e0 := cell_of_row W1 _ 0 _ _ _ X1.out
          have e1 := cell_of_row W1 _ 1 _ _ _ X1.out
          have e2 := cell_of_row W1 _ 2 _ _ _ X1.out
          have e3 := cell_of_row W1 _ 3 _ _ _ X1.out
          have e4 := cell_of_row W1 _ 4 _ _ _ X1.out
          have e5 := cell_of_row W1 _ 5 _ _ _ X1.out
          have e6 := cell_of_row W1 _ 6 _ _ _ X1.out
          have e7 := cell_of_row W1 _ 7 _ _ _ X1.out
          have e8 := cell_of_row W1 _ 8 _ _ _ X1.out
          simp only [List.getElem?_toArray, List.getElem?_cons_zero, List.getElem?_cons_succ] at e0 e1 e2 e3 e4 e5 e6 e7 e8
          have zz1 := D1.out.size
          have BX1 := Lib.hid ((D1.out.block _ (by omega)).trans BX.out)
          go_wp2
          go_roundw
          case rel => exact ⟨k + 1, (j : Int) + 1, by rw [LS.out], by omega, by go_num, rfl, SP.out, by
            rw [PS.out, jn]
            have pl := plcTo_length n ps k
            exact HR1.out.put j (by omega) hjn ⟨true, b⟩ _ _ _ _ _ _ _ _ _ rfl Pc.nine (by omega), set9_far BX1.out (by omega), set9_below (bnext HB.out D1.out) (by omega)⟩
          case measure => simp [intOf]; omega
      · obtain rfl : k = ps.length := by omega
        have PB := Lib.hid (bkq_plc HP.out)
        have BW := Lib.hid (bks_wf WF.out.ps)
        have BL := Lib.hid (bks_length ps)
        have PQ := Lib.hid (posB_all HP.out)
        go_wp2_with fail
        refine (books_any _ (plc n ps) _ (RowN.sl HR.out (plc_length n ps)) (by rw [plc_length]; omega)).mono ?_
        rintro e w1 ⟨u, rfl, hres, g1⟩
        rw [PB.out] at hres
        have RS := Lib.hid hres
        obtain ⟨Au, cu, rfl, -⟩ := hres.slice
        clear hres
        have B1 := Lib.hid (bnext HB.out g1)
        have HR1 := Lib.hid (HR.out.below g1 HR.out.lt)
        have zz1 := B1.out.size
        have g2 := (Below.refl w1.heap.size w1).alloc (Nat.le_refl _) (.cells #[.slice Au (bks ps).length cu] 30)
        have X2 := Lib.hid (heap_alloc_new w1 (.cells #[.slice Au (bks ps).length cu] 30))
        go_wp2_with fail
        generalize World.alloc w1 _ = w2 at g2 X2 ⊢
        have B2 := Lib.hid (bnext B1.out g2)
        have HR2 := Lib.hid (HR1.out.below g2 HR1.out.lt)
        have RS2 := Lib.hid (RS.out.below g2)
        have z2 : w1.heap.size < w2.heap.size := (Array.getElem?_eq_some_iff.1 X2.out).1
        refine (ck_any _ (bks ps) BW.out _ w1.heap.size s i (HE.out.below B2.out) (by have := cell_of_row w2 _ 0 _ _ _ X2.out; simpa using this) z2 RS2.out.slice (by rw [BL.out]; omega)).mono ?_
        rintro e w3 ⟨rfl, g3⟩
        have B3 := Lib.hid (bnext B2.out g3)
        have HR3 := Lib.hid (HR2.out.below g3 HR2.out.lt)
        have isi : Tryd.prog.isIface 74 = true := by kernel_rfl
        have en := fun (X : World) (v : Value) => run_neq_iface_nil (P := Tryd.prog) (w := X) 74 isi 166 v
        have en0 := fun (X : World) => run_neq_nil_nil_at (P := Tryd.prog) (w := X) 74 isi
        unfold erV
        cases hok : okB (bks ps)
        · have E := Lib.hid (rkB_ok (r := ⟨(n : Int), ps⟩) hok)
          rw [if_neg (by simp)]
          clear hok
          go_wp2
          go_ret
          exact ⟨_, rfl, .inl ⟨E.out, rfl⟩, B3.out⟩
        · rw [if_pos rfl]
          by_cases hf : firstOut (bks ps) < 0
          · have E := Lib.hid (rkB_all (r := ⟨(n : Int), ps⟩) HK.out PQ.out hok hf)
            rw [if_pos hf]
            clear hok hf
            go_wp2
            go_ret
            exact ⟨_, rfl, .inr ⟨E.out, w.heap.size + 1, by rw [Int.toNat_natCast]; rfl, by omega, by rw [Int.toNat_natCast]; exact HR3.out⟩, B3.out⟩
          · have E := Lib.hid (rkB_out (r := ⟨(n : Int), ps⟩) (show 0 ≤ firstOut (bks ps) by omega))
            rw [if_neg hf]
            clear hok hf
            go_wp2
            go_ret
            exact ⟨_, rfl, .inl ⟨E.out, rfl⟩, B3.out⟩
end

section
open Go.RowKit

/-- A rack lies from cell o of block g on. -/
structure RackAt (w : World) (g o : Nat) (r : Rk) (hv : Value) : Prop where
  low : g < w.heap.size
  n : w.cell? ⟨g, o, none⟩ = some (.int .i16 r.n)
  h : w.cell? ⟨g, o + 1, none⟩ = some hv
  ps : PlsOf w hv r.ps
theorem RackAt.below {w w' : World} {g o : Nat} {r : Rk} {hv : Value} (h : RackAt w g o r hv) (hb : Below w.heap.size w w') : RackAt w' g o r hv :=
  ⟨Nat.lt_of_lt_of_le h.low hb.size, (hb.cell (p := ⟨g, o, none⟩) h.low).trans h.n, (hb.cell (p := ⟨g, o + 1, none⟩) h.low).trans h.h, h.ps.below hb⟩
theorem RackAt.new {w : World} {r : Rk} {hv : Value} (t : TypeId) (h : PlsOf w hv r.ps) : RackAt (w.alloc (.cells #[.int .i16 r.n, hv] t)) w.heap.size 0 r hv := by
  have e := heap_alloc_new w (.cells #[.int .i16 r.n, hv] t)
  refine ⟨by simp, ?_, ?_, h.below ((Below.refl _ _).alloc (Nat.le_refl _) _)⟩ <;> (rw [cell_of_row _ _ _ _ _ _ e]; rfl)
theorem plBk {w : World} {g o : Nat} {xs : List Pl} (h : AtN Pl.cells w g o xs) (hg : g < w.heap.size) {i : Nat} (hi : i < xs.length) : BkAt w g (o + i * 9 + 1) xs[i].b := by
  obtain ⟨_, p1, p2, p3, p4, p5, p6, p7, p8⟩ := plAt_some h hi
  exact ⟨hg, p1, p2, p3, p4, p5, p6, p7, p8⟩

theorem l05Places_any (n : Int) (w : World) : Calls Tryd.prog 61 #[.int .i64 n] w fun e w' => e = .returned (.bool (inB n 1 60)) ∧ w = w' := by
  go_enter Tryd.func61, Tryd.ntmps61
  go_wp2_with fail
  refine (l00In_any _ _ _ _).mono ?_
  rintro e w' ⟨rfl, rfl⟩
  go_wp2
  go_ret
  exact ⟨rfl, rfl⟩
theorem l01BookAt (b : Bk) (hb : b.Wf) (g o : Nat) (w : World) (h : BkAt w g o b) :
    Calls Tryd.prog 43 #[.pointer (some ⟨g, o, none⟩)] w fun e w' => e = .returned (.bool (bookB b)) ∧ Below w.heap.size w w' := by
  obtain ⟨h0, h1, h2, h3, h4, h5, h6, h7, h8⟩ := h
  exact l01Book_any b hb g o w h1 h2 h3 h4 h5 h6 h7 h8 h0

theorem rk_round {r : Rk} {k : Nat} (hk : k < r.ps.length) (hp : PosTo r.n r.ps k) (hno : NoneTo (bks r.ps) k) :
    inB r.ps[k].p 0 (r.n - 1) = true → bookB r.ps[k].b = true → (∀ m (e : k = m + 1), (r.ps[m]'(by omega)).p < r.ps[k].p ∧ ¬ usual r.ps[k].b (r.ps[m]'(by omega)).b < 0) →
    PosTo r.n r.ps (k + 1) ∧ NoneTo (bks r.ps) (k + 1) := by
  intro h1 h2 h3
  have hi : 0 ≤ r.ps[k].p ∧ r.ps[k].p ≤ r.n - 1 := by unfold inB at h1; simpa using h1
  cases k with
  | zero => exact ⟨hp.succ hk (by rw [lstP_zero]; exact hi.1) hi.2, fun i a b => absurd b (by omega)⟩
  | succ m =>
    obtain ⟨a, b⟩ := h3 m rfl
    refine ⟨hp.succ hk (by rw [lstP_succ (by omega)]; omega) hi.2, hno.succ ?_⟩
    rw [outAt_eq (by rw [bks_length]; exact hk), bks_get, bks_get]
    exact decide_eq_false b

set_option maxHeartbeats 8000000 in
theorem l05Ok_any (r : Rk) (hv : Value) (wf : r.Wf) (g o : Nat) (w : World) (ha : RackAt w g o r hv) (ml : r.ps.length ≤ maxLen) :
    Calls Tryd.prog 62 #[.pointer (some ⟨g, o, none⟩)] w fun e w' => e = .returned (.bool (rkB r)) ∧ Below w.heap.size w w' := by
  have HA := Lib.hid ha
  have WF := Lib.hid wf
  obtain ⟨A, c, rfl, hat⟩ := ha.ps
  have HT := Lib.hid hat
  obtain ⟨bn1, bn2⟩ := wf.n
  have zg := ha.low
  unfold maxLen at ml
  have c0 := ha.n
  have c1 := ha.h
  clear ha wf hat
  cases hn : inB r.n 1 60
  · have E := Lib.hid (rkB_n hn)
    go_enter Tryd.func62, Tryd.ntmps62
    go_wp2_with fail
    refine (l05Places_any _ _).mono ?_
    rintro e w' ⟨rfl, rfl⟩
    rw [hn]
    go_wp2
    go_ret
    exact ⟨by rw [E.out]; rfl, Below.refl _ _⟩
  · have HN := Lib.hid hn
    go_enter Tryd.func62, Tryd.ntmps62
    go_wp2_with fail
    refine (l05Places_any _ _).mono ?_
    rintro e w' ⟨rfl, rfl⟩
    rw [hn]
    clear hn
    go_wp2
    clear c0 c1
    go_loopw [3] (fun i_ wr => ∃ (k : Nat) (x : Int), x = k ∧ k ≤ r.ps.length ∧ i_ = .int .i64 x ∧ PosTo r.n r.ps k ∧ AllTo (bks r.ps) k ∧ NoneTo (bks r.ps) k ∧ Below w.heap.size w wr) (fun i_ _ => r.ps.length - (intOf i_).toNat)
    case atStart => exact ⟨0, 0, rfl, Nat.zero_le _, rfl, posTo_zero _ _, fun i hi h => absurd h (Nat.not_lt_zero _), fun i h1 h2 => absurd h2 (Nat.not_lt_zero _), Below.refl _ _⟩
    case round =>
      obtain ⟨k, x, hx, hk, rfl, hp, hal, hno, hb⟩ := hrel
      have HP := Lib.hid hp
      have HL := Lib.hid hal
      have HO := Lib.hid hno
      have HB := Lib.hid hb
      have c0 := (HA.out.below hb).n
      have c1 := (HA.out.below hb).h
      have zw := hb.size
      clear hp hal hno hb
      by_cases hlt : k < r.ps.length
      · have hlt' := hlt
        have hltx : x < (r.ps.length : Int) := by omega
        have hx0 : 0 ≤ x := by omega
        obtain ⟨ga, oa, rfl, hga, hat⟩ := HT.out (by omega)
        have AT := Lib.hid (hat.below HB.out hga)
        have zga := Nat.lt_of_lt_of_le hga zw
        obtain ⟨p0, -⟩ := plAt_some AT.out hlt
        have wk := WF.out.ps _ (List.getElem_mem hlt)
        obtain ⟨wp1, wp2⟩ := wk.p
        have WB := Lib.hid wk.b
        have BA := Lib.hid (plBk AT.out zga hlt)
        clear hat wk
        have xn : x.toNat = k := by omega
        cases h1 : inB r.ps[k].p 0 (r.n - 1)
        · have E := Lib.hid (rkB_spec_bad_at hlt HP.out h1)
          subst hx
          go_wp2_with fail
          refine (l00In_any _ _ _ _).mono ?_
          rintro e w' ⟨rfl, rfl⟩
          rw [h1]
          clear h1
          go_wp2
          go_ret
          exact ⟨by rw [E.out]; rfl, HB.out⟩
        · have H1 := Lib.hid h1
          subst hx
          go_wp2_with fail
          refine (l00In_any _ _ _ _).mono ?_
          rintro e w' ⟨rfl, rfl⟩
          rw [h1]
          clear h1
          go_wp2_with fail
          refine (l01BookAt _ WB.out _ _ _ BA.out).mono ?_
          rintro e w1 ⟨rfl, g1⟩
          cases h2 : bookB r.ps[k].b
          · have E := Lib.hid (rkB_spec_bad_book hlt h2)
            clear h2
            go_wp2
            go_ret
            exact ⟨by rw [E.out]; rfl, bnext HB.out g1⟩
          · have H2 := Lib.hid h2
            clear h2
            clear p0
            have c0 := (HA.out.below (bnext HB.out g1)).n
            have c1 := (HA.out.below (bnext HB.out g1)).h
            have AT1 := Lib.hid (AT.out.below g1 zga)
            have zga1 : ga < w1.heap.size := Nat.lt_of_lt_of_le zga g1.size
            have zg1 : g < w1.heap.size := Nat.lt_of_lt_of_le zg (Nat.le_trans zw g1.size)
            have HB1 := Lib.hid (bnext HB.out g1)
            have c1 := belowBy_cell zg1 c1
            rcases Nat.eq_zero_or_pos k with hk0 | hk0
            · have RR := Lib.hid (rk_round hlt HP.out HO.out H1.out H2.out (fun m e => absurd e (by omega)))
              have d0 : decide ((0 : Int) < (k : Int)) = false := by simp; omega
              have d1 : ¬ (0 : Int) < (k : Int) := by omega
              have d3 : decide (0 < k) = false := by simp; omega
              have d4 : ¬ 0 < k := by omega
              clear hk0 c0
              go_wp2
              refine wp_region_below (by kernel_rfl) (by kernel_rfl) ?_
              repeat (first | go_big_quiet_step (fail) | quiet_step (fail))
              refine wpQuiet_nil ?_
              rintro wq ⟨⟨_, hq⟩, rfl⟩
              go_wp2
              go_roundw
              case rel => exact ⟨k + 1, (k : Int) + 1, by omega, by omega, by go_num, RR.out.1, HL.out.succ (by rw [bks_length]; exact hlt) (by rw [bks_get]; exact H2.out), RR.out.2, bnext HB1.out hq⟩
              case measure => simp [intOf]; omega
            · obtain ⟨m, hm⟩ : ∃ m, k = m + 1 := ⟨k - 1, by omega⟩
              have hml : m < r.ps.length := by omega
              have HM := Lib.hid hm
              have d0 : decide ((0 : Int) < (k : Int)) = true := by simp; omega
              have d1 : (0 : Int) < (k : Int) := by omega
              have d3 : decide (0 < k) = true := by simp; omega
              have d4 : 0 < k := by omega
              have n1 : IntKind.i64.wrap ((k : Int) - 1) = (m : Int) := by rw [show (k : Int) - 1 = (m : Int) by omega]; exact IntWalk.i64_in _ (by omega)
              have n2 : (k : Int) - 1 = (m : Int) := by omega
              have m0 : (0 : Int) ≤ (m : Int) := by omega
              have m1 : (m : Int) < (r.ps.length : Int) := by omega
              have wm := WF.out.ps _ (List.getElem_mem hml)
              obtain ⟨wq1, wq2⟩ := wm.p
              have WM := Lib.hid wm.b
              obtain ⟨q0, -⟩ := plAt_some AT1.out hml
              have q0 := belowBy_cell zga1 q0
              have BK := Lib.hid (plBk AT1.out zga1 hlt)
              have BM := Lib.hid (plBk AT1.out zga1 hml)
              clear hk0 hm c0 wm
              by_cases hle : r.ps[k].p ≤ r.ps[m].p
              · have E := Lib.hid (show rkB r = false by
                  have := HM.out
                  subst this
                  exact rkB_spec_bad_le hlt hle)
                have d2 : decide (r.ps[k].p ≤ r.ps[m].p) = true := by simpa using hle
                go_wp2
                refine wp_region_below (by kernel_rfl) (by kernel_rfl) ?_
                repeat (first | go_big_quiet_step (fail) | quiet_step (fail))
                refine wpQuiet_nil ?_
                rintro wq ⟨⟨_, hq⟩, rfl⟩
                clear q0 c1
                go_wp2
                go_ret
                exact ⟨by rw [E.out]; rfl, bnext HB1.out hq⟩
              · have d2 : decide (r.ps[k].p ≤ r.ps[m].p) = false := by simpa using hle
                have HU := Lib.hid (fun (p : BelowBy w1) => l01Usual_any r.ps[k].b r.ps[m].b WB.out WM.out ga (oa + k * 9 + 1) ga (oa + m * 9 + 1) p.W (BK.out.next p.h) (BM.out.next p.h))
                by_cases hu : usual r.ps[k].b r.ps[m].b < 0
                · have E := Lib.hid (show rkB r = false by
                    have := HM.out
                    subst this
                    exact rkB_spec_bad_out hlt HO.out (by rw [outAt_eq (by rw [bks_length]; exact hlt), bks_get, bks_get]; exact decide_eq_true hu))
                  generalize usual r.ps[k].b r.ps[m].b = z at HU hu
                  go_wp2
                  refine wp_region_below (by kernel_rfl) (by kernel_rfl) ?_
                  repeat (first | go_big_quiet_step ((go_at_call 83; exact calls_below (HU.out _))) | quiet_step ((go_at_call 83; exact calls_below (HU.out _))))
                  refine wpQuiet_nil ?_
                  rintro wq ⟨⟨_, hq⟩, rfl⟩
                  clear q0 c1
                  go_wp2
                  go_ret
                  exact ⟨by rw [E.out]; rfl, bnext HB1.out hq⟩
                · have RR := Lib.hid (rk_round hlt HP.out HO.out H1.out H2.out (fun m' e => by
                    have e2 : m' = m := by have := HM.out; omega
                    subst e2
                    exact ⟨by omega, hu⟩))
                  have hu' : 0 ≤ usual r.ps[k].b r.ps[m].b := by omega
                  generalize usual r.ps[k].b r.ps[m].b = z at HU hu hu'
                  go_wp2
                  refine wp_region_below (by kernel_rfl) (by kernel_rfl) ?_
                  repeat (first | go_big_quiet_step ((go_at_call 83; exact calls_below (HU.out _))) | quiet_step ((go_at_call 83; exact calls_below (HU.out _))))
                  refine wpQuiet_nil ?_
                  rintro wq ⟨⟨_, hq⟩, rfl⟩
                  clear q0 c1
                  go_wp2
                  go_roundw
                  case rel => exact ⟨k + 1, (k : Int) + 1, by omega, by omega, by go_num, RR.out.1, HL.out.succ (by rw [bks_length]; exact hlt) (by rw [bks_get]; exact H2.out), RR.out.2, bnext HB1.out hq⟩
                  case measure => simp [intOf]; omega
      · obtain rfl : k = r.ps.length := by omega
        have E := Lib.hid (rkB_spec_all HN.out HP.out HL.out HO.out)
        subst hx
        go_wp2
        go_ret
        exact ⟨by rw [E.out]; rfl, HB.out⟩
end

section
open Go.RowKit Go.Sort

theorem bks_take {ps : List Pl} {k : Nat} (h : k < ps.length) : (bks ps).take (k + 1) = (bks ps).take k ++ [ps[k].b] := by
  have e : k < (bks ps).length := by rw [bks_length]; exact h
  rw [List.take_succ_eq_append_getElem e, bks_get]

noncomputable def rkC (r : Rk) : Int := if rkB r then 0 else 1
noncomputable def rkBks (r : Rk) : List Bk := if rkB r then bks r.ps else []
end

section
open Go.RowKit Go.Sort

/-- The places that are found in a rack. -/
def PlV (r : Rk) (n : Nat) (base : Nat) (w : World) (v : Value) : Prop :=
  (rkB r = false ∧ v = .slice none 0 0) ∨ (rkB r = true ∧ ∃ g, v = .slice (some ⟨g, 0, none⟩) n n ∧ base ≤ g ∧ RowN Pc.cells 151 w g (plc n r.ps) n n)
theorem noCode_any (w : World) : Calls Tryd.prog 90 #[.agg #[]] w fun e w' => e = .returned (.int .i64 1) ∧ Below w.heap.size w w' := by
  go_enter Tryd.func90, Tryd.ntmps90
  go_wp2
  go_ret
  exact ⟨rfl, by go_grown⟩
theorem ta_no1 (W : World) : (Instr.typeAssert (.iface 134 (.agg #[])) 131 120 true).run Tryd.prog W = .ok (.tuple #[.slice none 0 0, .bool false]) W := by rfl
theorem ta_no2 (W : World) : (Instr.typeAssert (.iface 134 (.agg #[])) 131 134 true).run Tryd.prog W = .ok (.tuple #[.agg #[], .bool true]) W := by rfl
theorem ta_rp (v : Value) (W : World) : (Instr.typeAssert (.iface 120 v) 131 120 true).run Tryd.prog W = .ok (.tuple #[v, .bool true]) W := by rfl
set_option maxHeartbeats 4000000 in
theorem placesOf_any (r : Rk) (hv : Value) (wf : r.Wf) (w : World) (s i : Addr) (he : Er2 w s i) (hs : PlsOf w hv r.ps) (hn : r.ps.length ≤ 1048576) :
    Calls Tryd.prog 84 #[.agg #[.int .i16 r.n, hv]] w fun e w' => ∃ v, e = .returned (.tuple #[v, .int .i64 (rkC r)]) ∧ PlV r r.n.toNat w.heap.size w' v ∧ Below w.heap.size w w' := by
  have HE := Lib.hid he
  have WF := Lib.hid wf
  have HS := Lib.hid hs
  obtain ⟨A, c, rfl, -⟩ := hs
  have G0 := Lib.hid (show Below w.heap.size w (w.alloc (.cells #[.int .i16 r.n, .slice A r.ps.length c] 60)) by go_grown)
  clear he wf
  go_enter Tryd.func84, Tryd.ntmps84
  go_wp2_with fail
  refine (contentOf_any r _ WF.out _ s i (HE.out.below G0.out) (HS.out.below G0.out) hn).mono ?_
  rintro e w1 ⟨v, rfl, hc, g1⟩
  have B1 := Lib.hid (bnext G0.out g1)
  have z1 := G0.out.size
  rcases hc with ⟨hk, rfl⟩ | ⟨hk, g, rfl, hg, hr⟩
  · have E := Lib.hid (show rkC r = 1 by unfold rkC; rw [hk]; rfl)
    have HK := Lib.hid hk
    clear hk
    have TA := ta_no1
    have TA2 := ta_no2
    have d2 : Below w1.heap.size w1 (w1.alloc (.cells #[] 134)) := (Below.refl _ _).alloc (Nat.le_refl _) _
    go_wp2_with fail
    refine (noCode_any _).mono ?_
    rintro e w2 ⟨rfl, g2⟩
    go_wp2
    go_ret2
    exact ⟨_, by rw [E.out]; rfl, .inl ⟨HK.out, rfl⟩, bnext (bnext B1.out d2) g2⟩
  · have E := Lib.hid (show rkC r = 0 by unfold rkC; rw [hk]; rfl)
    have HK := Lib.hid hk
    have HR := Lib.hid hr
    have TA := fun (W : World) => ta_rp (.slice (some ⟨g, 0, none⟩) r.n.toNat r.n.toNat) W
    clear hk hr
    go_wp2
    go_ret2
    exact ⟨_, by rw [E.out]; rfl, .inr ⟨HK.out, g, rfl, Nat.le_trans z1 hg, HR.out⟩, B1.out⟩
theorem PlV.ok {r : Rk} {n base : Nat} {w : World} {v : Value} (h : PlV r n base w v) (hk : rkB r = true) : ∃ g, v = .slice (some ⟨g, 0, none⟩) n n ∧ base ≤ g ∧ RowN Pc.cells 151 w g (plc n r.ps) n n := by
  rcases h with ⟨h, _⟩ | ⟨_, h⟩
  · rw [hk] at h; cases h
  · exact h
theorem PlV.no {r : Rk} {n base : Nat} {w : World} {v : Value} (h : PlV r n base w v) (hk : rkB r = false) : v = .slice none 0 0 := by
  rcases h with ⟨_, h⟩ | ⟨h, _⟩
  · exact h
  · rw [hk] at h; cases h
set_option maxHeartbeats 4000000 in
theorem validRack_any (r : Rk) (hv : Value) (wf : r.Wf) (w : World) (s i : Addr) (he : Er2 w s i) (hs : PlsOf w hv r.ps) (hn : r.ps.length ≤ 1048576) :
    Calls Tryd.prog 64 #[.agg #[.int .i16 r.n, hv]] w fun e w' => e = .returned (.bool (rkB r)) ∧ Below w.heap.size w w' := by
  have HE := Lib.hid he
  have WF := Lib.hid wf
  have HS := Lib.hid hs
  obtain ⟨A, c, rfl, -⟩ := hs
  have G0 := Lib.hid (show Below w.heap.size w (w.alloc (.cells #[.int .i16 r.n, .slice A r.ps.length c] 60)) by go_grown)
  clear he wf
  go_enter Tryd.func64, Tryd.ntmps64
  go_wp2_with fail
  refine (placesOf_any r _ WF.out _ s i (HE.out.below G0.out) (HS.out.below G0.out) hn).mono ?_
  rintro e w1 ⟨v, rfl, -, g1⟩
  have B1 := Lib.hid (bnext G0.out g1)
  cases hk : rkB r
  · rw [show rkC r = 1 by unfold rkC; rw [hk]; rfl]
    have E := Lib.hid hk
    clear hk
    go_wp2
    go_ret
    exact ⟨by first | rfl | (rw [E.out]; rfl), B1.out⟩
  · rw [show rkC r = 0 by unfold rkC; rw [hk]; rfl]
    have E := Lib.hid hk
    clear hk
    go_wp2
    go_ret
    exact ⟨by first | rfl | (rw [E.out]; rfl), B1.out⟩
theorem rkBks_len (r : Rk) : (rkBks r).length ≤ r.ps.length := by
  unfold rkBks
  split
  · rw [bks_length]; exact Nat.le_refl _
  · exact Nat.zero_le _
theorem bkq_nil : bkq [] = [] := rfl
theorem pcs_nil (w : World) : PcsOf w (.slice none 0 0) [] := ⟨none, 0, rfl, fun h => absurd h (Nat.lt_irrefl _)⟩
theorem rk_nat {r : Rk} (h : rkB r = true) : r.n = (r.n.toNat : Int) ∧ 1 ≤ r.n.toNat ∧ r.n.toNat ≤ 60 ∧ PosTo (r.n.toNat : Int) r.ps r.ps.length := by
  obtain ⟨⟨h1, h2⟩, h3, _⟩ := rkB_of h
  have e : r.n = (r.n.toNat : Int) := by omega
  exact ⟨e, by omega, by omega, by rw [← e]; exact h3⟩
end

end Go.Proofs.YtkojnepgeegalaaDoor
