/- Racks as plain data: which are valid; their places; which of them are taken. No condition. -/
import Derived.Test.YtgmipobohnagnaaDoorPl
import Derived.Test.YtgmipobohnagnaaDoorRuns
namespace Go.Proofs.YtgmipobohnagnaaDoor
set_option linter.unusedSimpArgs false
set_option linter.unusedVariables false
set_option maxRecDepth 100000
open Go.RowKit

def bks (ps : List Pl) : List Bk := ps.map (·.b)
theorem bks_length (ps : List Pl) : (bks ps).length = ps.length := by simp [bks]
theorem bks_get {ps : List Pl} {i : Nat} (h : i < (bks ps).length) : (bks ps)[i] = (ps[i]'(by rw [← bks_length]; exact h)).b := by simp [bks]
theorem bks_wf {ps : List Pl} (h : ∀ x ∈ ps, x.Wf) : ∀ b ∈ bks ps, b.Wf := by
  intro b hb
  obtain ⟨x, hx, rfl⟩ := List.mem_map.1 hb
  exact (h x hx).b
def lstP (ps : List Pl) (i : Nat) : Int := if i = 0 then 0 else (ps.getD (i - 1) default).p + 1
def PosTo (n : Int) (ps : List Pl) (k : Nat) : Prop := ∀ (i : Nat) (hi : i < ps.length), i < k → lstP ps i ≤ ps[i].p ∧ ps[i].p ≤ n - 1
open Classical in
noncomputable def posB (n : Int) (ps : List Pl) : Bool := decide (PosTo n ps ps.length)
noncomputable def rkB (r : Rk) : Bool := inB r.n 1 60 && (posB r.n r.ps && (okB (bks r.ps) && decide (firstOut (bks r.ps) < 0)))

theorem getD_pl {ps : List Pl} {i : Nat} (h : i < ps.length) : ps.getD i default = ps[i] := by
  rw [List.getD_eq_getElem?_getD, List.getElem?_eq_getElem h]; rfl
theorem lstP_zero (ps : List Pl) : lstP ps 0 = 0 := rfl
theorem lstP_succ {ps : List Pl} {i : Nat} (h : i < ps.length) : lstP ps (i + 1) = ps[i].p + 1 := by
  unfold lstP
  rw [if_neg (by omega), Nat.add_sub_cancel, getD_pl h]
theorem posTo_zero (n : Int) (ps : List Pl) : PosTo n ps 0 := fun _ _ h => absurd h (Nat.not_lt_zero _)
theorem PosTo.succ {n : Int} {ps : List Pl} {k : Nat} (h : PosTo n ps k) (hk : k < ps.length) (h1 : lstP ps k ≤ ps[k].p) (h2 : ps[k].p ≤ n - 1) : PosTo n ps (k + 1) := by
  intro i hi hik
  by_cases e : i = k
  · subst e; exact ⟨h1, h2⟩
  · exact h i hi (by omega)
theorem PosTo.mono {n : Int} {ps : List Pl} {k m : Nat} (h : PosTo n ps m) (hk : k ≤ m) : PosTo n ps k := fun i hi hik => h i hi (by omega)
theorem PosTo.ge {n : Int} {ps : List Pl} {k : Nat} (h : PosTo n ps k) : ∀ (i : Nat) (hi : i < ps.length), i < k → (i : Int) ≤ ps[i].p
  | 0, hi, hik => by have := (h 0 hi hik).1; rw [lstP_zero] at this; exact this
  | i + 1, hi, hik => by
    have h1 := (h (i + 1) hi hik).1
    rw [lstP_succ (by omega)] at h1
    have h2 := h.ge i (by omega) (by omega)
    omega
theorem PosTo.lt {n : Int} {ps : List Pl} {k : Nat} (h : PosTo n ps k) (i : Nat) : ∀ (j : Nat) (hj : j < ps.length) (hij : i < j), j < k → (ps[i]'(by omega)).p < ps[j].p
  | 0, _, hij, _ => absurd hij (Nat.not_lt_zero _)
  | j + 1, hj, hij, hjk => by
    have h1 := (h (j + 1) hj hjk).1
    rw [lstP_succ (by omega)] at h1
    by_cases e : i = j
    · subst e; omega
    · have := h.lt i j (by omega) (by omega) (by omega)
      omega
theorem PosTo.len {n : Int} {ps : List Pl} (h : PosTo n ps ps.length) (h0 : 0 ≤ n) : (ps.length : Int) ≤ n := by
  by_cases e : ps.length = 0
  · omega
  · have h1 := h.ge (ps.length - 1) (by omega) (by omega)
    have h2 := (h (ps.length - 1) (by omega) (by omega)).2
    omega
theorem PosTo.next {n : Int} {ps : List Pl} {k : Nat} (h : PosTo n ps k) (hk : k ≤ ps.length) : 0 ≤ lstP ps k := by
  cases k with
  | zero => rw [lstP_zero]; omega
  | succ k =>
    rw [lstP_succ (by omega)]
    have := h.ge k (by omega) (by omega)
    omega
theorem posB_all {n : Int} {ps : List Pl} (h : PosTo n ps ps.length) : posB n ps = true := by unfold posB; simpa using h
theorem posB_iff {n : Int} {ps : List Pl} : posB n ps = true ↔ PosTo n ps ps.length := by unfold posB; simp
theorem posB_bad {n : Int} {ps : List Pl} {k : Nat} (hk : k < ps.length) (h : ¬ (lstP ps k ≤ ps[k].p ∧ ps[k].p ≤ n - 1)) : posB n ps = false := by
  unfold posB
  rw [decide_eq_false_iff_not]
  exact fun hp => h (hp k hk hk)
theorem rkB_n {r : Rk} (h : inB r.n 1 60 = false) : rkB r = false := by unfold rkB; rw [h]; rfl
theorem rkB_pos {r : Rk} (h : posB r.n r.ps = false) : rkB r = false := by unfold rkB; rw [h]; simp
theorem rkB_ok {r : Rk} (h : okB (bks r.ps) = false) : rkB r = false := by unfold rkB; rw [h]; simp
theorem rkB_out {r : Rk} (h : 0 ≤ firstOut (bks r.ps)) : rkB r = false := by
  unfold rkB
  rw [decide_eq_false (by omega)]
  simp
theorem rkB_all {r : Rk} (h1 : inB r.n 1 60 = true) (h2 : posB r.n r.ps = true) (h3 : okB (bks r.ps) = true) (h4 : firstOut (bks r.ps) < 0) : rkB r = true := by
  unfold rkB
  rw [h1, h2, h3, decide_eq_true h4]
  rfl
theorem rkB_of {r : Rk} (h : rkB r = true) : (1 ≤ r.n ∧ r.n ≤ 60) ∧ PosTo r.n r.ps r.ps.length ∧ okB (bks r.ps) = true ∧ firstOut (bks r.ps) < 0 := by
  unfold rkB inB at h
  simp only [Bool.and_eq_true, decide_eq_true_eq] at h
  exact ⟨h.1, posB_iff.1 h.2.1, h.2.2.1, h.2.2.2⟩
theorem rkB_len {r : Rk} (h : rkB r = true) : r.ps.length ≤ 60 := by
  obtain ⟨⟨h1, h2⟩, h3, _⟩ := rkB_of h
  have := h3.len (by omega)
  omega
/-- What the model finds, book by book. -/
theorem rkB_spec_bad_at {r : Rk} {k : Nat} (hk : k < r.ps.length) (hp : PosTo r.n r.ps k) (h : inB r.ps[k].p 0 (r.n - 1) = false) : rkB r = false := by
  refine rkB_pos (posB_bad hk ?_)
  have := hp.next (by omega)
  unfold inB at h
  simp only [decide_eq_false_iff_not] at h
  omega
theorem rkB_spec_bad_book {r : Rk} {k : Nat} (hk : k < r.ps.length) (h : bookB r.ps[k].b = false) : rkB r = false :=
  rkB_ok (okB_bad (k := k) (by rw [bks_length]; exact hk) (by rw [bks_get]; exact h))
theorem rkB_spec_bad_le {r : Rk} {k : Nat} (hk : k + 1 < r.ps.length) (h : r.ps[k + 1].p ≤ (r.ps[k]'(by omega)).p) : rkB r = false := by
  refine rkB_pos (posB_bad hk ?_)
  rw [lstP_succ (by omega)]
  omega
theorem rkB_spec_bad_out {r : Rk} {k : Nat} (hk : k + 1 < r.ps.length) (hn : NoneTo (bks r.ps) (k + 1)) (h : outAt (bks r.ps) (k + 1) = true) : rkB r = false := by
  refine rkB_out ?_
  rw [firstOut_at hn (by omega) (by rw [bks_length]; exact hk) h]
  omega
theorem rkB_spec_all {r : Rk} (h1 : inB r.n 1 60 = true) (h2 : PosTo r.n r.ps r.ps.length) (h3 : AllTo (bks r.ps) r.ps.length) (h4 : NoneTo (bks r.ps) r.ps.length) : rkB r = true := by
  have hn : 1 ≤ r.n ∧ r.n ≤ 60 := by unfold inB at h1; simpa using h1
  refine rkB_all h1 (posB_all h2) ?_ ?_
  · rw [okB_all (fun i hi => h3 i hi (by rw [← bks_length]; exact hi)), bks_length]
    have := h2.len (by omega)
    exact decide_eq_true (by omega)
  · rw [firstOut_none (by rw [bks_length]; exact h4)]
    omega

/-! ### places -/
structure Pc where
  t : Bool
  b : Bk
  deriving DecidableEq, Inhabited
def Pc.cells (x : Pc) : List Value := [.bool x.t, .int .i16 x.b.c, .int .u8 x.b.m0, .int .u8 x.b.m1, .int .u8 x.b.m2, .int .i16 x.b.v, .int .i16 x.b.wi, .int .i16 x.b.hi, .int .i16 x.b.we]
theorem Pc.nine (x : Pc) : x.cells.length = 9 := rfl
def pc0 : Pc := ⟨false, ⟨0, 0, 0, 0, 0, 0, 0, 0⟩⟩
def plcTo (n : Nat) (ps : List Pl) : Nat → List Pc
  | 0 => List.replicate n pc0
  | k + 1 => (plcTo n ps k).set (ps.getD k default).p.toNat ⟨true, (ps.getD k default).b⟩
def plc (n : Nat) (ps : List Pl) : List Pc := plcTo n ps ps.length
theorem plcTo_length (n : Nat) (ps : List Pl) : ∀ k, (plcTo n ps k).length = n
  | 0 => by simp [plcTo]
  | k + 1 => by rw [plcTo, List.length_set]; exact plcTo_length n ps k
theorem plcTo_succ (n : Nat) {ps : List Pl} {k : Nat} (h : k < ps.length) : plcTo n ps (k + 1) = (plcTo n ps k).set ps[k].p.toNat ⟨true, ps[k].b⟩ := by rw [plcTo, getD_pl h]
theorem plc_at {n : Nat} {ps : List Pl} : ∀ {k : Nat} (_ : PosTo n ps k) (_ : k ≤ ps.length) (i : Nat) (hi : i < ps.length), i < k → (plcTo n ps k)[ps[i].p.toNat]? = some ⟨true, ps[i].b⟩
  | 0, _, _, i, _, hik => absurd hik (Nat.not_lt_zero _)
  | k + 1, hp, hk, i, hi, hik => by
    rw [plcTo_succ n (by omega), List.getElem?_set]
    have g := hp.ge i hi hik
    have u := (hp i hi hik).2
    by_cases e : i = k
    · subst e
      rw [if_pos rfl, if_pos (by rw [plcTo_length]; omega)]
    · have := hp.lt i k (by omega) (by omega) (by omega)
      have g2 := hp.ge k (by omega) (by omega)
      rw [if_neg (by omega)]
      exact plc_at (hp.mono (by omega)) (by omega) i hi (by omega)
theorem plc_free {n : Nat} {ps : List Pl} : ∀ {k : Nat} (_ : PosTo n ps k) (_ : k ≤ ps.length) (j : Nat) (_ : j < n) (_ : ∀ (i : Nat) (hi : i < ps.length), i < k → ps[i].p ≠ (j : Int)), (plcTo n ps k)[j]? = some pc0
  | 0, _, _, j, hj, _ => by rw [plcTo, List.getElem?_replicate, if_pos hj]
  | k + 1, hp, hk, j, hj, hne => by
    rw [plcTo_succ n (by omega), List.getElem?_set]
    have g := hp.ge k (by omega) (by omega)
    have h1 := hne k (by omega) (by omega)
    rw [if_neg (by omega)]
    exact plc_free (hp.mono (by omega)) (by omega) j hj (fun i hi hik => hne i hi (by omega))
/-- The place is taken. -/
def tkB (ps : List Pl) (j : Nat) : Bool := ps.any (fun x => x.p == (j : Int))
theorem tkB_yes {ps : List Pl} {i j : Nat} (hi : i < ps.length) (h : ps[i].p = (j : Int)) : tkB ps j = true := by
  unfold tkB
  rw [List.any_eq_true]
  exact ⟨ps[i], List.getElem_mem hi, by simpa using h⟩
theorem tkB_no {ps : List Pl} {j : Nat} (h : ∀ (i : Nat) (hi : i < ps.length), ps[i].p ≠ (j : Int)) : tkB ps j = false := by
  unfold tkB
  rw [List.any_eq_false]
  intro x hx
  obtain ⟨i, hi, rfl⟩ := List.getElem_of_mem hx
  simpa using h i hi
theorem tkB_or (ps : List Pl) (j : Nat) : (∃ (i : Nat) (hi : i < ps.length), ps[i].p = (j : Int) ∧ tkB ps j = true) ∨ ((∀ (i : Nat) (hi : i < ps.length), ps[i].p ≠ (j : Int)) ∧ tkB ps j = false) := by
  by_cases h : ∃ (i : Nat) (hi : i < ps.length), ps[i].p = (j : Int)
  · obtain ⟨i, hi, e⟩ := h
    exact .inl ⟨i, hi, e, tkB_yes hi e⟩
  · have h' : ∀ (i : Nat) (hi : i < ps.length), ps[i].p ≠ (j : Int) := fun i hi e => h ⟨i, hi, e⟩
    exact .inr ⟨h', tkB_no h'⟩
theorem getD_pc {q : List Pc} {i : Nat} {x : Pc} (h : q[i]? = some x) : q.getD i default = x := by
  rw [List.getD_eq_getElem?_getD, h]; rfl
theorem plc_tk {n : Nat} {ps : List Pl} (hp : PosTo n ps ps.length) {j : Nat} (hj : j < n) : ((plc n ps).getD j default).t = tkB ps j := by
  rcases tkB_or ps j with ⟨i, hi, e, ht⟩ | ⟨h, ht⟩
  · have := plc_at hp (Nat.le_refl _) i hi hi
    rw [e, Int.toNat_natCast] at this
    rw [ht, plc, getD_pc this]
  · have := plc_free hp (Nat.le_refl _) j hj (fun i hi _ => h i hi)
    rw [ht, plc, getD_pc this]
    rfl
def whereTo (t : Bool) (q : List Pc) : Nat → List Int
  | 0 => []
  | k + 1 => whereTo t q k ++ (if (q.getD k default).t == t then [(k : Int)] else [])
def whr (t : Bool) (q : List Pc) : List Int := whereTo t q q.length
theorem whereTo_length (t : Bool) (q : List Pc) : ∀ k, (whereTo t q k).length ≤ k
  | 0 => Nat.le_refl _
  | k + 1 => by
    have := whereTo_length t q k
    rw [whereTo, List.length_append]
    split <;> simp <;> omega
theorem whereTo_mem (t : Bool) (q : List Pc) : ∀ k, ∀ z ∈ whereTo t q k, 0 ≤ z ∧ z < (k : Int)
  | 0, z, h => by cases h
  | k + 1, z, h => by
    rw [whereTo, List.mem_append] at h
    rcases h with h | h
    · have := whereTo_mem t q k z h
      omega
    · split at h
      · rw [List.mem_singleton.1 h]; omega
      · cases h
theorem where_true {n : Nat} {ps : List Pl} (hp : PosTo n ps ps.length) : ∀ j, j ≤ n → ∃ c, c ≤ ps.length ∧ (∀ (i : Nat) (hi : i < ps.length), i < c → ps[i].p < (j : Int)) ∧ (∀ (i : Nat) (hi : i < ps.length), c ≤ i → (j : Int) ≤ ps[i].p) ∧ whereTo true (plc n ps) j = (ps.take c).map (·.p)
  | 0, _ => ⟨0, Nat.zero_le _, fun _ _ h => absurd h (Nat.not_lt_zero _), fun i hi _ => by have := hp.ge i hi hi; omega, by simp [whereTo]⟩
  | j + 1, hj => by
    obtain ⟨c, hc, h1, h2, h3⟩ := where_true hp j (by omega)
    have ht := plc_tk hp (j := j) (by omega)
    rw [whereTo, h3, ht]
    by_cases hcl : c < ps.length
    · by_cases e : ps[c].p = (j : Int)
      · refine ⟨c + 1, by omega, fun i hi hic => ?_, fun i hi hic => ?_, ?_⟩
        · by_cases e1 : i = c
          · subst e1; omega
          · have := h1 i hi (by omega); omega
        · have := hp.lt c i hi (by omega) hi
          omega
        · rw [tkB_yes hcl e, List.take_succ_eq_append_getElem hcl, List.map_append]
          simp [e]
      · have h4 := h2 c hcl (Nat.le_refl _)
        refine ⟨c, hc, fun i hi hic => by have := h1 i hi hic; omega, fun i hi hic => ?_, ?_⟩
        · by_cases e1 : i = c
          · subst e1; omega
          · have := hp.lt c i hi (by omega) hi
            omega
        · rw [tkB_no (fun i hi e1 => ?_)]
          · simp
          · by_cases hic : i < c
            · have := h1 i hi hic; omega
            · by_cases e2 : i = c
              · subst e2; exact e e1
              · have := hp.lt c i hi (by omega) hi
                omega
    · refine ⟨c, hc, fun i hi hic => by have := h1 i hi hic; omega, fun i hi hic => by omega, ?_⟩
      rw [tkB_no (fun i hi e1 => by have := h1 i hi (by omega); omega)]
      simp
theorem whr_true {n : Nat} {ps : List Pl} (hp : PosTo n ps ps.length) : whr true (plc n ps) = ps.map (·.p) := by
  obtain ⟨c, hc, h1, h2, h3⟩ := where_true hp n (Nat.le_refl _)
  have e : c = ps.length := by
    by_cases hcl : c < ps.length
    · have := h2 c hcl (Nat.le_refl _)
      have := (hp c hcl hcl).2
      omega
    · omega
  unfold whr
  rw [plc, plcTo_length]
  have h4 : whereTo true (plcTo n ps ps.length) n = (ps.take c).map (·.p) := h3
  rw [h4, e, List.take_length]
/-- The places that are free. -/
def frTo (ps : List Pl) : Nat → List Int
  | 0 => []
  | k + 1 => frTo ps k ++ (if tkB ps k then [] else [(k : Int)])
theorem frTo_length (ps : List Pl) : ∀ k, (frTo ps k).length ≤ k
  | 0 => Nat.le_refl _
  | k + 1 => by
    have := frTo_length ps k
    rw [frTo, List.length_append]
    split <;> simp <;> omega
theorem whr_false {n : Nat} {ps : List Pl} (hp : PosTo n ps ps.length) : whr false (plc n ps) = frTo ps n := by
  have : ∀ j, j ≤ n → whereTo false (plc n ps) j = frTo ps j := by
    intro j
    induction j with
    | zero => intro _; rfl
    | succ j ih =>
      intro hj
      rw [whereTo, frTo, ih (by omega), plc_tk hp (by omega)]
      cases tkB ps j <;> rfl
  have h := this n (Nat.le_refl _)
  unfold whr
  rw [show (plc n ps).length = n from plcTo_length n ps _]
  exact h
end Go.Proofs.YtgmipobohnagnaaDoor
