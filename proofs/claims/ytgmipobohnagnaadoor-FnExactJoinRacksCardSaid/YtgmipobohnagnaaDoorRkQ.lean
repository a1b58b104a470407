/- What is found in the places of a rack, as plain data: books, books in places, room for a book, the longest rows. No condition. -/
import Derived.Test.YtgmipobohnagnaaDoorRkD
namespace Go.Proofs.YtgmipobohnagnaaDoor
set_option linter.unusedSimpArgs false
set_option linter.unusedVariables false
set_option maxRecDepth 100000
open Go.RowKit

def bkq (q : List Pc) : List Bk := (whr true q).map (fun z => (q.getD z.toNat default).b)
def plq (q : List Pc) : List Pl := (whr true q).map (fun z => ⟨z, (q.getD z.toNat default).b⟩)
theorem bkq_plc {n : Nat} {ps : List Pl} (hp : PosTo n ps ps.length) : bkq (plc n ps) = bks ps := by
  unfold bkq bks
  rw [whr_true hp, List.map_map]
  refine List.map_congr_left fun x hx => ?_
  obtain ⟨i, hi, rfl⟩ := List.getElem_of_mem hx
  have := plc_at hp (Nat.le_refl _) i hi hi
  simp only [Function.comp_apply, plc, getD_pc this]
theorem plq_plc {n : Nat} {ps : List Pl} (hp : PosTo n ps ps.length) : plq (plc n ps) = ps := by
  unfold plq
  rw [whr_true hp, List.map_map]
  conv => rhs; rw [← List.map_id ps]
  refine List.map_congr_left fun x hx => ?_
  obtain ⟨i, hi, rfl⟩ := List.getElem_of_mem hx
  have := plc_at hp (Nat.le_refl _) i hi hi
  simp only [Function.comp_apply, plc, getD_pc this, id]
theorem bkq_length (q : List Pc) : (bkq q).length = (whr true q).length := by simp [bkq]
theorem plq_length (q : List Pc) : (plq q).length = (whr true q).length := by simp [plq]
theorem whr_length (t : Bool) (q : List Pc) : (whr t q).length ≤ q.length := whereTo_length t q _
theorem whr_mem {t : Bool} {q : List Pc} {z : Int} (h : z ∈ whr t q) : 0 ≤ z ∧ z < (q.length : Int) := whereTo_mem t q _ z h
theorem map_take_succ {α β : Type} (f : α → β) (l : List α) (k : Nat) (h : k < l.length) : (l.map f).take (k + 1) = (l.map f).take k ++ [f l[k]] := by
  rw [List.take_succ_eq_append_getElem (by simpa using h)]
  simp

/-! ### room for a book -/
def rmTo (n : Int) (ps : List Pl) (i : Nat) : Int := if i < ps.length then (ps.getD i default).p else n
/-- The books up to c are those that b does not come ahead of. -/
def Parts (b : Bk) (ps : List Pl) (c : Nat) : Prop := c ≤ ps.length ∧ (∀ (i : Nat) (hi : i < ps.length), i < c → 0 ≤ usual b ps[i].b) ∧ (∀ (i : Nat) (hi : i < ps.length), c ≤ i → usual b ps[i].b < 0)
def frs (b : Bk) (q : List Pc) : Nat → Int
  | 0 => 0
  | j + 1 => if (q.getD j default).t = true ∧ 0 ≤ usual b (q.getD j default).b then (j : Int) + 1 else frs b q j
theorem frs_bd (b : Bk) (q : List Pc) : ∀ j, 0 ≤ frs b q j ∧ frs b q j ≤ (j : Int)
  | 0 => ⟨Int.le_refl _, Int.le_refl _⟩
  | j + 1 => by
    have := frs_bd b q j
    rw [frs]
    split <;> omega
theorem plc_book {n : Nat} {ps : List Pl} (hp : PosTo n ps ps.length) {i j : Nat} (hi : i < ps.length) (e : ps[i].p = (j : Int)) : ((plc n ps).getD j default).t = true ∧ ((plc n ps).getD j default).b = ps[i].b := by
  have := plc_at hp (Nat.le_refl _) i hi hi
  rw [e, Int.toNat_natCast] at this
  have h2 : (plc n ps).getD j default = ⟨true, ps[i].b⟩ := getD_pc this
  rw [h2]
  exact ⟨rfl, rfl⟩
theorem frs_eq {n : Nat} {ps : List Pl} {b : Bk} {m : Nat} (hp : PosTo n ps ps.length) (hm : Parts b ps m) : ∀ j, j ≤ n → ∃ c, c ≤ ps.length ∧ (∀ (i : Nat) (hi : i < ps.length), i < c → ps[i].p < (j : Int)) ∧ (∀ (i : Nat) (hi : i < ps.length), c ≤ i → (j : Int) ≤ ps[i].p) ∧ frs b (plc n ps) j = lstP ps (min c m)
  | 0, _ => ⟨0, Nat.zero_le _, fun _ _ h => absurd h (Nat.not_lt_zero _), fun i hi _ => by have := hp.ge i hi hi; omega, by rw [Nat.zero_min]; rfl⟩
  | j + 1, hj => by
    obtain ⟨c, hc, h1, h2, h3⟩ := frs_eq hp hm j (by omega)
    rw [frs, h3]
    by_cases hcl : c < ps.length
    · by_cases e : ps[c].p = (j : Int)
      · obtain ⟨e1, e2⟩ := plc_book hp hcl e
        refine ⟨c + 1, by omega, fun i hi hic => ?_, fun i hi hic => ?_, ?_⟩
        · by_cases e3 : i = c
          · subst e3; omega
          · have := h1 i hi (by omega); omega
        · have := hp.lt c i hi (by omega) hi
          omega
        · rw [e1, e2]
          by_cases hcm : c < m
          · rw [if_pos ⟨rfl, hm.2.1 c hcl hcm⟩, show min (c + 1) m = c + 1 by omega, lstP_succ hcl]
            omega
          · have := hm.2.2 c hcl (by omega)
            rw [if_neg (by omega), show min (c + 1) m = min c m by omega]
      · have h4 := h2 c hcl (Nat.le_refl _)
        have hno : tkB ps j = false := tkB_no (fun i hi e1 => by
          by_cases hic : i < c
          · have := h1 i hi hic; omega
          · by_cases e2 : i = c
            · subst e2; exact e e1
            · have := hp.lt c i hi (by omega) hi
              omega)
        have ht := plc_tk hp (j := j) (by omega)
        rw [hno] at ht
        refine ⟨c, hc, fun i hi hic => by have := h1 i hi hic; omega, fun i hi hic => ?_, ?_⟩
        · by_cases e1 : i = c
          · subst e1; omega
          · have := hp.lt c i hi (by omega) hi
            omega
        · rw [if_neg (by rw [ht]; simp)]
    · have hno : tkB ps j = false := tkB_no (fun i hi e1 => by have := h1 i hi (by omega); omega)
      have ht := plc_tk hp (j := j) (by omega)
      rw [hno] at ht
      refine ⟨c, hc, fun i hi hic => by have := h1 i hi hic; omega, fun i hi hic => by omega, ?_⟩
      rw [if_neg (by rw [ht]; simp)]
theorem frs_all {n : Nat} {ps : List Pl} {b : Bk} {m : Nat} (hp : PosTo n ps ps.length) (hm : Parts b ps m) : frs b (plc n ps) n = lstP ps m := by
  obtain ⟨c, hc, h1, h2, h3⟩ := frs_eq hp hm n (Nat.le_refl _)
  have e : c = ps.length := by
    by_cases hcl : c < ps.length
    · have := h2 c hcl (Nat.le_refl _)
      have := (hp c hcl hcl).2
      omega
    · omega
  have := hm.1
  rw [h3, e, show min ps.length m = m by omega]
theorem room_free {n : Nat} {ps : List Pl} {m : Nat} (hp : PosTo n ps ps.length) (hm : m ≤ ps.length) {j : Nat} (h1 : lstP ps m ≤ (j : Int)) (h2 : (j : Int) < rmTo n ps m) : tkB ps j = false := by
  refine tkB_no fun i hi e => ?_
  by_cases him : i < m
  · cases m with
    | zero => omega
    | succ m =>
      rw [lstP_succ (by omega)] at h1
      by_cases e1 : i = m
      · subst e1; omega
      · have := hp.lt i m (by omega) (by omega) (by omega)
        omega
  · unfold rmTo at h2
    by_cases hml : m < ps.length
    · rw [if_pos hml, getD_pl hml] at h2
      by_cases e1 : i = m
      · subst e1; omega
      · have := hp.lt m i hi (by omega) hi
        omega
    · omega
theorem room_le {n : Nat} {ps : List Pl} {m : Nat} (hp : PosTo n ps ps.length) (hm : m ≤ ps.length) : 0 ≤ lstP ps m ∧ lstP ps m ≤ rmTo n ps m ∧ rmTo n ps m ≤ n := by
  have h0 := hp.mono hm |>.next hm
  refine ⟨h0, ?_⟩
  unfold rmTo
  by_cases hml : m < ps.length
  · rw [if_pos hml, getD_pl hml]
    have := hp m hml hml
    omega
  · rw [if_neg hml]
    cases m with
    | zero => rw [lstP_zero]; omega
    | succ m =>
      rw [lstP_succ (by omega)]
      have := hp m (by omega) (by omega)
      omega
theorem room_end {n : Nat} {ps : List Pl} {m : Nat} (hml : m < ps.length) {j : Nat} (h : (j : Int) = rmTo n ps m) : tkB ps j = true := by
  unfold rmTo at h
  rw [if_pos hml, getD_pl hml] at h
  exact tkB_yes hml h.symm

/-! ### rows -/
def lrow (t : Bool) (ps : List Pl) : Nat → Int × Int × Int
  | 0 => (0, 0, 0)
  | j + 1 =>
    let s := lrow t ps j
    if tkB ps j != t then (s.1, s.2.1, (j : Int) + 1)
    else if s.2.1 < (j : Int) - s.2.2 + 1 then (s.2.2, (j : Int) - s.2.2 + 1, s.2.2)
    else s
theorem lrow_bd (t : Bool) (ps : List Pl) : ∀ j, (0 ≤ (lrow t ps j).1 ∧ (lrow t ps j).1 ≤ (j : Int)) ∧ (0 ≤ (lrow t ps j).2.1 ∧ (lrow t ps j).2.1 ≤ (j : Int)) ∧ (0 ≤ (lrow t ps j).2.2 ∧ (lrow t ps j).2.2 ≤ (j : Int))
  | 0 => ⟨⟨Int.le_refl _, Int.le_refl _⟩, ⟨Int.le_refl _, Int.le_refl _⟩, ⟨Int.le_refl _, Int.le_refl _⟩⟩
  | j + 1 => by
    have := lrow_bd t ps j
    rw [lrow]
    split
    · simp only; omega
    · split
      · simp only; omega
      · omega
theorem lrow_other {t : Bool} {ps : List Pl} {j : Nat} (h : (tkB ps j != t) = true) : lrow t ps (j + 1) = ((lrow t ps j).1, (lrow t ps j).2.1, (j : Int) + 1) := by rw [lrow]; rw [if_pos h]
theorem lrow_more {t : Bool} {ps : List Pl} {j : Nat} (h : (tkB ps j != t) = false) (h2 : (lrow t ps j).2.1 < (j : Int) - (lrow t ps j).2.2 + 1) : lrow t ps (j + 1) = ((lrow t ps j).2.2, (j : Int) - (lrow t ps j).2.2 + 1, (lrow t ps j).2.2) := by
  rw [lrow]; rw [if_neg (by rw [h]; simp), if_pos h2]
theorem lrow_less {t : Bool} {ps : List Pl} {j : Nat} (h : (tkB ps j != t) = false) (h2 : ¬ (lrow t ps j).2.1 < (j : Int) - (lrow t ps j).2.2 + 1) : lrow t ps (j + 1) = lrow t ps j := by
  rw [lrow]; rw [if_neg (by rw [h]; simp), if_neg h2]
end Go.Proofs.YtgmipobohnagnaaDoor
