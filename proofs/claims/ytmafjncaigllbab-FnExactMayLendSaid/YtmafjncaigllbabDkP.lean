/- Desks as plain data: places in a queue, what is valid, which copies are as asked. No condition. -/
import Derived.Test.YtmafjncaigllbabDk
namespace Go.Proofs.Ytmafjncaigllbab
set_option linter.unusedSimpArgs false
set_option linter.unusedVariables false
set_option maxRecDepth 100000
open Go.RowKit

def perB (n : Int) : Bool := inB n 0 49

/-- The first place of a number in a list, or -1. -/
def placeI : List Int → Int → Int
  | [], _ => -1
  | x :: t, who => if x = who then 0 else if placeI t who < 0 then -1 else placeI t who + 1
def NoTo (q : List Int) (who : Int) (k : Nat) : Prop := ∀ (i : Nat) (hi : i < q.length), i < k → q[i] ≠ who
theorem NoTo.zero (q : List Int) (who : Int) : NoTo q who 0 := fun _ _ h => absurd h (Nat.not_lt_zero _)
theorem NoTo.succ {q : List Int} {who : Int} {k : Nat} (h : NoTo q who k) (hk : k < q.length) (hne : ¬ q[k] = who) : NoTo q who (k + 1) := by
  intro i hi hik
  by_cases e : i = k
  · subst e; exact hne
  · exact h i hi (by omega)
theorem placeI_ge (q : List Int) (who : Int) : -1 ≤ placeI q who := by
  induction q with
  | nil => simp [placeI]
  | cons x t ih => rw [placeI]; split; omega; split <;> omega
theorem placeI_lt (q : List Int) (who : Int) : placeI q who < q.length := by
  induction q with
  | nil => simp [placeI]
  | cons x t ih =>
    have e : ((x :: t).length : Int) = (t.length : Int) + 1 := by simp
    rw [placeI, e]
    split
    · omega
    · split <;> omega
theorem placeI_none {q : List Int} {who : Int} (h : NoTo q who q.length) : placeI q who = -1 := by
  induction q with
  | nil => rfl
  | cons x t ih =>
    have h0 : x ≠ who := h 0 (by simp) (by simp)
    have h1 : NoTo t who t.length := fun i hi _ => h (i + 1) (by simpa using hi) (by simpa using hi)
    rw [placeI, if_neg h0, ih h1]
    rfl
theorem placeI_at {q : List Int} {who : Int} {k : Nat} (hk : k < q.length) (h : NoTo q who k) (e : q[k] = who) : placeI q who = k := by
  induction q generalizing k with
  | nil => exact absurd hk (Nat.not_lt_zero _)
  | cons x t ih =>
    match k, hk, h, e with
    | 0, _, _, e => rw [placeI, if_pos (show x = who from e)]; rfl
    | k + 1, hk, h, e =>
      have h0 : x ≠ who := h 0 (by simp) (by omega)
      have h1 : placeI t who = k := ih (by simpa using hk) (fun i hi hik => h (i + 1) (by simpa using hi) (by omega)) e
      rw [placeI, if_neg h0, h1, if_neg (by omega)]
      omega
theorem placeI_neg {q : List Int} {who : Int} : placeI q who < 0 ↔ who ∉ q := by
  induction q with
  | nil => simp [placeI]
  | cons x t ih =>
    rw [placeI]
    by_cases e : x = who
    · rw [if_pos e]; simp [e]
    · rw [if_neg e]
      by_cases n : placeI t who < 0
      · rw [if_pos n]
        have := ih.1 n
        simp only [List.mem_cons, not_or]
        exact ⟨fun h => ⟨fun h2 => e h2.symm, this⟩, fun _ => by omega⟩
      · rw [if_neg n]
        have hm : who ∈ t := by
          apply Classical.byContradiction
          intro hc
          exact n (ih.2 hc)
        exact ⟨fun h => by omega, fun h => absurd (List.mem_cons_of_mem x hm) h⟩
theorem placeI_none_iff {q : List Int} {who : Int} : placeI q who = -1 ↔ who ∉ q := by
  have h1 := placeI_ge q who
  rw [← placeI_neg]
  omega
theorem noTo_mem {q : List Int} {who : Int} : NoTo q who q.length ↔ who ∉ q := by
  constructor
  · intro h hm
    obtain ⟨i, hi, e⟩ := List.getElem_of_mem hm
    exact h i hi hi e
  · intro h i hi _ e
    exact h (e ▸ List.getElem_mem hi)
theorem noTo_take {q : List Int} {who : Int} {k : Nat} (hk : k ≤ q.length) : NoTo q who k ↔ who ∉ q.take k := by
  constructor
  · intro h hm
    obtain ⟨i, hi, e⟩ := List.getElem_of_mem hm
    rw [List.length_take] at hi
    rw [List.getElem_take] at e
    exact h i (by omega) (by omega) e
  · intro h i hi hik e
    refine h (List.mem_iff_getElem.2 ⟨i, by rw [List.length_take]; omega, ?_⟩)
    rw [List.getElem_take]
    exact e
theorem placeI_self {q : List Int} {k : Nat} (hk : k < q.length) : placeI q q[k] = (k : Int) ↔ q[k] ∉ q.take k := by
  rw [← noTo_take (Nat.le_of_lt hk)]
  constructor
  · intro h i hi hik e
    have h2 : NoTo q q[k] i ∨ ¬ NoTo q q[k] i := Classical.em _
    -- the first place of this number is at most i
    have : placeI q q[k] ≤ i := by
      have key : ∀ (m : Nat) (hm : m < q.length), q[m] = q[k] → placeI q q[k] ≤ m := by
        intro m
        induction m using Nat.strongRecOn with
        | ind m ih =>
          intro hm em
          by_cases hn : NoTo q q[k] m
          · rw [placeI_at hm hn em]; exact Int.le_refl _
          · have : ∃ j, ∃ hj : j < q.length, j < m ∧ q[j] = q[k] := by
              apply Classical.byContradiction
              intro hc
              exact hn fun j hj hjm ej => hc ⟨j, hj, hjm, ej⟩
            obtain ⟨j, hj, hjm, ej⟩ := this
            have := ih j hjm hj ej
            omega
      exact key i hi e
    omega
  · intro h
    exact placeI_at hk h rfl

/-- The first k people of a queue are people, all different. -/
def QTo (q : List Int) (k : Nat) : Prop := ∀ (i : Nat) (hi : i < q.length), i < k → perB q[i] = true ∧ placeI q q[i] = (i : Int)
theorem QTo.zero (q : List Int) : QTo q 0 := fun _ _ h => absurd h (Nat.not_lt_zero _)
theorem QTo.succ {q : List Int} {k : Nat} (h : QTo q k) (hk : k < q.length) (h1 : perB q[k] = true) (h2 : placeI q q[k] = (k : Int)) : QTo q (k + 1) := by
  intro i hi hik
  by_cases e : i = k
  · subst e; exact ⟨h1, h2⟩
  · exact h i hi (by omega)
structure Away (c : Cp) : Prop where
  who : perB c.who = true
  due : inB c.due 0 10028 = true
  len : c.q.length ≤ 4
  not : c.who ∉ c.q
  q : QTo c.q c.q.length
open Classical in
noncomputable def awayB (c : Cp) : Bool := decide (Away c)
open Classical in
theorem away_t {c : Cp} (h : Away c) : awayB c = true := by unfold awayB; exact decide_eq_true h
open Classical in
theorem away_f {c : Cp} (h : ¬ Away c) : awayB c = false := by unfold awayB; exact decide_eq_false h
open Classical in
theorem away_of {c : Cp} (h : awayB c = true) : Away c := by unfold awayB at h; exact of_decide_eq_true h
/-- A copy is as told on a day. -/
noncomputable def cpB (c : Cp) (day : Int) : Bool :=
  if c.st = 0 then decide (c.who = 0 ∧ c.due = 0 ∧ c.ren = 0 ∧ c.q.length = 0) else if c.st = 1 then awayB c && inB c.ren 0 2 else if c.st = 2 then awayB c && decide (c.ren = 0 ∧ day ≤ c.due) else false

/-- Which of the first k copies are as asked. -/
def whTo (cs : List Cp) (p : Cp → Bool) : Nat → List Int
  | 0 => []
  | k + 1 => whTo cs p k ++ (if (cs[k]?).any p then [(k : Int)] else [])
def wh (cs : List Cp) (p : Cp → Bool) : List Int := whTo cs p cs.length
theorem whTo_yes {cs : List Cp} {p : Cp → Bool} {k : Nat} (hk : k < cs.length) (h : p cs[k] = true) : whTo cs p (k + 1) = whTo cs p k ++ [(k : Int)] := by
  rw [whTo, List.getElem?_eq_getElem hk]
  simp [h]
theorem whTo_no {cs : List Cp} {p : Cp → Bool} {k : Nat} (hk : k < cs.length) (h : p cs[k] = false) : whTo cs p (k + 1) = whTo cs p k := by
  rw [whTo, List.getElem?_eq_getElem hk]
  simp [h]
theorem whTo_len (cs : List Cp) (p : Cp → Bool) : ∀ k, (whTo cs p k).length ≤ k
  | 0 => Nat.le_refl _
  | k + 1 => by
    rw [whTo, List.length_append]
    have := whTo_len cs p k
    split <;> simp <;> omega
theorem whTo_mono (cs : List Cp) (p : Cp → Bool) (k : Nat) : ∀ d, (whTo cs p k).length ≤ (whTo cs p (k + d)).length
  | 0 => Nat.le_refl _
  | d + 1 => Nat.le_trans (whTo_mono cs p k d) (by rw [show k + (d + 1) = (k + d) + 1 by omega, whTo, List.length_append]; omega)
theorem wh_len (cs : List Cp) (p : Cp → Bool) : (wh cs p).length ≤ cs.length := whTo_len _ _ _
theorem whTo_mem {cs : List Cp} {p : Cp → Bool} : ∀ (k : Nat) (x : Int), x ∈ whTo cs p k → 0 ≤ x ∧ x < k ∧ ∃ (i : Nat) (hi : i < cs.length), x = (i : Int) ∧ p cs[i] = true
  | 0, x, h => by simp [whTo] at h
  | k + 1, x, h => by
    rw [whTo, List.mem_append] at h
    rcases h with h | h
    · obtain ⟨h1, h2, h3⟩ := whTo_mem k x h
      exact ⟨h1, by omega, h3⟩
    · by_cases hc : (cs[k]?).any p = true
      · rw [if_pos hc] at h
        have hx : x = (k : Int) := by simpa using h
        have hk : k < cs.length := by
          rcases Nat.lt_or_ge k cs.length with h | h
          · exact h
          · rw [List.getElem?_eq_none h] at hc; simp at hc
        rw [List.getElem?_eq_getElem hk] at hc
        exact ⟨by omega, by omega, k, hk, hx, by simpa using hc⟩
      · rw [if_neg hc] at h
        simp at h

def lentTo (who : Int) (c : Cp) : Bool := decide (c.st = 1 ∧ c.who = who)
def heldFor (who : Int) (c : Cp) : Bool := decide (c.st = 2 ∧ c.who = who)
/-- The desk is valid. -/
structure DkOk (d : Dk) : Prop where
  day : inB d.day 0 10000 = true
  len : d.cs.length ≤ 60
  cp : ∀ (i : Nat) (hi : i < d.cs.length), cpB d.cs[i] d.day = true
  loans : ∀ n : Nat, n < 50 → (wh d.cs (lentTo n)).length ≤ 3
open Classical in
noncomputable def dkB (d : Dk) : Bool := decide (DkOk d)
open Classical in
theorem dk_t {d : Dk} (h : DkOk d) : dkB d = true := by unfold dkB; exact decide_eq_true h
open Classical in
theorem dk_f {d : Dk} (h : ¬ DkOk d) : dkB d = false := by unfold dkB; exact decide_eq_false h
open Classical in
theorem dk_of {d : Dk} (h : dkB d = true) : DkOk d := by unfold dkB at h; exact of_decide_eq_true h
end Go.Proofs.Ytmafjncaigllbab
