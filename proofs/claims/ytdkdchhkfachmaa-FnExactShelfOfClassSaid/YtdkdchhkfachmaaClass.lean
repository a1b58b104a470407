/- The shelves on which a class stands, as plain data; the program's search for a class: contracts. Condition: a layout. -/
import Derived.Test.YtdkdchhkfachmaaWhereIs
namespace Go.Proofs.Ytdkdchhkfachmaa
set_option linter.unusedSimpArgs false
set_option linter.unusedVariables false
set_option maxRecDepth 100000
open Go.RowKit

/-- First and last shelf of the first k books with a class. -/
def scF (xs : List Bk) (es : List Int) (cl : Int) : Nat → Int × Int
  | 0 => (-1, -1)
  | k + 1 => if (xs.getD k default).c = cl then (if (scF xs es cl k).1 < 0 then (shOf es (k : Int) : Int) else (scF xs es cl k).1, (shOf es (k : Int) : Int)) else scF xs es cl k
def clAny (xs : List Bk) (es : List Int) (cl : Int) (s : Nat) : Bool := (part xs (fromE es s).toNat (es.getD s 0).toNat).any (fun b => b.c == cl)
/-- The shelves ahead of s with a book of a class. -/
def scL (xs : List Bk) (es : List Int) (cl : Int) : Nat → List Int
  | 0 => []
  | s + 1 => scL xs es cl s ++ (if clAny xs es cl s then [(s : Int)] else [])

theorem scL_len (xs : List Bk) (es : List Int) (cl : Int) : ∀ s, (scL xs es cl s).length ≤ s
  | 0 => by simp [scL]
  | s + 1 => by
    have := scL_len xs es cl s
    rw [scL, List.length_append]
    split <;> simp <;> omega
theorem scL_mem (xs : List Bk) (es : List Int) (cl : Int) : ∀ s : Nat, ∀ z ∈ scL xs es cl s, 0 ≤ z ∧ z < s
  | 0, z, h => by simp [scL] at h
  | s + 1, z, h => by
    rw [scL, List.mem_append] at h
    rcases h with h | h
    · have := scL_mem xs es cl s z h; omega
    · split at h
      · simp at h; omega
      · simp at h

theorem lay_mono {c : Cs} {xs : List Bk} {es : List Int} (h : layB c xs es = true) : ∀ (s t : Nat), t < s → s ≤ es.length → es.getD t 0 ≤ fromE es s
  | 0, t, ht, _ => absurd ht (by omega)
  | s + 1, t, ht, hs => by
    rw [fromE_succ]
    by_cases e : t = s
    · subst e; exact Int.le_refl _
    · obtain ⟨_, i, k, hi, hk, hik, _⟩ := lay_at h (j := s) (by omega)
      have := lay_mono h s t (by omega) (by omega)
      rw [getD_ints (j := s) (by omega), hk]
      omega
theorem lay_shelf {c : Cs} {xs : List Bk} {es : List Int} (h1 : caseB c = true) (h : layB c xs es = true) {s b : Nat} (hs : s < es.length) (hb1 : fromE es s ≤ (b : Int)) (hb2 : (b : Int) < es[s]) : shOf es (b : Int) = s := by
  obtain ⟨_, i, k, hi, hk, hik, hkn, _⟩ := lay_at h hs
  obtain ⟨h0, h12, ⟨hll, hlast⟩, s1, _⟩ := lay_book h1 h (b := b) (by omega)
  obtain ⟨t1, t2, t3⟩ := shOf_in h0 hlast
  rcases Nat.lt_trichotomy (shOf es (b : Int)) s with hlt | he | hgt
  · have := lay_mono h s _ hlt (by omega)
    omega
  · exact he
  · have := t3 s hgt
    rw [getD_ints hs] at this
    omega

/-- Within one shelf. -/
theorem scF_shelf {c : Cs} {xs : List Bk} {es : List Int} {cl : Int} (h1 : caseB c = true) (h : layB c xs es = true) {s i k : Nat} (hs : s < es.length) (hi : fromE es s = i) (hk : es[s] = k) (hkn : k ≤ xs.length) : ∀ d, i + d ≤ k →
    scF xs es cl (i + d) = if (part xs i (i + d)).any (fun b => b.c == cl) then (if (scF xs es cl i).1 < 0 then (s : Int) else (scF xs es cl i).1, (s : Int)) else scF xs es cl i
  | 0, _ => by simp [part_nil]
  | d + 1, hd => by
    have ih := scF_shelf (cl := cl) h1 h hs hi hk hkn d (by omega)
    have hsh : shOf es ((i + d : Nat) : Int) = s := lay_shelf h1 h hs (by omega) (by omega)
    have hp : part xs i (i + (d + 1)) = part xs i (i + d) ++ [xs[i + d]'(by omega)] := by
      unfold part
      rw [show i + (d + 1) - i = d + 1 by omega, show i + d - i = d by omega, List.take_succ_eq_append_getElem (by simp; omega)]
      simp
    rw [hp, List.any_append, show i + (d + 1) = (i + d) + 1 by omega, scF, ih, getD_in_books (by omega), hsh]
    by_cases hc : (xs[i + d]'(by omega)).c = cl
    · rw [if_pos hc]
      cases hany : (part xs i (i + d)).any (fun b => b.c == cl)
      · simp [hc]
      · by_cases hf : (scF xs es cl i).1 < 0
        · simp [hc, hf, show ¬ ((s : Int) < 0) by omega]
        · simp [hc, hf]
    · rw [if_neg hc]
      have hcb : ((xs[i + d]'(by omega)).c == cl) = false := by simpa using hc
      cases hany : (part xs i (i + d)).any (fun b => b.c == cl) <;> simp [hcb]

def hd (l : List Int) : Int := l.headD (-1)
def lst (l : List Int) : Int := l.getLastD (-1)

theorem lst_snoc (l : List Int) (x : Int) : lst (l ++ [x]) = x := by unfold lst; rw [List.getLastD_eq_getLast?]; simp
theorem hd_app {l : List Int} (m : List Int) (h : l ≠ []) : hd (l ++ m) = hd l := by
  rcases l with _ | ⟨z, l⟩
  · exact absurd rfl h
  · rfl

theorem scF_scL {c : Cs} {xs : List Bk} {es : List Int} {cl : Int} (h1 : caseB c = true) (h : layB c xs es = true) : ∀ s, s ≤ es.length → scF xs es cl (fromE es s).toNat = (hd (scL xs es cl s), lst (scL xs es cl s))
  | 0, _ => by simp [fromE, scF, scL, hd, lst]
  | s + 1, hs => by
    obtain ⟨_, i, k, hi, hk, hik, hkn, _⟩ := lay_at h (j := s) (by omega)
    have ih := scF_scL (cl := cl) h1 h s (by omega)
    rw [hi, Int.toNat_natCast] at ih
    have hsf := scF_shelf (cl := cl) h1 h (by omega) hi hk hkn (k - i) (by omega)
    rw [show i + (k - i) = k by omega, ih] at hsf
    rw [fromE_succ, getD_ints (by omega), hk, Int.toNat_natCast, hsf, scL]
    have hca : clAny xs es cl s = (part xs i k).any (fun b => b.c == cl) := by unfold clAny; rw [hi, getD_ints (by omega), hk]; simp
    rw [hca]
    cases hany : (part xs i k).any (fun b => b.c == cl)
    · simp
    · have hne : hd (scL xs es cl s) < 0 ↔ scL xs es cl s = [] := by
        rcases hl : scL xs es cl s with _ | ⟨z, l⟩
        · simp [hd]
        · have := scL_mem xs es cl s z (by rw [hl]; simp)
          simp [hd]
          omega
      by_cases he : scL xs es cl s = []
      · rw [he]; simp [hd, lst]
      · have hnn : ¬ hd (scL xs es cl s) < 0 := fun h => he (hne.1 h)
        rw [if_pos rfl, if_neg hnn, if_pos rfl, lst_snoc, hd_app _ he]

/-- Head and last of the shelves rise. -/
theorem hd_le (xs : List Bk) (es : List Int) (cl : Int) : ∀ s, scL xs es cl s ≠ [] → hd (scL xs es cl s) ≤ lst (scL xs es cl s)
  | 0, h => absurd rfl h
  | s + 1, h => by
    rw [scL] at h ⊢
    have ih := hd_le xs es cl s
    have hm := scL_mem xs es cl s
    cases hc : clAny xs es cl s
    · rw [hc] at h
      simp at h
      simpa using ih h
    · rw [if_pos rfl, lst_snoc]
      rcases hl : scL xs es cl s with _ | ⟨z, l⟩
      · simp [hd]
      · have := hm z (by rw [hl]; simp)
        simp [hd]
        omega

def scR (c : Cs) (xs : List Bk) (es : List Int) (cl : Int) : Int × Int × Int :=
  if layCode c xs es = 0 then (if scL xs es cl c.hs.length = [] then (0, 0, 6) else (hd (scL xs es cl c.hs.length), lst (scL xs es cl c.hs.length), 0)) else (0, 0, layCode c xs es)

theorem sc_cases (c : Cs) (xs : List Bk) (es : List Int) (cl : Int) :
    (layCode c xs es = 1 ∧ scR c xs es cl = (0, 0, 1)) ∨ (layCode c xs es = 8 ∧ scR c xs es cl = (0, 0, 8)) ∨
    (layCode c xs es = 0 ∧ caseB c = true ∧ okB xs = true ∧ layB c xs es = true ∧
      ((scL xs es cl c.hs.length = [] ∧ scF xs es cl xs.length = (-1, -1) ∧ scR c xs es cl = (0, 0, 6)) ∨
       (∃ f l : Int, scL xs es cl c.hs.length ≠ [] ∧ hd (scL xs es cl c.hs.length) = f ∧ lst (scL xs es cl c.hs.length) = l ∧ scF xs es cl xs.length = (f, l) ∧ 0 ≤ f ∧ f ≤ l ∧ l ≤ 12 ∧ scR c xs es cl = (f, l, 0)))) := by
  rcases code_cases c xs es with h | h | ⟨h, h1, h2, h3⟩
  · left
    exact ⟨h, by unfold scR; rw [h]; rfl⟩
  · right; left
    exact ⟨h, by unfold scR; rw [h]; rfl⟩
  · right; right
    refine ⟨h, h1, h2, h3, ?_⟩
    have hle := lay_len h3
    have hc := caseB_lens h1
    have hf : fromE es c.hs.length = xs.length := by unfold layB at h3; simp only [Bool.and_eq_true, decide_eq_true_eq] at h3; exact h3.2.1
    have hs := scF_scL (cl := cl) h1 h3 c.hs.length (by omega)
    rw [hf, Int.toNat_natCast] at hs
    by_cases he : scL xs es cl c.hs.length = []
    · left
      exact ⟨he, by rw [hs, he]; rfl, by unfold scR; rw [h, he]; rfl⟩
    · right
      refine ⟨_, _, he, rfl, rfl, hs, ?_, hd_le xs es cl _ he, ?_, by unfold scR; rw [h, if_pos rfl, if_neg he]⟩
      · rcases hl : scL xs es cl c.hs.length with _ | ⟨z, l⟩
        · exact absurd hl he
        · exact (scL_mem xs es cl _ z (by rw [hl]; simp)).1
      · have hm := scL_mem xs es cl c.hs.length (lst (scL xs es cl c.hs.length)) (by
          unfold lst
          rw [List.getLastD_eq_getLast?, List.getLast?_eq_some_getLast he]
          simp)
        omega

end Go.Proofs.Ytdkdchhkfachmaa
