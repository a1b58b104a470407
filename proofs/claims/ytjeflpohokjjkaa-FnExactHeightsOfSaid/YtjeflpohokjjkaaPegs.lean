/- Pegs and heights as plain numbers: the least height that is high enough, the heights from the lowest on, which heights are valid. No condition. -/
import Derived.Test.YtjeflpohokjjkaaBk
namespace Go.Proofs.Ytjeflpohokjjkaa
set_option linter.unusedSimpArgs false
set_option linter.unusedVariables false
set_option maxRecDepth 100000
open Go.RowKit

structure Pg where
  lo : Int
  st : Int
  bo : Int
  deriving DecidableEq, Inhabited

structure Pg.Wf (p : Pg) : Prop where
  lo : -32768 ≤ p.lo ∧ p.lo ≤ 32767
  st : -32768 ≤ p.st ∧ p.st ≤ 32767
  bo : -32768 ≤ p.bo ∧ p.bo ≤ 32767

def pegsB (p : Pg) : Bool := inB p.lo 50 400 && (inB p.st 1 100 && inB p.bo 1 100)
theorem pegsB_true {p : Pg} (h : pegsB p = true) : (50 ≤ p.lo ∧ p.lo ≤ 400) ∧ (1 ≤ p.st ∧ p.st ≤ 100) ∧ (1 ≤ p.bo ∧ p.bo ≤ 100) := by
  unfold pegsB inB at h
  simpa only [Bool.and_eq_true, decide_eq_true_eq] using h

/-- What the model's loop leaves. -/
def pegF : Nat → Int → Int → Int → Int
  | 0, o, _, _ => o
  | f + 1, o, st, h => if o < h then pegF f (o + st) st h else o
def pegV (p : Pg) (h : Int) : Int := pegF 1001 p.lo p.st h

/-- What the program's iterator gives. -/
def upL : Nat → Int → Int → List Int
  | 0, _, _ => []
  | f + 1, o, st => if o ≤ 1000 then o :: upL f (o + st) st else []
def upw (p : Pg) : List Int := upL 1001 p.lo p.st
def fromV (p : Pg) (h : Int) : Option Int := (upw p).find? (fun x => decide (h ≤ x))

theorem upL_le : ∀ (f : Nat) (o st : Int), ∀ x ∈ upL f o st, x ≤ 1000
  | 0, _, _, x, h => by simp [upL] at h
  | f + 1, o, st, x, h => by
    rw [upL] at h
    split at h
    · rcases List.mem_cons.1 h with rfl | h
      · assumption
      · exact upL_le f _ _ x h
    · simp at h
theorem upL_ge : ∀ (f : Nat) (o st : Int), 0 ≤ st → ∀ x ∈ upL f o st, o ≤ x
  | 0, _, _, _, x, h => by simp [upL] at h
  | f + 1, o, st, hs, x, h => by
    rw [upL] at h
    split at h
    · rcases List.mem_cons.1 h with rfl | h
      · omega
      · have := upL_ge f (o + st) st hs x h; omega
    · simp at h
theorem fromV_le {p : Pg} {h v : Int} (e : fromV p h = some v) : v ≤ 1000 ∧ h ≤ v :=
  ⟨upL_le _ _ _ v (List.mem_of_find?_eq_some e), by simpa using List.find?_some e⟩
theorem fromV_ge {p : Pg} (hp : pegsB p = true) {h v : Int} (e : fromV p h = some v) : p.lo ≤ v :=
  upL_ge _ _ _ (by have := (pegsB_true hp).2.1; omega) v (List.mem_of_find?_eq_some e)

theorem pegF_ge : ∀ (f : Nat) (o st h : Int), 0 ≤ st → o ≤ pegF f o st h
  | 0, o, st, h, _ => by simp [pegF]
  | f + 1, o, st, h, hs => by
    rw [pegF]
    split
    · have := pegF_ge f (o + st) st h hs; omega
    · omega
theorem pegF_high : ∀ (f : Nat) (o st h : Int), 1 ≤ st → (h - o).toNat ≤ f → h ≤ pegF f o st h
  | 0, o, st, h, _, hf => by simp [pegF]; omega
  | f + 1, o, st, h, hs, hf => by
    rw [pegF]
    split
    · exact pegF_high f (o + st) st h hs (by omega)
    · omega
theorem pegF_lt : ∀ (f : Nat) (o st h : Int), 1 ≤ st → o < h + st → pegF f o st h < h + st
  | 0, o, st, h, _, ho => by simpa [pegF] using ho
  | f + 1, o, st, h, hs, ho => by
    rw [pegF]
    split
    · exact pegF_lt f (o + st) st h hs (by omega)
    · exact ho
theorem find_upL : ∀ (f : Nat) (o st h : Int), 1 ≤ st → h ≤ 1000 → (1000 - o).toNat < f → (upL f o st).find? (fun x => decide (h ≤ x)) = if pegF f o st h ≤ 1000 then some (pegF f o st h) else none
  | 0, o, st, h, _, _, hf => by omega
  | f + 1, o, st, h, hs, hh, hf => by
    rw [upL, pegF]
    by_cases h1 : o < h
    · have h2 : ¬ (h ≤ o) := by omega
      rw [if_pos (by omega), if_pos h1, List.find?_cons_of_neg (by simpa using h2)]
      exact find_upL f (o + st) st h hs hh (by omega)
    · have h2 : h ≤ o := by omega
      rw [if_neg h1]
      by_cases h3 : o ≤ 1000
      · rw [if_pos h3, if_pos h3, List.find?_cons_of_pos (by simpa using h2)]
      · rw [if_neg h3, if_neg h3]; rfl
theorem fromV_eq {p : Pg} (hp : pegsB p = true) {h : Int} (hh : h ≤ 1000) : fromV p h = if pegV p h ≤ 1000 then some (pegV p h) else none := by
  obtain ⟨⟨a, b⟩, ⟨c, d⟩, -⟩ := pegsB_true hp
  exact find_upL 1001 p.lo p.st h c hh (by omega)
theorem fromV_high {p : Pg} {h : Int} (hh : 1000 < h) : fromV p h = none := by
  unfold fromV
  rw [List.find?_eq_none]
  intro x hx
  have := upL_le _ _ _ x hx
  simp; omega
theorem pegV_bounds {p : Pg} (hp : pegsB p = true) {h : Int} (hh : h ≤ 1000) : 50 ≤ pegV p h ∧ pegV p h ≤ 1100 ∧ h ≤ pegV p h := by
  obtain ⟨⟨a, b⟩, ⟨c, d⟩, -⟩ := pegsB_true hp
  refine ⟨?_, ?_, ?_⟩
  · have := pegF_ge 1001 p.lo p.st h (by omega); unfold pegV; omega
  · by_cases e : p.lo < h + p.st
    · have := pegF_lt 1001 p.lo p.st h c e; unfold pegV; omega
    · unfold pegV; rw [pegF, if_neg (by omega)]; omega
  · exact pegF_high 1001 p.lo p.st h c (by omega)

/-- A book's height: there is a shelf for it. -/
theorem fromV_book {p : Pg} (hp : pegsB p = true) {h : Int} (hh : h ≤ 400) : fromV p h = some (pegV p h) := by
  obtain ⟨⟨a, b⟩, ⟨c, d⟩, -⟩ := pegsB_true hp
  rw [fromV_eq hp (by omega), if_pos]
  by_cases e : p.lo < h + p.st
  · have := pegF_lt 1001 p.lo p.st h c e; unfold pegV; omega
  · unfold pegV; rw [pegF, if_neg (by omega)]; omega

/-! ### which heights are valid -/
/-- What the program's loop says from an index on. -/
def okHF (p : Pg) : List Int → Int → Bool
  | [], _ => true
  | h :: t, b => (fromV p h == some h) && (decide (b < h) && okHF p t h)
def hsB (p : Pg) (hs : List Int) : Bool := pegsB p && (inB hs.length 1 6 && okHF p hs 0)

theorem okHF_drop {p : Pg} {hs : List Int} {i : Nat} {b : Int} (hi : i < hs.length) : okHF p (hs.drop i) b = ((fromV p hs[i] == some hs[i]) && (decide (b < hs[i]) && okHF p (hs.drop (i + 1)) hs[i])) := by
  rw [List.drop_eq_getElem_cons hi, okHF]
theorem hsB_cases (p : Pg) (hs : List Int) : (pegsB p = false ∧ hsB p hs = false) ∨ (pegsB p = true ∧ inB hs.length 1 6 = false ∧ hsB p hs = false) ∨ (pegsB p = true ∧ inB hs.length 1 6 = true ∧ hsB p hs = okHF p hs 0) := by
  unfold hsB
  cases pegsB p <;> cases inB hs.length 1 6 <;> simp
theorem hsB_len {p : Pg} {hs : List Int} (h : hsB p hs = true) : pegsB p = true ∧ 1 ≤ hs.length ∧ hs.length ≤ 6 := by
  unfold hsB inB at h
  simp only [Bool.and_eq_true, decide_eq_true_eq] at h
  exact ⟨h.1, by omega, by omega⟩
theorem okHF_bounds {p : Pg} (hp : pegsB p = true) : ∀ {hs : List Int} {b : Int}, okHF p hs b = true → ∀ h ∈ hs, 50 ≤ h ∧ h ≤ 1000
  | [], _, _, x, hx => by simp at hx
  | h :: t, b, e, x, hx => by
    rw [okHF] at e
    simp only [Bool.and_eq_true, beq_iff_eq] at e
    rcases List.mem_cons.1 hx with rfl | hx
    · have h1 := fromV_ge hp e.1
      have h2 := fromV_le e.1
      have := (pegsB_true hp).1
      omega
    · exact okHF_bounds hp e.2.2 x hx
theorem hsB_bounds {p : Pg} {hs : List Int} (h : hsB p hs = true) : ∀ x ∈ hs, 50 ≤ x ∧ x ≤ 1000 := by
  rcases hsB_cases p hs with ⟨_, e⟩ | ⟨_, _, e⟩ | ⟨h1, _, e⟩
  · rw [e] at h; cases h
  · rw [e] at h; cases h
  · rw [e] at h; exact okHF_bounds h1 h
/-- What the model tests at one height. -/
theorem pgAt {p : Pg} (hp : pegsB p = true) {h : Int} : (fromV p h == some h) = (inB h 0 1000 && decide (pegV p h = h)) := by
  by_cases h1 : 1000 < h
  · rw [fromV_high h1]
    have : inB h 0 1000 = false := by unfold inB; simp; omega
    rw [this]; rfl
  · rw [fromV_eq hp (by omega)]
    obtain ⟨a, b, c⟩ := pegV_bounds hp (h := h) (by omega)
    by_cases h2 : pegV p h = h
    · have : inB h 0 1000 = true := by unfold inB; simp; omega
      rw [this, if_pos (by omega), h2]; simp
    · rw [decide_eq_false h2, Bool.and_false]
      split
      · simpa using h2
      · rfl

end Go.Proofs.Ytjeflpohokjjkaa
