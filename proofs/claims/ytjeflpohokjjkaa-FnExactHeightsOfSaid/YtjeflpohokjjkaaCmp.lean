/- Books compared, as plain mathematics. No condition. -/
import Derived.Test.YtjeflpohokjjkaaOrd
namespace Go.Proofs.Ytjeflpohokjjkaa
set_option linter.unusedSimpArgs false
set_option linter.unusedVariables false
set_option maxRecDepth 100000
open Go.RowKit

/-- The three numbers of a field. -/
def n0 (f : Int) (b : Bk) : Int := if f = 1 then b.c else if f = 2 then b.m0 else if f = 3 then b.v else if f = 4 then b.wi else if f = 5 then b.hi else b.we
def n1 (f : Int) (b : Bk) : Int := if f = 2 then b.m1 else 0
def n2 (f : Int) (b : Bk) : Int := if f = 2 then b.m2 else 0

def side (z : Int) (lt : Bool) : Int := if lt == decide (0 < z) then -1 else 1

/-- Two books by one field. -/
def cmp1 (z : Int) (a b : Bk) : Int :=
  if n0 (fieldOf z) a ≠ n0 (fieldOf z) b then side z (decide (n0 (fieldOf z) a < n0 (fieldOf z) b))
  else if n1 (fieldOf z) a ≠ n1 (fieldOf z) b then side z (decide (n1 (fieldOf z) a < n1 (fieldOf z) b))
  else if n2 (fieldOf z) a ≠ n2 (fieldOf z) b then side z (decide (n2 (fieldOf z) a < n2 (fieldOf z) b)) else 0

theorem cmp1_cases (z : Int) (a b : Bk) :
    (n0 (fieldOf z) a ≠ n0 (fieldOf z) b ∧ cmp1 z a b = side z (decide (n0 (fieldOf z) a < n0 (fieldOf z) b))) ∨
    (n0 (fieldOf z) a = n0 (fieldOf z) b ∧ n1 (fieldOf z) a ≠ n1 (fieldOf z) b ∧ cmp1 z a b = side z (decide (n1 (fieldOf z) a < n1 (fieldOf z) b))) ∨
    (n0 (fieldOf z) a = n0 (fieldOf z) b ∧ n1 (fieldOf z) a = n1 (fieldOf z) b ∧ n2 (fieldOf z) a ≠ n2 (fieldOf z) b ∧ cmp1 z a b = side z (decide (n2 (fieldOf z) a < n2 (fieldOf z) b))) ∨
    (n0 (fieldOf z) a = n0 (fieldOf z) b ∧ n1 (fieldOf z) a = n1 (fieldOf z) b ∧ n2 (fieldOf z) a = n2 (fieldOf z) b ∧ cmp1 z a b = 0) := by
  unfold cmp1
  by_cases h0 : n0 (fieldOf z) a = n0 (fieldOf z) b <;> by_cases h1 : n1 (fieldOf z) a = n1 (fieldOf z) b <;> by_cases h2 : n2 (fieldOf z) a = n2 (fieldOf z) b <;> simp [h0, h1, h2]

/-- Two books by an order. -/
def cmpL : List Int → Bk → Bk → Int
  | [], _, _ => 0
  | z :: zs, a, b => if cmp1 z a b ≠ 0 then cmp1 z a b else cmpL zs a b

def usual (a b : Bk) : Int := cmpL [1, 2, 3] a b

def sgn (x y : Int) : Int := if x < y then -1 else if y < x then 1 else 0

/-- One number of a field. -/
def keyOf (f : Int) (b : Bk) : Int := if f = 1 then b.c else if f = 2 then b.m0 * 65536 + b.m1 * 256 + b.m2 else if f = 3 then b.v else if f = 4 then b.wi else if f = 5 then b.hi else b.we

theorem cmp1_pos (f : Int) (h : 1 ≤ f ∧ f ≤ 6) (a b : Bk) (ha : a.Wf) (hb : b.Wf) : cmp1 f a b = sgn (keyOf f a) (keyOf f b) := by
  have hf : fieldOf f = f := by unfold fieldOf; rw [if_neg (by omega)]
  have hp : decide (0 < f) = true := decide_eq_true (by omega)
  obtain ⟨_, a1, a2, a3, _, _, _, _⟩ := ha
  obtain ⟨_, b1, b2, b3, _, _, _, _⟩ := hb
  unfold cmp1 side
  rw [hf, hp]
  have : f = 1 ∨ f = 2 ∨ f = 3 ∨ f = 4 ∨ f = 5 ∨ f = 6 := by omega
  rcases this with rfl | rfl | rfl | rfl | rfl | rfl
  all_goals simp [n0, n1, n2, keyOf, sgn]
  all_goals repeat' split
  all_goals first | rfl | omega

theorem cmp1_neg (f : Int) (h : 1 ≤ f ∧ f ≤ 6) (a b : Bk) (ha : a.Wf) (hb : b.Wf) : cmp1 (-f) a b = sgn (keyOf f b) (keyOf f a) := by
  have hf : fieldOf (-f) = f := by unfold fieldOf; rw [if_pos (by omega), if_neg (by omega)]; omega
  have hp : decide (0 < -f) = false := decide_eq_false (by omega)
  obtain ⟨_, a1, a2, a3, _, _, _, _⟩ := ha
  obtain ⟨_, b1, b2, b3, _, _, _, _⟩ := hb
  unfold cmp1 side
  rw [hf, hp]
  have : f = 1 ∨ f = 2 ∨ f = 3 ∨ f = 4 ∨ f = 5 ∨ f = 6 := by omega
  rcases this with rfl | rfl | rfl | rfl | rfl | rfl
  all_goals simp [n0, n1, n2, keyOf, sgn]
  all_goals repeat' split
  all_goals first | rfl | omega

theorem side_ne (z : Int) (lt : Bool) : side z lt ≠ 0 := by unfold side; split <;> omega

theorem cmpL_drop (zs : List Int) (k : Nat) (hk : k < zs.length) (a b : Bk) : cmpL (zs.drop k) a b = if cmp1 zs[k] a b ≠ 0 then cmp1 zs[k] a b else cmpL (zs.drop (k + 1)) a b := by
  rw [List.drop_eq_getElem_cons hk]
  rfl

theorem cmpL_end (zs : List Int) (a b : Bk) : cmpL (zs.drop zs.length) a b = 0 := by rw [List.drop_length]; rfl

end Go.Proofs.Ytjeflpohokjjkaa
