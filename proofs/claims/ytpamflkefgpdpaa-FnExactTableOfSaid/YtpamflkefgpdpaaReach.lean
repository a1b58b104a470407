/- How far books are put on a shelf; layouts; as plain data. No condition. -/
import Derived.Test.YtpamflkefgpdpaaPart
namespace Go.Proofs.Ytpamflkefgpdpaa
set_option linter.unusedSimpArgs false
set_option linter.unusedVariables false
set_option maxRecDepth 100000
open Go.RowKit

/-- From book k on, with the first one i: how far the books fit on shelf s. -/
def reachF (c : Cs) (s : Nat) (xs : List Bk) (i : Nat) : Nat → Nat → Nat
  | 0, k => k
  | f + 1, k => if fitsB c s (part xs i (k + 1)) then reachF c s xs i f (k + 1) else k
def reach (c : Cs) (s : Nat) (xs : List Bk) (i : Nat) : Nat := reachF c s xs i (xs.length - i) i

theorem reachF_le (c : Cs) (s : Nat) (xs : List Bk) (i : Nat) : ∀ f k, k ≤ reachF c s xs i f k ∧ reachF c s xs i f k ≤ k + f
  | 0, k => by simp [reachF]
  | f + 1, k => by
    have := reachF_le c s xs i f (k + 1)
    unfold reachF
    split <;> omega
theorem reach_le {c : Cs} {s : Nat} {xs : List Bk} {i : Nat} (h : i ≤ xs.length) : i ≤ reach c s xs i ∧ reach c s xs i ≤ xs.length := by
  have := reachF_le c s xs i (xs.length - i) i
  unfold reach
  omega

/-- Where the books of the first s shelves end that are filled. -/
def fillAt (c : Cs) (xs : List Bk) : Nat → Nat
  | 0 => 0
  | s + 1 => reach c s xs (fillAt c xs s)
theorem fillAt_le (c : Cs) (xs : List Bk) : ∀ s, fillAt c xs s ≤ xs.length
  | 0 => Nat.zero_le _
  | s + 1 => (reach_le (fillAt_le c xs s)).2
def fillEnds (c : Cs) (xs : List Bk) (s : Nat) : List Int := (List.range s).map fun j => (fillAt c xs (j + 1) : Int)
theorem fillEnds_length (c : Cs) (xs : List Bk) (s : Nat) : (fillEnds c xs s).length = s := by simp [fillEnds]
theorem fillEnds_succ (c : Cs) (xs : List Bk) (s : Nat) : fillEnds c xs (s + 1) = fillEnds c xs s ++ [(fillAt c xs (s + 1) : Int)] := by
  unfold fillEnds
  rw [List.range_succ, List.map_append]
  rfl

/-! ### layouts -/
/-- Where the books of a shelf begin. -/
def fromE (es : List Int) (s : Nat) : Int := if s = 0 then 0 else es.getD (s - 1) 0
def okAt (c : Cs) (xs : List Bk) (es : List Int) (s : Nat) : Bool :=
  decide (s < es.length) && (decide (fromE es s ≤ es.getD s 0) && (decide (es.getD s 0 ≤ xs.length) && fitsB c s (part xs (fromE es s).toNat (es.getD s 0).toNat)))
/-- The first k shelves are good. -/
def OkTo (c : Cs) (xs : List Bk) (es : List Int) (k : Nat) : Prop := ∀ s, s < k → okAt c xs es s = true
/-- How many shelves are good ahead of the first bad one. -/
def goodN (c : Cs) (xs : List Bk) (es : List Int) : Nat := ((List.range c.hs.length).takeWhile (okAt c xs es)).length
/-- .. it is a layout. -/
def layB (c : Cs) (xs : List Bk) (es : List Int) : Bool := decide (goodN c xs es = c.hs.length) && (decide (fromE es c.hs.length = xs.length) && decide (es.length = c.hs.length))

theorem takeWhile_range (n : Nat) (p : Nat → Bool) (k : Nat) (hk : k ≤ n) (h : ∀ i, i < k → p i = true) (hp : k = n ∨ p k = false) : ((List.range n).takeWhile p).length = k := by
  have e : List.range n = List.range k ++ (List.range (n - k)).map (· + k) := by
    have : List.range n = List.range (k + (n - k)) := by congr 1; omega
    rw [this, List.range_add]
    simp [Nat.add_comm]
  rw [e, List.takeWhile_append_of_pos (fun a ha => h a (List.mem_range.1 ha))]
  rcases hp with rfl | hp
  · simp
  · rcases hn : n - k with _ | m
    · simp
    · rw [List.range_succ_eq_map]
      simp [List.takeWhile_cons, hp]

theorem goodN_bad {c : Cs} {xs : List Bk} {es : List Int} {k : Nat} (h : OkTo c xs es k) (hk : k < c.hs.length) (hb : okAt c xs es k = false) : goodN c xs es = k := takeWhile_range _ _ k (by omega) h (.inr hb)
theorem goodN_all {c : Cs} {xs : List Bk} {es : List Int} (h : OkTo c xs es c.hs.length) : goodN c xs es = c.hs.length := takeWhile_range _ _ _ (Nat.le_refl _) h (.inl rfl)
theorem OkTo.succ {c : Cs} {xs : List Bk} {es : List Int} {k : Nat} (h : OkTo c xs es k) (hk : okAt c xs es k = true) : OkTo c xs es (k + 1) := by
  intro s hs
  by_cases e : s = k
  · subst e; exact hk
  · exact h s (by omega)

/-- Ahead of a good shelf the numbers rise from 0 on, up to the number of books. -/
theorem OkTo.from_in {c : Cs} {xs : List Bk} {es : List Int} : ∀ {k : Nat}, OkTo c xs es k → 0 ≤ fromE es k ∧ fromE es k ≤ xs.length ∧ (k ≠ 0 → k ≤ es.length)
  | 0, _ => by simp [fromE]
  | k + 1, h => by
    have ih := OkTo.from_in (k := k) fun s hs => h s (by omega)
    have h1 := h k (by omega)
    unfold okAt at h1
    simp only [Bool.and_eq_true, decide_eq_true_eq] at h1
    have e : fromE es (k + 1) = es.getD k 0 := by simp [fromE]
    rw [e]
    omega
theorem fromE_succ (es : List Int) (k : Nat) : fromE es (k + 1) = es.getD k 0 := by simp [fromE]

end Go.Proofs.Ytpamflkefgpdpaa
