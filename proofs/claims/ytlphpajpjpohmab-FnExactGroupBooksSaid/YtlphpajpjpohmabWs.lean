/- The waste of books on heights, by the program: contracts. Condition: numbers within their kinds, slices no longer than can be. -/
import Derived.Test.YtlphpajpjpohmabGroups
import Derived.Test.YtlphpajpjpohmabWof
namespace Go.Proofs.Ytlphpajpjpohmab
set_option linter.unusedSimpArgs false
set_option linter.unusedVariables false
set_option maxRecDepth 100000
open Go.RowKit

def bkA (xs : List Bk) (j : Int) : Bk := xs.getD j.toNat default
/-- The waste of some books of one height. -/
def gsL (hs : List Int) (xs : List Bk) (l : List Int) : Int := l.foldl (fun s j => s + wsA hs (bkA xs j)) 0
theorem gsL_snoc (hs : List Int) (xs : List Bk) (l : List Int) (j : Int) : gsL hs xs (l ++ [j]) = gsL hs xs l + wsA hs (bkA xs j) := by unfold gsL; rw [List.foldl_append]; rfl
def gsT (hs : List Int) (xs : List Bk) (m : Nat) : Nat → Int
  | 0 => 0
  | i + 1 => gsT hs xs m i + gsL hs xs (grP hs xs i m)
theorem gsT_zero (hs : List Int) (xs : List Bk) : ∀ i, gsT hs xs 0 i = 0
  | 0 => rfl
  | i + 1 => by rw [gsT, gsT_zero]; rfl
theorem gsT_step {hs : List Int} {xs : List Bk} {m : Nat} (hm : m < xs.length) : ∀ i, gsT hs xs (m + 1) i = gsT hs xs m i + (if hIx hs xs[m].hi < i then wsA hs xs[m] else 0)
  | 0 => by rw [if_neg (Nat.not_lt_zero _)]; rfl
  | i + 1 => by
    have ih := gsT_step (hs := hs) hm i
    have eb : bkA xs (m : Int) = xs[m] := by simp [bkA, List.getD, List.getElem?_eq_getElem hm]
    rw [gsT, gsT, ih]
    by_cases h : hIx hs xs[m].hi = i
    · rw [grP_yes hm h, gsL_snoc, eb, if_neg (by omega), if_pos (by omega)]; omega
    · rw [grP_no hm h]
      by_cases h2 : hIx hs xs[m].hi < i
      · rw [if_pos h2, if_pos (by omega)]; omega
      · rw [if_neg h2, if_neg (by omega)]; omega
theorem gsT_all {hs : List Int} {xs : List Bk} (ha : allHB hs xs = true) : ∀ m, m ≤ xs.length → gsT hs xs m hs.length = wsTo hs xs m
  | 0, _ => gsT_zero _ _ _
  | m + 1, h => by
    have hm : m < xs.length := by omega
    rw [gsT_step hm, gsT_all ha m (by omega), if_pos (allHB_get ha hm), wsTo_succ hm]
/-- The members of a group. -/
theorem grP_mem {hs : List Int} {xs : List Bk} {i : Nat} : ∀ (m : Nat), m ≤ xs.length → ∀ j ∈ grP hs xs i m, ∃ n : Nat, j = (n : Int) ∧ n < xs.length ∧ hIx hs (bkA xs j).hi = i
  | 0, _, j, h => by cases h
  | m + 1, hm, j, h => by
    have hm' : m < xs.length := by omega
    by_cases e : hIx hs xs[m].hi = i
    · rw [grP_yes hm' e, List.mem_append] at h
      rcases h with h | h
      · exact grP_mem m (by omega) j h
      · obtain rfl : j = (m : Int) := by simpa using h
        exact ⟨m, rfl, hm', by rw [show bkA xs (m : Int) = xs[m] by simp [bkA, List.getD, List.getElem?_eq_getElem hm']]; exact e⟩
    · rw [grP_no hm' e] at h
      exact grP_mem m (by omega) j h
def gsR (hs : List Int) (xs : List Bk) (l : List Int) (k : Nat) : Int := gsL hs xs (l.take k)
theorem gsR_succ {hs : List Int} {xs : List Bk} {l : List Int} {k : Nat} (h : k < l.length) : gsR hs xs l (k + 1) = gsR hs xs l k + wsA hs (bkA xs l[k]) := by
  unfold gsR
  rw [List.take_succ_eq_append_getElem h, gsL_snoc]
theorem gsL_bound {hs : List Int} {xs : List Bk} (l : List Int) (h : ∀ j ∈ l, 0 ≤ wsA hs (bkA xs j) ∧ wsA hs (bkA xs j) ≤ 100000) : ∀ k, k ≤ l.length → 0 ≤ gsR hs xs l k ∧ gsR hs xs l k ≤ 100000 * (k : Int)
  | 0, _ => by simp [gsR, gsL]
  | k + 1, hk => by
    have ih := gsL_bound l h k (by omega)
    have h2 := h _ (List.getElem_mem (show k < l.length by omega))
    rw [gsR_succ (by omega)]
    omega

set_option maxHeartbeats 1000000 in
theorem wideKeyP_any (b : Bk) (hb : b.Wf) (w : World) :
    Calls Try.prog 55 #[.agg #[.int .i16 b.c, .int .u8 b.m0, .int .u8 b.m1, .int .u8 b.m2, .int .i16 b.v, .int .i16 b.wi, .int .i16 b.hi, .int .i16 b.we]] w fun e w' => e = .returned (.int .i64 b.wi) ∧ Below w.heap.size w w' := by
  have G0 := Lib.hid (show Below w.heap.size w (w.alloc (.cells #[.int .i16 b.c, .int .u8 b.m0, .int .u8 b.m1, .int .u8 b.m2, .int .i16 b.v, .int .i16 b.wi, .int .i16 b.hi, .int .i16 b.we] 59)) by go_grown)
  obtain ⟨_, _, _, _, _, ⟨h1, h2⟩, _, _⟩ := hb
  go_enter Try.func55, Try.ntmps55
  go_wp2
  go_ret
  exact ⟨rfl, G0.out⟩

end Go.Proofs.Ytlphpajpjpohmab
