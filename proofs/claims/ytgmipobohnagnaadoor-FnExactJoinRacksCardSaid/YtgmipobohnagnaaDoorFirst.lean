/- The first book that is out of order, by the model and by the program: contracts. Condition: at most 1048576 books, whose numbers lie within their kinds. -/
import Derived.Test.YtgmipobohnagnaaDoorRuns2
namespace Go.Proofs.YtgmipobohnagnaaDoor
set_option linter.unusedSimpArgs false
set_option linter.unusedVariables false
set_option maxRecDepth 100000
open Go.RowKit

theorem runsTo_none {xs : List Bk} {k : Nat} (h : NoneTo xs (k + 1)) : runsTo xs (k + 1) = [0] := by
  induction k with
  | zero => rfl
  | succ k ih =>
    rw [runsTo, ih (fun i h1 h2 => h i h1 (by omega)), h (k + 1) (by omega) (by omega)]
    simp

theorem runsTo_prefix (xs : List Bk) (j n : Nat) (h : j ≤ n) : ∃ r, runsTo xs n = runsTo xs j ++ r := by
  induction n with
  | zero => exact ⟨[], by rw [show j = 0 by omega]; simp⟩
  | succ n ih =>
    by_cases e : j = n + 1
    · exact ⟨[], by rw [e]; simp⟩
    · obtain ⟨r, hr⟩ := ih (by omega)
      refine ⟨r ++ (if n == 0 || outAt xs n then [(n : Int)] else []), ?_⟩
      rw [runsTo, hr, List.append_assoc]

theorem none_or (xs : List Bk) (n : Nat) : NoneTo xs n ∨ ∃ k, 1 ≤ k ∧ k < n ∧ NoneTo xs k ∧ outAt xs k = true := by
  induction n with
  | zero => exact .inl fun i _ h => absurd h (Nat.not_lt_zero _)
  | succ n ih =>
    rcases ih with h | ⟨k, h1, h2, h3, h4⟩
    · by_cases h0 : 1 ≤ n
      · cases ho : outAt xs n
        · exact .inl (h.succ ho)
        · exact .inr ⟨n, h0, by omega, h, ho⟩
      · exact .inl fun i h1 h2 => absurd h2 (by omega)
    · exact .inr ⟨k, h1, by omega, h3, h4⟩

theorem runs_none {xs : List Bk} (h : NoneTo xs xs.length) : (runs xs).length < 2 := by
  unfold runs
  rcases hx : xs.length with _ | k
  · simp [runsTo]
  · rw [hx] at h
    rw [runsTo_none h]
    simp

theorem runs_out {xs : List Bk} {k : Nat} (h1 : 1 ≤ k) (h2 : k < xs.length) (h3 : NoneTo xs k) (h4 : outAt xs k = true) : ∃ r, runs xs = 0 :: (k : Int) :: r := by
  obtain ⟨m, rfl⟩ : ∃ m, k = m + 1 := ⟨k - 1, by omega⟩
  obtain ⟨r, hr⟩ := runsTo_prefix xs (m + 2) xs.length (by omega)
  refine ⟨r, ?_⟩
  unfold runs
  rw [hr, runsTo, runsTo_none h3, h4]
  simp

def foCode (xs : List Bk) : Int := if okB xs then (if firstOut xs < 0 then 6 else 0) else 1
def foAt (xs : List Bk) : Int := if okB xs then (if firstOut xs < 0 then 0 else firstOut xs) else 0

--fi
theorem ownsInts {w : World} {base : Nat} {v : Value} {l : List Int} {t : TypeId} (h : w.ownsRow base t 1 v l.length (l.map (Value.int .i64))) : IntsOf .i64 w v l := by
  rcases h.2 with ⟨rfl, hn⟩ | ⟨g, cap, cur, rfl, hb, hg, _⟩
  · exact ⟨none, 0, by rw [hn], fun h0 => absurd h0 (by omega)⟩
  · refine ⟨_, cap, rfl, fun _ => ⟨g, 0, rfl, (Array.getElem?_eq_some_iff.1 hg).1, fun i hi => ?_⟩⟩
    rw [Nat.zero_add, h.cellAt i (by omega)]
    simp [List.getElem?_eq_getElem hi]

--fi
end Go.Proofs.YtgmipobohnagnaaDoor
