/- The first book that is out of order, by the model and by the program: contracts. Condition: at most 1048576 books, whose numbers lie within their kinds. -/
import Derived.Test.YtahpcnfoiiggeaaRuns2
namespace Go.Proofs.Ytahpcnfoiiggeaa
set_option linter.unusedSimpArgs false
set_option linter.unusedVariables false
open Go.RowKit

theorem runsTo_none {xs : List Bk} {k : Nat} (h : NoneTo xs (k + 1)) : runsTo xs (k + 1) = [0] := by
  induction k with
  | zero => rfl
  | succ k ih =>
    rw [runsTo, ih (fun i h1 h2 => h i h1 (by omega)), h (k + 1) (by omega) (by omega)]
    simp

theorem runsTo_prefix (xs : List Bk) (j n : Nat) (h : j ≤ n) : ∃ r, runsTo xs n = runsTo xs j ++ r := by
  induction n with
  | zero => exact ⟨[], by rw [show j = 0 by omega]; simp⟩
  | succ n ih =>
    by_cases e : j = n + 1
    · exact ⟨[], by rw [e]; simp⟩
    · obtain ⟨r, hr⟩ := ih (by omega)
      refine ⟨r ++ (if n == 0 || outAt xs n then [(n : Int)] else []), ?_⟩
      rw [runsTo, hr, List.append_assoc]

theorem none_or (xs : List Bk) (n : Nat) : NoneTo xs n ∨ ∃ k, 1 ≤ k ∧ k < n ∧ NoneTo xs k ∧ outAt xs k = true := by
  induction n with
  | zero => exact .inl fun i _ h => absurd h (Nat.not_lt_zero _)
  | succ n ih =>
    rcases ih with h | ⟨k, h1, h2, h3, h4⟩
    · by_cases h0 : 1 ≤ n
      · cases ho : outAt xs n
        · exact .inl (h.succ ho)
        · exact .inr ⟨n, h0, by omega, h, ho⟩
      · exact .inl fun i h1 h2 => absurd h2 (by omega)
    · exact .inr ⟨k, h1, by omega, h3, h4⟩

theorem runs_none {xs : List Bk} (h : NoneTo xs xs.length) : (runs xs).length < 2 := by
  unfold runs
  rcases hx : xs.length with _ | k
  · simp [runsTo]
  · rw [hx] at h
    rw [runsTo_none h]
    simp

theorem runs_out {xs : List Bk} {k : Nat} (h1 : 1 ≤ k) (h2 : k < xs.length) (h3 : NoneTo xs k) (h4 : outAt xs k = true) : ∃ r, runs xs = 0 :: (k : Int) :: r := by
  obtain ⟨m, rfl⟩ : ∃ m, k = m + 1 := ⟨k - 1, by omega⟩
  obtain ⟨r, hr⟩ := runsTo_prefix xs (m + 2) xs.length (by omega)
  refine ⟨r, ?_⟩
  unfold runs
  rw [hr, runsTo, runsTo_none h3, h4]
  simp

def foCode (xs : List Bk) : Int := if okB xs then (if firstOut xs < 0 then 6 else 0) else 1
def foAt (xs : List Bk) : Int := if okB xs then (if firstOut xs < 0 then 0 else firstOut xs) else 0

set_option maxHeartbeats 1000000 in
theorem specFirstOut_any (v : Value) (xs : List Bk) (wf : ∀ b ∈ xs, b.Wf) (w : World) (hs : SliceOf w v xs) (hn : xs.length ≤ maxLen) :
    Calls Try.prog 33 #[v] w fun e w' => e = .returned (.tuple #[.int .i64 (foAt xs), .int .i64 (foCode xs)]) ∧ Below w.heap.size w w' := by
  have HS := Lib.hid hs
  have WF := Lib.hid wf
  clear hs wf
  cases hk : okB xs
  · have E0 := Lib.hid (show foAt xs = 0 by unfold foAt; rw [hk]; rfl)
    have E1 := Lib.hid (show foCode xs = 1 by unfold foCode; rw [hk]; rfl)
    go_enter Try.func33, Try.ntmps33
    go_wp2_with fail
    refine (l01Ok_any v xs WF.out _ HS.out hn).mono ?_
    rintro e w1 ⟨rfl, h1⟩
    rw [hk]
    go_wp2
    go_ret2
    exact ⟨by rw [E0.out, E1.out]; rfl, h1⟩
  · have E0 := Lib.hid (show foAt xs = if firstOut xs < 0 then 0 else firstOut xs by unfold foAt; rw [hk]; rfl)
    have E1 := Lib.hid (show foCode xs = if firstOut xs < 0 then 6 else 0 by unfold foCode; rw [hk]; rfl)
    go_enter Try.func33, Try.ntmps33
    go_wp2_with fail
    refine (l01Ok_any v xs WF.out _ HS.out hn).mono ?_
    rintro e w1 ⟨rfl, h1⟩
    rw [hk]
    clear hk
    go_wp2_with fail
    refine (l01Out_any v xs WF.out _ (HS.out.below h1) hn).mono ?_
    rintro e w2 ⟨rfl, h2⟩
    generalize firstOut xs = f at E0 E1 ⊢
    by_cases hf : f < 0
    · rw [if_pos hf] at E0 E1
      go_wp2
      go_ret2
      exact ⟨by rw [E0.out, E1.out]; rfl, bnext h1 h2⟩
    · rw [if_neg hf] at E0 E1
      go_wp2
      go_ret2
      exact ⟨by rw [E0.out, E1.out]; rfl, bnext h1 h2⟩

theorem ownsInts {w : World} {base : Nat} {v : Value} {l : List Int} {t : TypeId} (h : w.ownsRow base t 1 v l.length (l.map (Value.int .i64))) : IntsOf .i64 w v l := by
  rcases h.2 with ⟨rfl, hn⟩ | ⟨g, cap, cur, rfl, hb, hg, _⟩
  · exact ⟨none, 0, by rw [hn], fun h0 => absurd h0 (by omega)⟩
  · refine ⟨_, cap, rfl, fun _ => ⟨g, 0, rfl, (Array.getElem?_eq_some_iff.1 hg).1, fun i hi => ?_⟩⟩
    rw [Nat.zero_add, h.cellAt i (by omega)]
    simp [List.getElem?_eq_getElem hi]

set_option maxHeartbeats 1000000 in
theorem firstOut_any (v : Value) (xs : List Bk) (wf : ∀ b ∈ xs, b.Wf) (w : World) (hs : SliceOf w v xs) (hn : xs.length ≤ 1048576) (hm : xs.length ≤ maxLen) :
    Calls Try.prog 34 #[v] w fun e w' => e = .returned (.tuple #[.int .i64 (foAt xs), .int .i64 (foCode xs)]) ∧ Below w.heap.size w w' := by
  have HS := Lib.hid hs
  have WF := Lib.hid wf
  clear hs wf
  cases hk : okB xs
  · have E0 := Lib.hid (show foAt xs = 0 by unfold foAt; rw [hk]; rfl)
    have E1 := Lib.hid (show foCode xs = 1 by unfold foCode; rw [hk]; rfl)
    go_enter Try.func34, Try.ntmps34
    go_wp2_with fail
    refine (validBooks_any v xs _ HS.out hm).mono ?_
    rintro e w1 ⟨rfl, h1⟩
    rw [hk]
    go_wp2
    go_ret2
    exact ⟨by rw [E0.out, E1.out]; rfl, h1⟩
  · have E0 := Lib.hid (show foAt xs = if firstOut xs < 0 then 0 else firstOut xs by unfold foAt; rw [hk]; rfl)
    have E1 := Lib.hid (show foCode xs = if firstOut xs < 0 then 6 else 0 by unfold foCode; rw [hk]; rfl)
    go_enter Try.func34, Try.ntmps34
    go_wp2_with fail
    refine (validBooks_any v xs _ HS.out hm).mono ?_
    rintro e w1 ⟨rfl, h1⟩
    rw [hk]
    clear hk
    go_wp2_with fail
    refine (runsOf_any v xs WF.out _ (HS.out.below h1) hn).mono ?_
    rintro e w2 ⟨v2, rfl, ho, h2⟩
    obtain ⟨A, c, rfl, hI⟩ := ownsInts ho
    clear ho
    rcases none_or xs xs.length with hno | ⟨k, k1, k2, k3, k4⟩
    · have hl := runs_none hno
      have hf := firstOut_none hno
      rw [hf, if_pos (by omega)] at E0 E1
      have hl' : ((runs xs).length : Int) < 2 := by omega
      clear hI hno hf
      go_wp2
      go_ret2
      exact ⟨by rw [E0.out, E1.out]; rfl, bnext h1 h2⟩
    · have hf := firstOut_at k3 k1 k2 k4
      rw [hf, if_neg (by omega)] at E0 E1
      obtain ⟨r, hr⟩ := runs_out k1 k2 k3 k4
      obtain ⟨g, o, rfl, hg, hat⟩ := hI (by rw [hr]; simp)
      have hl : 2 ≤ (runs xs).length := by rw [hr]; simp
      have hl' : ¬ ((runs xs).length : Int) < 2 := by omega
      have c1 := hat 1 (by omega)
      have e1 : (runs xs)[1]'(by omega) = (k : Int) := by simp [hr]
      rw [e1] at c1
      have hlen := runsTo_length xs xs.length
      have hlm : (runs xs).length ≤ 1048576 := by unfold runs; omega
      have hl1 : (1 : Int) < ((runs xs).length : Int) := by omega
      clear hat hf hr e1 k3 k4 hlen
      go_wp2
      go_ret2
      exact ⟨by rw [E0.out, E1.out]; rfl, bnext h1 h2⟩

end Go.Proofs.Ytahpcnfoiiggeaa
