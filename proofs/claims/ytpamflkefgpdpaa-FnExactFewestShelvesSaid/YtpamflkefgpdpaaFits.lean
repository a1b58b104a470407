/- Which books fit on a shelf: the model's functions and the program's, contracts. Condition: lists no longer than slices can be, books' numbers within their kinds. -/
import Derived.Test.YtpamflkefgpdpaaCaseOk
import Derived.Test.YtpamflkefgpdpaaTot
namespace Go.Proofs.Ytpamflkefgpdpaa
set_option linter.unusedSimpArgs false
set_option linter.unusedVariables false
set_option maxRecDepth 100000
open Go.RowKit

def askB (c : Cs) (xs : List Bk) : Bool := caseB c && okB xs
def askCode (c : Cs) (xs : List Bk) : Int := if askB c xs then 0 else 1
theorem askB_cases (c : Cs) (xs : List Bk) : (caseB c = false ∧ askB c xs = false ∧ askCode c xs = 1) ∨ (caseB c = true ∧ okB xs = false ∧ askB c xs = false ∧ askCode c xs = 1) ∨ (caseB c = true ∧ okB xs = true ∧ askB c xs = true ∧ askCode c xs = 0) := by
  unfold askCode askB
  cases caseB c <;> cases okB xs <;> simp

set_option maxHeartbeats 1000000 in
theorem l02Asked_any (c : Cs) (hv v : Value) (xs : List Bk) (wc : c.Wf) (wf : ∀ b ∈ xs, b.Wf) (g : Nat) (w : World) (hc : CaseAt w g c hv) (mc : c.hs.length ≤ maxLen) (hs : SliceOf w v xs) (hn : xs.length ≤ maxLen) :
    Calls Try.prog 48 #[.pointer (some ⟨g, 0, none⟩), v] w fun e w' => e = .returned (.int .i64 (askCode c xs)) ∧ Below w.heap.size w w' := by
  have HC := Lib.hid hc
  have HS := Lib.hid hs
  have WF := Lib.hid wf
  clear hc hs wf
  rcases askB_cases c xs with ⟨h1, h2, h3⟩ | ⟨h1, h2, h3, h4⟩ | ⟨h1, h2, h3, h4⟩
  · have E := Lib.hid h3
    go_enter Try.func48, Try.ntmps48
    go_wp2_with fail
    refine (l02Ok_any c hv wc g _ HC.out mc).mono ?_
    rintro e w' ⟨rfl, rfl⟩
    rw [h1]
    go_wp2
    go_ret
    exact ⟨by rw [E.out]; rfl, Below.refl _ _⟩
  · have E := Lib.hid h4
    go_enter Try.func48, Try.ntmps48
    go_wp2_with fail
    refine (l02Ok_any c hv wc g _ HC.out mc).mono ?_
    rintro e w' ⟨rfl, rfl⟩
    rw [h1]
    go_wp2_with fail
    refine (l01Ok_any v xs WF.out _ HS.out hn).mono ?_
    rintro e w1 ⟨rfl, g1⟩
    rw [h2]
    go_wp2
    go_ret
    exact ⟨by rw [E.out]; rfl, g1⟩
  · have E := Lib.hid h4
    go_enter Try.func48, Try.ntmps48
    go_wp2_with fail
    refine (l02Ok_any c hv wc g _ HC.out mc).mono ?_
    rintro e w' ⟨rfl, rfl⟩
    rw [h1]
    go_wp2_with fail
    refine (l01Ok_any v xs WF.out _ HS.out hn).mono ?_
    rintro e w1 ⟨rfl, g1⟩
    rw [h2]
    go_wp2
    go_ret
    exact ⟨by rw [E.out]; rfl, g1⟩

set_option maxHeartbeats 1000000 in
theorem validBoth_any (c : Cs) (hv v : Value) (xs : List Bk) (w : World) (sc : IntsOf .i16 w hv c.hs) (mc : c.hs.length ≤ maxLen) (hs : SliceOf w v xs) (hn : xs.length ≤ maxLen) :
    Calls Try.prog 51 #[.agg #[.int .i16 c.wi, .int .i32 c.lo, hv], v] w fun e w' => e = .returned (.bool (askB c xs)) ∧ Below w.heap.size w w' := by
  have HC := Lib.hid sc
  have HS := Lib.hid hs
  have G0 := Lib.hid (show Below w.heap.size w (w.alloc (.cells #[.int .i16 c.wi, .int .i32 c.lo, hv] 50)) by go_grown)
  obtain ⟨A, k, rfl, -⟩ := sc
  clear hs
  rcases askB_cases c xs with ⟨h1, h2, h3⟩ | ⟨h1, h2, h3, h4⟩ | ⟨h1, h2, h3, h4⟩
  · have E := Lib.hid h2
    clear h3
    go_enter Try.func51, Try.ntmps51
    go_wp2_with fail
    refine (validCase_any c _ _ (HC.out.below G0.out) mc).mono ?_
    rintro e w1 ⟨rfl, g1⟩
    rw [h1]
    go_wp2
    go_ret
    exact ⟨by rw [E.out]; rfl, bnext G0.out g1⟩
  · have E := Lib.hid h3
    clear h3 h4
    go_enter Try.func51, Try.ntmps51
    go_wp2_with fail
    refine (validCase_any c _ _ (HC.out.below G0.out) mc).mono ?_
    rintro e w1 ⟨rfl, g1⟩
    rw [h1]
    go_wp2_with fail
    refine (validBooks_any v xs _ (HS.out.below (bnext G0.out g1)) hn).mono ?_
    rintro e w2 ⟨rfl, g2⟩
    rw [h2]
    go_wp2
    go_ret
    exact ⟨by rw [E.out]; rfl, bnext (bnext G0.out g1) g2⟩
  · have E := Lib.hid h3
    clear h3 h4
    go_enter Try.func51, Try.ntmps51
    go_wp2_with fail
    refine (validCase_any c _ _ (HC.out.below G0.out) mc).mono ?_
    rintro e w1 ⟨rfl, g1⟩
    rw [h1]
    go_wp2_with fail
    refine (validBooks_any v xs _ (HS.out.below (bnext G0.out g1)) hn).mono ?_
    rintro e w2 ⟨rfl, g2⟩
    rw [h2]
    go_wp2
    go_ret
    exact ⟨by rw [E.out]; rfl, bnext (bnext G0.out g1) g2⟩

/-! ### the model: what is free -/
theorem totW_lt {xs : List Bk} {k : Nat} (h : k < xs.length) : totW xs (k + 1) = totW xs k + xs[k].wi := by rw [totW, getD_in_books h]
theorem totE_lt {xs : List Bk} {k : Nat} (h : k < xs.length) : totE xs (k + 1) = totE xs k + xs[k].we := by rw [totE, getD_in_books h]
def LowTo (c : Cs) (s : Nat) (xs : List Bk) (k : Nat) : Prop := ∀ (i : Nat) (hi : i < xs.length), i < k → xs[i].hi ≤ shH c s
theorem LowTo.succ {c : Cs} {s : Nat} {xs : List Bk} {k : Nat} (h : LowTo c s xs k) (hk : k < xs.length) (hb : xs[k].hi ≤ shH c s) : LowTo c s xs (k + 1) := by
  intro i hi hik
  by_cases e : i = k
  · subst e; exact hb
  · exact h i hi (by omega)
theorem freeS_high {c : Cs} {s : Nat} {xs : List Bk} {k : Nat} (hk : k < xs.length) (h : ¬ xs[k].hi ≤ shH c s) : freeS c s xs = -1 := by
  unfold freeS fitsB
  have : xs.all (fun b => decide (b.hi ≤ shH c s)) = false := by
    rw [List.all_eq_false]
    exact ⟨xs[k], List.getElem_mem hk, by simpa using h⟩
  rw [this]
  simp
theorem fitsB_low {c : Cs} {s : Nat} {xs : List Bk} (h : LowTo c s xs xs.length) : fitsB c s xs = (decide (totW xs xs.length ≤ c.wi) && decide (totE xs xs.length ≤ c.lo)) := by
  unfold fitsB
  have : xs.all (fun b => decide (b.hi ≤ shH c s)) = true := by
    rw [List.all_eq_true]
    intro b hb
    obtain ⟨i, hi, rfl⟩ := List.getElem_of_mem hb
    simpa using h i hi hi
  rw [this]
  rfl

set_option maxHeartbeats 4000000 in
theorem l02Free_any (c : Cs) (hv v : Value) (xs : List Bk) (s : Nat) (wc : c.Wf) (wf : ∀ b ∈ xs, b.Wf) (g : Nat) (w : World) (hc : CaseAt w g c hv) (mc : c.hs.length ≤ maxLen) (hs : s < c.hs.length) (sl : SliceOf w v xs) (hn : xs.length ≤ 1048576) :
    Calls Try.prog 101 #[.pointer (some ⟨g, 0, none⟩), .int .i64 (s : Int), v] w fun e w' => e = .returned (.int .i64 (freeS c s xs)) ∧ Below w.heap.size w w' := by
  obtain ⟨⟨wi1, wi2⟩, ⟨lo1, lo2⟩, hw⟩ := wc
  have HC := Lib.hid hc
  obtain ⟨c0, c1, c2, hg, hsl⟩ := hc
  obtain ⟨A, k, rfl, hsl⟩ := hsl
  obtain ⟨B, m, rfl, sl⟩ := sl
  have HH := Lib.hid hsl
  have SL := Lib.hid sl
  have WF := Lib.hid wf
  unfold maxLen at mc
  clear hsl sl wf hw c1 c2
  go_enter Try.func101, Try.ntmps101
  go_wp2
  clear c0
  go_loopw [7, 8, 9] (fun f l i wr => ∃ (j : Nat) (a b : Int), a = c.wi - totW xs j ∧ b = totE xs j ∧ j ≤ xs.length ∧ f = .int .i64 a ∧ l = .int .i64 b ∧ i = .int .i64 j ∧ LowTo c s xs j ∧ Below w.heap.size w wr) (fun _ _ i _ => xs.length - (intOf i).toNat)
  case atStart => exact ⟨0, _, _, rfl, rfl, Nat.zero_le _, by simp [totW], rfl, rfl, fun _ _ h => absurd h (Nat.not_lt_zero _), Below.refl _ _⟩
  case round =>
    obtain ⟨j, a, b, ha, hb, hj, rfl, rfl, rfl, hlow, hbel⟩ := hrel
    have tw := totW_in xs WF.out j hj
    have te := totE_in xs WF.out j hj
    have a1 : -70000000000 ≤ a := by omega
    have a2 : a ≤ 70000000000 := by omega
    have b1 : -70000000000 ≤ b := by omega
    have b2 : b ≤ 70000000000 := by omega
    have LW := Lib.hid hlow
    have HA := Lib.hid ha
    have HB := Lib.hid hb
    clear hlow tw te
    by_cases hlt : j < xs.length
    · obtain ⟨ga, oa, rfl, hga, hat⟩ := SL.out (by omega)
      obtain ⟨gh, oh, rfl, hgh, hath⟩ := HH.out (by omega)
      obtain ⟨p0, p1, p2, p3, p4, p5, p6, p7⟩ := booksAt_some (hat.below hbel hga) hlt
      have q0 := hath.below hbel hgh s hs
      have C2 := (HC.out.below hbel).c2
      obtain ⟨b1', b2', b3', b4', b5', ⟨b61, b62⟩, b7', ⟨b81, b82⟩⟩ := WF.out _ (List.getElem_mem hlt)
      have e0 : shH c s = c.hs[s] := by unfold shH; simp [List.getD, List.getElem?_eq_getElem hs]
      have E0 := Lib.hid e0
      have EW := Lib.hid (totW_lt hlt)
      have EE := Lib.hid (totE_lt hlt)
      clear hat hath p0 p1 p2 p3 p4 b1' b2' b3' b4' b5' b7' e0 ha hb
      have s0 : (0 : Int) ≤ (s : Int) := by omega
      have s1 : (s : Int) < (c.hs.length : Int) := by omega
      by_cases hhi : xs[j].hi ≤ c.hs[s]
      · have hgt : ¬ (c.hs[s] < xs[j].hi) := by omega
        go_wp2
        go_quiet (fail)
        clear p5 p6 p7 q0
        go_wp2
        go_roundw
        case rel => exact ⟨j + 1, a - xs[j].wi, b + xs[j].we, by have := EW.out; have := HA.out; omega, by have := EE.out; have := HB.out; omega, by omega, by first | rfl | (congr 1; omega), by first | rfl | (congr 1; omega), by go_num, LW.out.succ hlt (by rw [E0.out]; exact hhi), below_drewN hbel _⟩
        case measure => simp [intOf]; omega
      · have hgt : c.hs[s] < xs[j].hi := by omega
        have E := Lib.hid (freeS_high (c := c) (s := s) hlt (by rw [E0.out]; exact hhi))
        go_wp2
        go_quiet (fail)
        clear p5 p6 p7 q0
        go_wp2
        go_ret
        exact ⟨by rw [E.out]; rfl, below_drewN hbel _⟩
    · obtain rfl : j = xs.length := by omega
      have C1 := (HC.out.below hbel).c1
      have E := Lib.hid (fitsB_low LW.out)
      clear ha hb
      by_cases h1 : a < 0
      · have EF := Lib.hid (show freeS c s xs = -1 by unfold freeS; rw [E.out, ← HB.out, decide_eq_false (by have := HA.out; omega)]; rfl)
        go_wp2
        go_ret
        exact ⟨by rw [EF.out]; rfl, hbel⟩
      · by_cases h2 : c.lo < b
        · have EF := Lib.hid (show freeS c s xs = -1 by unfold freeS; rw [E.out, decide_eq_false (show ¬ totE xs xs.length ≤ c.lo by have := HB.out; omega)]; simp)
          go_wp2
          go_ret
          exact ⟨by rw [EF.out]; rfl, hbel⟩
        · have EF := Lib.hid (show freeS c s xs = a by unfold freeS freeB; rw [E.out, decide_eq_true (show totE xs xs.length ≤ c.lo by have := HB.out; omega), decide_eq_true (show totW xs xs.length ≤ c.wi by have := HA.out; omega)]; simp [HA.out])
          go_wp2
          go_ret
          exact ⟨by rw [EF.out]; rfl, hbel⟩

end Go.Proofs.Ytpamflkefgpdpaa
