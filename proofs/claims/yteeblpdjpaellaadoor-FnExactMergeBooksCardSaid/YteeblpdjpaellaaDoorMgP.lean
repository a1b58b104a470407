/- Two sorted lists put one into the other: what is answered; two lists asked whether they are sorted: a contract. Condition: the three error variables hold three different errors of errors.New's make; at most 1048576 books, whose numbers lie within their kinds. -/
import Derived.Test.YteeblpdjpaellaaDoorAsked
import Derived.Test.YteeblpdjpaellaaDoorStkA
import Derived.Test.YteeblpdjpaellaaDoorStbP
namespace Go.Proofs.YteeblpdjpaellaaDoor
set_option linter.unusedSimpArgs false
set_option linter.unusedVariables false
set_option maxRecDepth 100000
open Go.RowKit Stab

def ck2 (xs ys : List Bk) : Int := if okB xs = false then 1 else if okB ys = false then 1 else if 2 ≤ (runs xs).length then 4 else if 2 ≤ (runs ys).length then 4 else 0
def mgC (xs ys : List Bk) : Int := if ck2 xs ys ≠ 0 then ck2 xs ys else if 60 < xs.length + ys.length then 3 else 0
def mgL (xs ys : List Bk) : List Bk := if mgC xs ys = 0 then insTo (ltB [1, 2, 3]) (xs ++ ys) (xs ++ ys).length else []
theorem mgL_len (xs ys : List Bk) : (mgL xs ys).length ≤ xs.length + ys.length := by
  unfold mgL
  split
  · rw [insTo_len, List.length_append]; exact Nat.le_refl _
  · exact Nat.zero_le _
theorem mgL_60 (xs ys : List Bk) : (mgL xs ys).length ≤ 60 := by
  unfold mgL
  split
  · rename_i h
    rw [insTo_len, List.length_append]
    unfold mgC at h
    by_cases h1 : ck2 xs ys ≠ 0
    · rw [if_pos h1] at h; exact absurd h h1
    · rw [if_neg h1] at h
      by_cases h2 : 60 < xs.length + ys.length
      · rw [if_pos h2] at h; cases h
      · omega
  · exact Nat.zero_le _
theorem runs_first (xs : List Bk) : (runs xs).length < 2 ↔ firstOut xs < 0 := by
  rcases none_or xs xs.length with hno | ⟨k, k1, k2, k3, k4⟩
  · have h1 := runs_none hno
    have h2 := firstOut_none hno
    constructor
    · intro _; rw [h2]; decide
    · intro _; exact h1
  · obtain ⟨r, hr⟩ := runs_out k1 k2 k3 k4
    rw [firstOut_at k3 k1 k2 k4, hr]
    constructor
    · intro h; simp at h; omega
    · intro h; omega
/-- The ways of two lists. -/
theorem mg_cases (xs ys : List Bk) :
    (okB xs = false ∧ mgC xs ys = 1 ∧ ck2 xs ys = 1) ∨ (okB xs = true ∧ okB ys = false ∧ mgC xs ys = 1 ∧ ck2 xs ys = 1) ∨
    (okB xs = true ∧ okB ys = true ∧ 2 ≤ (runs xs).length ∧ mgC xs ys = 4 ∧ ck2 xs ys = 4) ∨ (okB xs = true ∧ okB ys = true ∧ (runs xs).length < 2 ∧ 2 ≤ (runs ys).length ∧ mgC xs ys = 4 ∧ ck2 xs ys = 4) ∨
    (okB xs = true ∧ okB ys = true ∧ (runs xs).length < 2 ∧ (runs ys).length < 2 ∧ 60 < xs.length + ys.length ∧ mgC xs ys = 3 ∧ ck2 xs ys = 0) ∨
    (okB xs = true ∧ okB ys = true ∧ (runs xs).length < 2 ∧ (runs ys).length < 2 ∧ xs.length + ys.length ≤ 60 ∧ mgC xs ys = 0 ∧ ck2 xs ys = 0) := by
  cases h1 : okB xs
  · have e : ck2 xs ys = 1 := by unfold ck2; rw [if_pos h1]
    exact .inl ⟨rfl, by unfold mgC; rw [e]; rfl, e⟩
  · cases h2 : okB ys
    · have e : ck2 xs ys = 1 := by unfold ck2; rw [if_neg (by rw [h1]; decide), if_pos h2]
      exact .inr (.inl ⟨rfl, rfl, by unfold mgC; rw [e]; rfl, e⟩)
    · by_cases h3 : 2 ≤ (runs xs).length
      · have e : ck2 xs ys = 4 := by unfold ck2; rw [if_neg (by rw [h1]; decide), if_neg (by rw [h2]; decide), if_pos h3]
        exact .inr (.inr (.inl ⟨rfl, rfl, h3, by unfold mgC; rw [e]; rfl, e⟩))
      · by_cases h4 : 2 ≤ (runs ys).length
        · have e : ck2 xs ys = 4 := by unfold ck2; rw [if_neg (by rw [h1]; decide), if_neg (by rw [h2]; decide), if_neg h3, if_pos h4]
          exact .inr (.inr (.inr (.inl ⟨rfl, rfl, by omega, h4, by unfold mgC; rw [e]; rfl, e⟩)))
        · have e : ck2 xs ys = 0 := by unfold ck2; rw [if_neg (by rw [h1]; decide), if_neg (by rw [h2]; decide), if_neg h3, if_neg h4]
          by_cases h5 : 60 < xs.length + ys.length
          · exact .inr (.inr (.inr (.inr (.inl ⟨rfl, rfl, by omega, by omega, h5, by unfold mgC; rw [e, if_neg (by decide), if_pos h5], e⟩))))
          · exact .inr (.inr (.inr (.inr (.inr ⟨rfl, rfl, by omega, by omega, by omega, by unfold mgC; rw [e, if_neg (by decide), if_neg h5], e⟩))))
theorem mgL_bad {xs ys : List Bk} (h : mgC xs ys ≠ 0) : mgL xs ys = [] := by unfold mgL; rw [if_neg h]
theorem mgL_good {xs ys : List Bk} (h : mgC xs ys = 0) : mgL xs ys = insTo (ltB [1, 2, 3]) (xs ++ ys) (xs ++ ys).length := by unfold mgL; rw [if_pos h]
theorem flat_flB (xs : List Bk) : flatB xs = flB xs := by
  apply List.ext_getElem?
  intro j
  by_cases hj : j < xs.length * 8
  · have hl : j < (flatB xs).length := by rw [flatB_length]; exact hj
    obtain ⟨hi, h1⟩ := flatB_get (List.getElem?_eq_getElem hl)
    have e := flB_at xs (j / 8) hi (j % 8) (by omega)
    rw [show j / 8 * 8 + j % 8 = j by omega] at e
    rw [List.getElem?_eq_getElem hl, ← h1, e]
  · rw [List.getElem?_eq_none (by rw [flatB_length]; omega)]
    have : (flB xs).length = xs.length * 8 := by
      clear hj
      induction xs with
      | nil => rfl
      | cons b t ih => show (b.cells ++ flB t).length = _; rw [List.length_append, cells_len, ih, List.length_cons]; omega
    rw [List.getElem?_eq_none (by omega)]
theorem flB_app (xs ys : List Bk) : flB (xs ++ ys) = flB xs ++ flB ys := by unfold flB; rw [List.flatMap_append]
theorem flatB_app2 (xs ys : List Bk) : flatB (xs ++ ys) = flatB xs ++ flatB ys := by rw [flat_flB, flat_flB, flat_flB, flB_app]

def ck2V (xs ys : List Bk) (s i : Addr) : Value := if ck2 xs ys = 1 then .iface 158 (.pointer (some i)) else if ck2 xs ys = 4 then .iface 158 (.pointer (some s)) else .nilIface

set_option maxHeartbeats 8000000 in
theorem checkSorted2_any (v0 v1 : Value) (xs ys : List Bk) (wf : ∀ b ∈ xs, b.Wf) (wfy : ∀ b ∈ ys, b.Wf) (w : World) (g : Nat) (s i y : Addr) (he : Errs w s i y) (hv0 : w.cell? ⟨g, 0, none⟩ = some v0) (hv1 : w.cell? ⟨g, 1, none⟩ = some v1) (hg : g < w.heap.size) (hs0 : SliceOf w v0 xs) (hs1 : SliceOf w v1 ys) (hn0 : xs.length ≤ 1048576) (hn1 : ys.length ≤ 1048576) :
    Calls Tryd.prog 45 #[.slice (some ⟨g, 0, none⟩) 2 2] w fun e w' => e = .returned (ck2V xs ys s i) ∧ Below w.heap.size w w' := by
  have hm0 : xs.length ≤ maxLen := by unfold maxLen; omega
  have hm1 : ys.length ≤ maxLen := by unfold maxLen; omega
  have HS0 := Lib.hid hs0
  have HS1 := Lib.hid hs1
  have WF := Lib.hid wf
  have WFY := Lib.hid wfy
  have HE := Lib.hid he
  have HV0 := Lib.hid hv0
  have HV1 := Lib.hid hv1
  obtain ⟨A0, c0, rfl, -⟩ := hs0
  obtain ⟨A1, c1, rfl, -⟩ := hs1
  clear he wf wfy
  rcases mg_cases xs ys with ⟨h1, -, e⟩ | ⟨h1, h2, -, e⟩ | ⟨h1, h2, h3, -, e⟩ | ⟨h1, h2, h3, h4, -, e⟩ | ⟨h1, h2, h3, h4, -, -, e⟩ | ⟨h1, h2, h3, h4, -, -, e⟩
  · have E := Lib.hid e
    go_enter Tryd.func45, Tryd.ntmps45
    go_wp2
    refine wp_loop_rounds 3 ?_
    rw [rounds_succ]
    go_wp2_with fail
    refine (validBooks_any _ xs _ HS0.out hm0).mono ?_
    rintro e w1 ⟨rfl, q1⟩
    rw [h1]
    clear hv0 hv1
    have hg1 : g < w1.heap.size := Nat.lt_of_lt_of_le hg q1.size
    have hv0_1 := ((q1.cell (p := ⟨g, 0, none⟩) hg).trans HV0.out)
    have hv1_1 := ((q1.cell (p := ⟨g, 1, none⟩) hg).trans HV1.out)
    have cq := (HE.out.below q1).ci
    go_wp2
    go_ret
    exact ⟨by unfold ck2V; rw [E.out]; rfl, q1⟩
  · have E := Lib.hid e
    go_enter Tryd.func45, Tryd.ntmps45
    go_wp2
    refine wp_loop_rounds 3 ?_
    rw [rounds_succ]
    go_wp2_with fail
    refine (validBooks_any _ xs _ HS0.out hm0).mono ?_
    rintro e w1 ⟨rfl, q1⟩
    rw [h1]
    clear hv0 hv1
    have hg1 : g < w1.heap.size := Nat.lt_of_lt_of_le hg q1.size
    have hv0_1 := ((q1.cell (p := ⟨g, 0, none⟩) hg).trans HV0.out)
    have hv1_1 := ((q1.cell (p := ⟨g, 1, none⟩) hg).trans HV1.out)
    go_wp2
    rw [rounds_succ]
    go_wp2_with fail
    refine (validBooks_any _ ys _ (HS1.out.below q1) hm1).mono ?_
    rintro e w2 ⟨rfl, q2⟩
    rw [h2]
    clear hv0_1 hv1_1
    have hg2 : g < w2.heap.size := Nat.lt_of_lt_of_le hg1 q2.size
    have hv0_2 := ((q2.cell (p := ⟨g, 0, none⟩) hg1).trans ((q1.cell (p := ⟨g, 0, none⟩) hg).trans HV0.out))
    have hv1_2 := ((q2.cell (p := ⟨g, 1, none⟩) hg1).trans ((q1.cell (p := ⟨g, 1, none⟩) hg).trans HV1.out))
    have cq := ((HE.out.below q1).below q2).ci
    go_wp2
    go_ret
    exact ⟨by unfold ck2V; rw [E.out]; rfl, (bnext q1 q2)⟩
  · have E := Lib.hid e
    go_enter Tryd.func45, Tryd.ntmps45
    go_wp2
    refine wp_loop_rounds 3 ?_
    rw [rounds_succ]
    go_wp2_with fail
    refine (validBooks_any _ xs _ HS0.out hm0).mono ?_
    rintro e w1 ⟨rfl, q1⟩
    rw [h1]
    clear hv0 hv1
    have hg1 : g < w1.heap.size := Nat.lt_of_lt_of_le hg q1.size
    have hv0_1 := ((q1.cell (p := ⟨g, 0, none⟩) hg).trans HV0.out)
    have hv1_1 := ((q1.cell (p := ⟨g, 1, none⟩) hg).trans HV1.out)
    go_wp2
    rw [rounds_succ]
    go_wp2_with fail
    refine (validBooks_any _ ys _ (HS1.out.below q1) hm1).mono ?_
    rintro e w2 ⟨rfl, q2⟩
    rw [h2]
    clear hv0_1 hv1_1
    have hg2 : g < w2.heap.size := Nat.lt_of_lt_of_le hg1 q2.size
    have hv0_2 := ((q2.cell (p := ⟨g, 0, none⟩) hg1).trans ((q1.cell (p := ⟨g, 0, none⟩) hg).trans HV0.out))
    have hv1_2 := ((q2.cell (p := ⟨g, 1, none⟩) hg1).trans ((q1.cell (p := ⟨g, 1, none⟩) hg).trans HV1.out))
    go_wp2
    rw [rounds_succ]
    go_wp2
    refine wp_loop_rounds 3 ?_
    rw [rounds_succ]
    go_wp2_with fail
    refine (runsOf_any _ xs WF.out _ ((HS0.out.below q1).below q2) hn0).mono ?_
    rintro e w3 ⟨v4, rfl, ho, q3⟩
    obtain ⟨A4, cc4, rfl, -⟩ := ownsInts ho
    clear ho
    clear hv0_2 hv1_2
    have hg3 : g < w3.heap.size := Nat.lt_of_lt_of_le hg2 q3.size
    have hv0_3 := ((q3.cell (p := ⟨g, 0, none⟩) hg2).trans ((q2.cell (p := ⟨g, 0, none⟩) hg1).trans ((q1.cell (p := ⟨g, 0, none⟩) hg).trans HV0.out)))
    have hv1_3 := ((q3.cell (p := ⟨g, 1, none⟩) hg2).trans ((q2.cell (p := ⟨g, 1, none⟩) hg1).trans ((q1.cell (p := ⟨g, 1, none⟩) hg).trans HV1.out)))
    have hl2 : (1 : Int) < ((runs xs).length : Int) := by omega
    have cq := (((HE.out.below q1).below q2).below q3).cs
    go_wp2
    go_ret
    exact ⟨by unfold ck2V; rw [E.out]; rfl, (bnext (bnext q1 q2) q3)⟩
  · have E := Lib.hid e
    go_enter Tryd.func45, Tryd.ntmps45
    go_wp2
    refine wp_loop_rounds 3 ?_
    rw [rounds_succ]
    go_wp2_with fail
    refine (validBooks_any _ xs _ HS0.out hm0).mono ?_
    rintro e w1 ⟨rfl, q1⟩
    rw [h1]
    clear hv0 hv1
    have hg1 : g < w1.heap.size := Nat.lt_of_lt_of_le hg q1.size
    have hv0_1 := ((q1.cell (p := ⟨g, 0, none⟩) hg).trans HV0.out)
    have hv1_1 := ((q1.cell (p := ⟨g, 1, none⟩) hg).trans HV1.out)
    go_wp2
    rw [rounds_succ]
    go_wp2_with fail
    refine (validBooks_any _ ys _ (HS1.out.below q1) hm1).mono ?_
    rintro e w2 ⟨rfl, q2⟩
    rw [h2]
    clear hv0_1 hv1_1
    have hg2 : g < w2.heap.size := Nat.lt_of_lt_of_le hg1 q2.size
    have hv0_2 := ((q2.cell (p := ⟨g, 0, none⟩) hg1).trans ((q1.cell (p := ⟨g, 0, none⟩) hg).trans HV0.out))
    have hv1_2 := ((q2.cell (p := ⟨g, 1, none⟩) hg1).trans ((q1.cell (p := ⟨g, 1, none⟩) hg).trans HV1.out))
    go_wp2
    rw [rounds_succ]
    go_wp2
    refine wp_loop_rounds 3 ?_
    rw [rounds_succ]
    go_wp2_with fail
    refine (runsOf_any _ xs WF.out _ ((HS0.out.below q1).below q2) hn0).mono ?_
    rintro e w3 ⟨v4, rfl, ho, q3⟩
    obtain ⟨A4, cc4, rfl, -⟩ := ownsInts ho
    clear ho
    clear hv0_2 hv1_2
    have hg3 : g < w3.heap.size := Nat.lt_of_lt_of_le hg2 q3.size
    have hv0_3 := ((q3.cell (p := ⟨g, 0, none⟩) hg2).trans ((q2.cell (p := ⟨g, 0, none⟩) hg1).trans ((q1.cell (p := ⟨g, 0, none⟩) hg).trans HV0.out)))
    have hv1_3 := ((q3.cell (p := ⟨g, 1, none⟩) hg2).trans ((q2.cell (p := ⟨g, 1, none⟩) hg1).trans ((q1.cell (p := ⟨g, 1, none⟩) hg).trans HV1.out)))
    have hl2 : ¬ ((1 : Int) < ((runs xs).length : Int)) := by omega
    go_wp2
    rw [rounds_succ]
    go_wp2_with fail
    refine (runsOf_any _ ys WFY.out _ (((HS1.out.below q1).below q2).below q3) hn1).mono ?_
    rintro e w4 ⟨v5, rfl, ho, q4⟩
    obtain ⟨A5, cc5, rfl, -⟩ := ownsInts ho
    clear ho
    clear hv0_3 hv1_3
    have hg4 : g < w4.heap.size := Nat.lt_of_lt_of_le hg3 q4.size
    have hv0_4 := ((q4.cell (p := ⟨g, 0, none⟩) hg3).trans ((q3.cell (p := ⟨g, 0, none⟩) hg2).trans ((q2.cell (p := ⟨g, 0, none⟩) hg1).trans ((q1.cell (p := ⟨g, 0, none⟩) hg).trans HV0.out))))
    have hv1_4 := ((q4.cell (p := ⟨g, 1, none⟩) hg3).trans ((q3.cell (p := ⟨g, 1, none⟩) hg2).trans ((q2.cell (p := ⟨g, 1, none⟩) hg1).trans ((q1.cell (p := ⟨g, 1, none⟩) hg).trans HV1.out))))
    have hl3 : (1 : Int) < ((runs ys).length : Int) := by omega
    have cq := ((((HE.out.below q1).below q2).below q3).below q4).cs
    go_wp2
    go_ret
    exact ⟨by unfold ck2V; rw [E.out]; rfl, (bnext (bnext (bnext q1 q2) q3) q4)⟩
  · have E := Lib.hid e
    go_enter Tryd.func45, Tryd.ntmps45
    go_wp2
    refine wp_loop_rounds 3 ?_
    rw [rounds_succ]
    go_wp2_with fail
    refine (validBooks_any _ xs _ HS0.out hm0).mono ?_
    rintro e w1 ⟨rfl, q1⟩
    rw [h1]
    clear hv0 hv1
    have hg1 : g < w1.heap.size := Nat.lt_of_lt_of_le hg q1.size
    have hv0_1 := ((q1.cell (p := ⟨g, 0, none⟩) hg).trans HV0.out)
    have hv1_1 := ((q1.cell (p := ⟨g, 1, none⟩) hg).trans HV1.out)
    go_wp2
    rw [rounds_succ]
    go_wp2_with fail
    refine (validBooks_any _ ys _ (HS1.out.below q1) hm1).mono ?_
    rintro e w2 ⟨rfl, q2⟩
    rw [h2]
    clear hv0_1 hv1_1
    have hg2 : g < w2.heap.size := Nat.lt_of_lt_of_le hg1 q2.size
    have hv0_2 := ((q2.cell (p := ⟨g, 0, none⟩) hg1).trans ((q1.cell (p := ⟨g, 0, none⟩) hg).trans HV0.out))
    have hv1_2 := ((q2.cell (p := ⟨g, 1, none⟩) hg1).trans ((q1.cell (p := ⟨g, 1, none⟩) hg).trans HV1.out))
    go_wp2
    rw [rounds_succ]
    go_wp2
    refine wp_loop_rounds 3 ?_
    rw [rounds_succ]
    go_wp2_with fail
    refine (runsOf_any _ xs WF.out _ ((HS0.out.below q1).below q2) hn0).mono ?_
    rintro e w3 ⟨v4, rfl, ho, q3⟩
    obtain ⟨A4, cc4, rfl, -⟩ := ownsInts ho
    clear ho
    clear hv0_2 hv1_2
    have hg3 : g < w3.heap.size := Nat.lt_of_lt_of_le hg2 q3.size
    have hv0_3 := ((q3.cell (p := ⟨g, 0, none⟩) hg2).trans ((q2.cell (p := ⟨g, 0, none⟩) hg1).trans ((q1.cell (p := ⟨g, 0, none⟩) hg).trans HV0.out)))
    have hv1_3 := ((q3.cell (p := ⟨g, 1, none⟩) hg2).trans ((q2.cell (p := ⟨g, 1, none⟩) hg1).trans ((q1.cell (p := ⟨g, 1, none⟩) hg).trans HV1.out)))
    have hl2 : ¬ ((1 : Int) < ((runs xs).length : Int)) := by omega
    go_wp2
    rw [rounds_succ]
    go_wp2_with fail
    refine (runsOf_any _ ys WFY.out _ (((HS1.out.below q1).below q2).below q3) hn1).mono ?_
    rintro e w4 ⟨v5, rfl, ho, q4⟩
    obtain ⟨A5, cc5, rfl, -⟩ := ownsInts ho
    clear ho
    clear hv0_3 hv1_3
    have hg4 : g < w4.heap.size := Nat.lt_of_lt_of_le hg3 q4.size
    have hv0_4 := ((q4.cell (p := ⟨g, 0, none⟩) hg3).trans ((q3.cell (p := ⟨g, 0, none⟩) hg2).trans ((q2.cell (p := ⟨g, 0, none⟩) hg1).trans ((q1.cell (p := ⟨g, 0, none⟩) hg).trans HV0.out))))
    have hv1_4 := ((q4.cell (p := ⟨g, 1, none⟩) hg3).trans ((q3.cell (p := ⟨g, 1, none⟩) hg2).trans ((q2.cell (p := ⟨g, 1, none⟩) hg1).trans ((q1.cell (p := ⟨g, 1, none⟩) hg).trans HV1.out))))
    have hl3 : ¬ ((1 : Int) < ((runs ys).length : Int)) := by omega
    go_wp2
    rw [rounds_succ]
    go_wp2
    go_ret
    exact ⟨by unfold ck2V; rw [E.out]; rfl, (bnext (bnext (bnext q1 q2) q3) q4)⟩
  · have E := Lib.hid e
    go_enter Tryd.func45, Tryd.ntmps45
    go_wp2
    refine wp_loop_rounds 3 ?_
    rw [rounds_succ]
    go_wp2_with fail
    refine (validBooks_any _ xs _ HS0.out hm0).mono ?_
    rintro e w1 ⟨rfl, q1⟩
    rw [h1]
    clear hv0 hv1
    have hg1 : g < w1.heap.size := Nat.lt_of_lt_of_le hg q1.size
    have hv0_1 := ((q1.cell (p := ⟨g, 0, none⟩) hg).trans HV0.out)
    have hv1_1 := ((q1.cell (p := ⟨g, 1, none⟩) hg).trans HV1.out)
    go_wp2
    rw [rounds_succ]
    go_wp2_with fail
    refine (validBooks_any _ ys _ (HS1.out.below q1) hm1).mono ?_
    rintro e w2 ⟨rfl, q2⟩
    rw [h2]
    clear hv0_1 hv1_1
    have hg2 : g < w2.heap.size := Nat.lt_of_lt_of_le hg1 q2.size
    have hv0_2 := ((q2.cell (p := ⟨g, 0, none⟩) hg1).trans ((q1.cell (p := ⟨g, 0, none⟩) hg).trans HV0.out))
    have hv1_2 := ((q2.cell (p := ⟨g, 1, none⟩) hg1).trans ((q1.cell (p := ⟨g, 1, none⟩) hg).trans HV1.out))
    go_wp2
    rw [rounds_succ]
    go_wp2
    refine wp_loop_rounds 3 ?_
    rw [rounds_succ]
    go_wp2_with fail
    refine (runsOf_any _ xs WF.out _ ((HS0.out.below q1).below q2) hn0).mono ?_
    rintro e w3 ⟨v4, rfl, ho, q3⟩
    obtain ⟨A4, cc4, rfl, -⟩ := ownsInts ho
    clear ho
    clear hv0_2 hv1_2
    have hg3 : g < w3.heap.size := Nat.lt_of_lt_of_le hg2 q3.size
    have hv0_3 := ((q3.cell (p := ⟨g, 0, none⟩) hg2).trans ((q2.cell (p := ⟨g, 0, none⟩) hg1).trans ((q1.cell (p := ⟨g, 0, none⟩) hg).trans HV0.out)))
    have hv1_3 := ((q3.cell (p := ⟨g, 1, none⟩) hg2).trans ((q2.cell (p := ⟨g, 1, none⟩) hg1).trans ((q1.cell (p := ⟨g, 1, none⟩) hg).trans HV1.out)))
    have hl2 : ¬ ((1 : Int) < ((runs xs).length : Int)) := by omega
    go_wp2
    rw [rounds_succ]
    go_wp2_with fail
    refine (runsOf_any _ ys WFY.out _ (((HS1.out.below q1).below q2).below q3) hn1).mono ?_
    rintro e w4 ⟨v5, rfl, ho, q4⟩
    obtain ⟨A5, cc5, rfl, -⟩ := ownsInts ho
    clear ho
    clear hv0_3 hv1_3
    have hg4 : g < w4.heap.size := Nat.lt_of_lt_of_le hg3 q4.size
    have hv0_4 := ((q4.cell (p := ⟨g, 0, none⟩) hg3).trans ((q3.cell (p := ⟨g, 0, none⟩) hg2).trans ((q2.cell (p := ⟨g, 0, none⟩) hg1).trans ((q1.cell (p := ⟨g, 0, none⟩) hg).trans HV0.out))))
    have hv1_4 := ((q4.cell (p := ⟨g, 1, none⟩) hg3).trans ((q3.cell (p := ⟨g, 1, none⟩) hg2).trans ((q2.cell (p := ⟨g, 1, none⟩) hg1).trans ((q1.cell (p := ⟨g, 1, none⟩) hg).trans HV1.out))))
    have hl3 : ¬ ((1 : Int) < ((runs ys).length : Int)) := by omega
    go_wp2
    rw [rounds_succ]
    go_wp2
    go_ret
    exact ⟨by unfold ck2V; rw [E.out]; rfl, (bnext (bnext (bnext q1 q2) q3) q4)⟩
end Go.Proofs.YteeblpdjpaellaaDoor
