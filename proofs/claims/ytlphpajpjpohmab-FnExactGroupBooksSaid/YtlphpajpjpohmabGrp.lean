/- Books that belong to heights, by the model: the code; contracts. Condition: numbers within their kinds, slices no longer than can be. -/
import Derived.Test.YtlphpajpjpohmabHFor
import Derived.Test.YtlphpajpjpohmabBooksOk
namespace Go.Proofs.Ytlphpajpjpohmab
set_option linter.unusedSimpArgs false
set_option linter.unusedVariables false
set_option maxRecDepth 100000
open Go.RowKit

def allHB (hs : List Int) (xs : List Bk) : Bool := xs.all (fun b => decide (hIx hs b.hi < hs.length))
theorem allHB_drop {hs : List Int} {xs : List Bk} {i : Nat} (h : i < xs.length) : allHB hs (xs.drop i) = (decide (hIx hs xs[i].hi < hs.length) && allHB hs (xs.drop (i + 1))) := by
  rw [List.drop_eq_getElem_cons h]; rfl
theorem allHB_get {hs : List Int} {xs : List Bk} (h : allHB hs xs = true) {i : Nat} (hi : i < xs.length) : hIx hs xs[i].hi < hs.length := by
  unfold allHB at h
  rw [List.all_eq_true] at h
  exact of_decide_eq_true (h _ (List.getElem_mem hi))
def gaB (p : Pg) (hs : List Int) (xs : List Bk) : Bool := hsB p hs && okB xs
def gaC (p : Pg) (hs : List Int) (xs : List Bk) : Int := if gaB p hs xs then 0 else 1
def gcC (p : Pg) (hs : List Int) (xs : List Bk) : Int := if gaB p hs xs then (if allHB hs xs then 0 else 6) else 1

set_option maxHeartbeats 2000000 in
theorem l04Asked_any (p : Pg) (wf : p.Wf) (v v2 : Value) (hs : List Int) (xs : List Bk) (wz : ∀ z ∈ hs, (Lit.int .i64 z).wf = true) (wx : ∀ b ∈ xs, b.Wf) (w : World) (s1 : IntsOf .i64 w v hs) (s2 : SliceOf w v2 xs) (h1 : hs.length ≤ maxLen) (h2 : xs.length ≤ maxLen) :
    Calls Try.prog 48 #[.agg #[.int .i16 p.lo, .int .i16 p.st, .int .i16 p.bo], v, v2] w fun e w' => e = .returned (.int .i64 (gaC p hs xs)) ∧ Below w.heap.size w w' := by
  have G0 := Lib.hid (show Below w.heap.size w (w.alloc (.cells #[.int .i16 p.lo, .int .i16 p.st, .int .i16 p.bo] 40)) by go_grown)
  have WF := Lib.hid wf
  have WZ := Lib.hid wz
  have WX := Lib.hid wx
  have S1 := Lib.hid (s1.below G0.out)
  have S2 := Lib.hid (s2.below G0.out)
  clear wf wz wx s1 s2
  cases h3 : hsB p hs
  · have E := Lib.hid (show gaC p hs xs = 1 by unfold gaC gaB; rw [h3]; rfl)
    go_enter Try.func48, Try.ntmps48
    go_wp2_with fail
    refine (l04Ok_any p WF.out v hs WZ.out _ S1.out h1).mono ?_
    rintro e w1 ⟨rfl, g1⟩
    rw [h3]
    go_wp2
    go_ret
    exact ⟨by rw [E.out]; rfl, bnext G0.out g1⟩
  · cases h4 : okB xs
    · have E := Lib.hid (show gaC p hs xs = 1 by unfold gaC gaB; rw [h3, h4]; rfl)
      go_enter Try.func48, Try.ntmps48
      go_wp2_with fail
      refine (l04Ok_any p WF.out v hs WZ.out _ S1.out h1).mono ?_
      rintro e w1 ⟨rfl, g1⟩
      rw [h3]
      go_wp2_with fail
      refine (l01Ok_any v2 xs WX.out _ (S2.out.below g1) h2).mono ?_
      rintro e w2 ⟨rfl, g2⟩
      rw [h4]
      go_wp2
      go_ret
      exact ⟨by rw [E.out]; rfl, bnext (bnext G0.out g1) g2⟩
    · have E := Lib.hid (show gaC p hs xs = 0 by unfold gaC gaB; rw [h3, h4]; rfl)
      go_enter Try.func48, Try.ntmps48
      go_wp2_with fail
      refine (l04Ok_any p WF.out v hs WZ.out _ S1.out h1).mono ?_
      rintro e w1 ⟨rfl, g1⟩
      rw [h3]
      go_wp2_with fail
      refine (l01Ok_any v2 xs WX.out _ (S2.out.below g1) h2).mono ?_
      rintro e w2 ⟨rfl, g2⟩
      rw [h4]
      go_wp2
      go_ret
      exact ⟨by rw [E.out]; rfl, bnext (bnext G0.out g1) g2⟩

set_option maxHeartbeats 4000000 in
theorem l04All_any (v v2 : Value) (hs : List Int) (xs : List Bk) (wx : ∀ b ∈ xs, b.Wf) (w : World) (s1 : IntsOf .i64 w v hs) (s2 : SliceOf w v2 xs) (h1 : hs.length ≤ maxLen) (h2 : xs.length ≤ maxLen) :
    Calls Try.prog 50 #[v, v2] w fun e w' => e = .returned (.bool (allHB hs xs)) ∧ Below w.heap.size w w' := by
  have S1 := Lib.hid s1
  have WX := Lib.hid wx
  obtain ⟨A, c, rfl, hat0⟩ := s2
  have HA := Lib.hid hat0
  obtain ⟨R, hR⟩ : ∃ R, allHB hs xs = R := ⟨_, rfl⟩
  have HR := Lib.hid (show allHB hs (xs.drop 0) = R by rw [List.drop_zero]; exact hR)
  unfold maxLen at h2
  rw [hR]
  clear s1 wx hat0 hR
  go_enter Try.func50, Try.ntmps50
  go_wp2
  go_loopw [5] (fun i_ wr => ∃ i : Nat, i ≤ xs.length ∧ i_ = .int .i64 (i : Int) ∧ allHB hs (xs.drop i) = R ∧ Below w.heap.size w wr) (fun i_ _ => xs.length - (intOf i_).toNat)
  case atStart => exact ⟨0, Nat.zero_le _, rfl, HR.out, Below.refl _ _⟩
  case round =>
    obtain ⟨i, hi, rfl, hd, hb⟩ := hrel
    have HD := Lib.hid hd
    have HB := Lib.hid hb
    clear hd hb
    by_cases hlt : i < xs.length
    · obtain ⟨ga, oa, rfl, hga, hat⟩ := HA.out (by omega)
      have q6 := (booksAt_some (hat.below HB.out hga) hlt).2.2.2.2.2.2.1
      have CC := Lib.hid (l04For_any v hs xs[i] (WX.out _ (List.getElem_mem hlt)) ga (oa + i * 8) wr (S1.out.below HB.out) h1 q6 (Nat.lt_of_lt_of_le hga HB.out.size))
      have SD := Lib.hid (allHB_drop (hs := hs) hlt)
      clear hat q6
      by_cases hk : hIx hs xs[i].hi < hs.length
      · rw [if_pos hk] at CC
        have SD2 := Lib.hid (show allHB hs (xs.drop (i + 1)) = R by rw [← HD.out, SD.out, decide_eq_true hk, Bool.true_and])
        clear hk SD
        generalize hIx hs xs[i].hi = k at CC
        go_wp2_with fail
        refine (CC.out).mono ?_
        rintro e w1 ⟨rfl, g1⟩
        go_wp2
        go_roundw
        case rel => exact ⟨i + 1, by omega, by go_num, SD2.out, bnext HB.out g1⟩
        case measure => simp [intOf]; omega
      · rw [if_neg hk] at CC
        have SD2 := Lib.hid (show R = false by rw [← HD.out, SD.out, decide_eq_false hk, Bool.false_and])
        clear hk SD
        go_wp2_with fail
        refine (CC.out).mono ?_
        rintro e w1 ⟨rfl, g1⟩
        go_wp2
        go_ret
        exact ⟨by rw [SD2.out]; rfl, bnext HB.out g1⟩
    · obtain rfl : i = xs.length := by omega
      have HE := Lib.hid (show R = true by rw [← HD.out, List.drop_length]; rfl)
      go_wp2
      go_ret
      exact ⟨by rw [HE.out]; rfl, HB.out⟩

set_option maxHeartbeats 2000000 in
theorem l04Grouped_any (p : Pg) (wf : p.Wf) (v v2 : Value) (hs : List Int) (xs : List Bk) (wz : ∀ z ∈ hs, (Lit.int .i64 z).wf = true) (wx : ∀ b ∈ xs, b.Wf) (w : World) (s1 : IntsOf .i64 w v hs) (s2 : SliceOf w v2 xs) (h1 : hs.length ≤ maxLen) (h2 : xs.length ≤ maxLen) :
    Calls Try.prog 42 #[.agg #[.int .i16 p.lo, .int .i16 p.st, .int .i16 p.bo], v, v2] w fun e w' => e = .returned (.int .i64 (gcC p hs xs)) ∧ Below w.heap.size w w' := by
  have G0 := Lib.hid (show Below w.heap.size w (w.alloc (.cells #[.int .i16 p.lo, .int .i16 p.st, .int .i16 p.bo] 40)) by go_grown)
  have WF := Lib.hid wf
  have WZ := Lib.hid wz
  have WX := Lib.hid wx
  have S1 := Lib.hid (s1.below G0.out)
  have S2 := Lib.hid (s2.below G0.out)
  clear wf wz wx s1 s2
  cases h3 : gaB p hs xs
  · have E := Lib.hid (show gcC p hs xs = 1 by unfold gcC; rw [h3]; rfl)
    go_enter Try.func42, Try.ntmps42
    go_wp2_with fail
    refine (l04Asked_any p WF.out v v2 hs xs WZ.out WX.out _ S1.out S2.out h1 h2).mono ?_
    rintro e w1 ⟨rfl, g1⟩
    rw [show gaC p hs xs = 1 by unfold gaC; rw [h3]; rfl]
    go_wp2
    go_ret
    exact ⟨by rw [E.out]; rfl, bnext G0.out g1⟩
  · cases h4 : allHB hs xs
    · have E := Lib.hid (show gcC p hs xs = 6 by unfold gcC; rw [h3, h4]; rfl)
      go_enter Try.func42, Try.ntmps42
      go_wp2_with fail
      refine (l04Asked_any p WF.out v v2 hs xs WZ.out WX.out _ S1.out S2.out h1 h2).mono ?_
      rintro e w1 ⟨rfl, g1⟩
      rw [show gaC p hs xs = 0 by unfold gaC; rw [h3]; rfl]
      go_wp2_with fail
      refine (l04All_any v v2 hs xs WX.out _ (S1.out.below g1) (S2.out.below g1) h1 h2).mono ?_
      rintro e w2 ⟨rfl, g2⟩
      rw [h4]
      go_wp2
      go_ret
      exact ⟨by rw [E.out]; rfl, bnext (bnext G0.out g1) g2⟩
    · have E := Lib.hid (show gcC p hs xs = 0 by unfold gcC; rw [h3, h4]; rfl)
      go_enter Try.func42, Try.ntmps42
      go_wp2_with fail
      refine (l04Asked_any p WF.out v v2 hs xs WZ.out WX.out _ S1.out S2.out h1 h2).mono ?_
      rintro e w1 ⟨rfl, g1⟩
      rw [show gaC p hs xs = 0 by unfold gaC; rw [h3]; rfl]
      go_wp2_with fail
      refine (l04All_any v v2 hs xs WX.out _ (S1.out.below g1) (S2.out.below g1) h1 h2).mono ?_
      rintro e w2 ⟨rfl, g2⟩
      rw [h4]
      go_wp2
      go_ret
      exact ⟨by rw [E.out]; rfl, bnext (bnext G0.out g1) g2⟩

end Go.Proofs.Ytlphpajpjpohmab
