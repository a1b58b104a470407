/- How tall a case is: the sums, by the model and by the program: contracts. Condition: numbers within their kinds, slices no longer than can be. -/
import Derived.Test.YtjfhpgomaahgoaaTall
namespace Go.Proofs.Ytjfhpgomaahgoaa
set_option linter.unusedSimpArgs false
set_option linter.unusedVariables false
set_option maxRecDepth 100000
open Go.RowKit

theorem tal_bounds {p : Pg} {hs ss : List Int} (hp : 1 ≤ p.bo ∧ p.bo ≤ 100) (hl : ss.length = hs.length) (hh : ∀ x ∈ hs, 50 ≤ x ∧ x ≤ 1000) (hs1 : allB ss 60 = true) : ∀ k, k ≤ hs.length → 0 ≤ talTo p hs ss k ∧ talTo p hs ss k ≤ 100 + 66000 * (k : Int)
  | 0, _ => by simp [talTo]; omega
  | k + 1, hk => by
    have ih := tal_bounds hp hl hh hs1 k (by omega)
    have h1 := hh _ (List.getElem_mem (show k < hs.length by omega))
    have h2 := allB_get hs1 (show k < ss.length by omega)
    rw [talTo]
    have e1 : hs.getD k 0 = hs[k] := by simp [List.getD, List.getElem?_eq_getElem (show k < hs.length by omega)]
    have e2 : ss.getD k 0 = ss[k] := by simp [List.getD, List.getElem?_eq_getElem (show k < ss.length by omega)]
    rw [e1, e2]
    have h3 : 0 ≤ ss[k] * (hs[k] + p.bo) := Int.mul_nonneg h2.1 (by omega)
    have h4 : ss[k] * (hs[k] + p.bo) ≤ 60 * 1100 := Int.mul_le_mul h2.2 (by omega) (by omega) (by omega)
    omega
theorem tal_succ {p : Pg} {hs ss : List Int} {k : Nat} (h1 : k < hs.length) (h2 : k < ss.length) : talTo p hs ss (k + 1) = talTo p hs ss k + ss[k] * (hs[k] + p.bo) := by
  rw [talTo]
  simp [List.getD, List.getElem?_eq_getElem h1, List.getElem?_eq_getElem h2]

set_option maxHeartbeats 8000000 in
theorem l04Tall_any (p : Pg) (wf : p.Wf) (v v2 : Value) (hs ss : List Int) (w : World) (s1 : IntsOf .i64 w v hs) (s2 : IntsOf .i64 w v2 ss) (hp : 1 ≤ p.bo ∧ p.bo ≤ 100) (hl : ss.length = hs.length) (h6 : hs.length ≤ 6) (hh : ∀ x ∈ hs, 50 ≤ x ∧ x ≤ 1000) (hs1 : allB ss 60 = true) :
    Calls Try.prog 66 #[.agg #[.int .i16 p.lo, .int .i16 p.st, .int .i16 p.bo], v, v2] w fun e w' => e = .returned (.int .i64 (talTo p hs ss hs.length)) ∧ Below w.heap.size w w' := by
  have HN := Lib.hid (PegIn.new w p 26)
  have G0 := Lib.hid (show Below w.heap.size w (w.alloc (.cells #[.int .i16 p.lo, .int .i16 p.st, .int .i16 p.bo] 26)) by go_grown)
  have Z0 := Lib.hid (show w.heap.size < (w.alloc (.cells #[.int .i16 p.lo, .int .i16 p.st, .int .i16 p.bo] 26)).heap.size by simp)
  have BD := Lib.hid (tal_bounds hp hl hh hs1)
  have HH := Lib.hid hh
  have HS1 := Lib.hid hs1
  obtain ⟨A, c, rfl, ha⟩ := s1
  obtain ⟨B, d, rfl, hb⟩ := s2
  have HA := Lib.hid ha
  have HB := Lib.hid hb
  obtain ⟨p1, p2⟩ := hp
  have HL := Lib.hid hl
  clear wf hh hs1 ha hb hl
  go_enter Try.func66, Try.ntmps66
  go_wp2
  go_loopw [7, 8] (fun t_ i_ wr => ∃ (k : Nat) (t : Int), i_ = .int .i64 (k : Int) ∧ t_ = .int .i64 t ∧ k ≤ hs.length ∧ t = talTo p hs ss k ∧ PegIn wr w.heap.size p ∧ w.heap.size < wr.heap.size ∧ Below w.heap.size w wr) (fun _ i_ _ => hs.length - (intOf i_).toNat)
  case atStart => exact ⟨0, p.bo, rfl, rfl, Nat.zero_le _, rfl, HN.out, Z0.out, G0.out⟩
  case round =>
    obtain ⟨k, t, rfl, rfl, hk, ht, hpi, hzz, hbel⟩ := hrel
    have HPI := Lib.hid hpi
    have HT := Lib.hid ht
    clear ht
    by_cases hlt : k < hs.length
    · have hlt2 : k < ss.length := by have := HL.out; omega
      obtain ⟨ga, oa, rfl, hga, hca⟩ := HA.out (by omega)
      obtain ⟨gb, ob, rfl, hgb, hcb⟩ := HB.out (by omega)
      have q0 := (hca.below hbel hga) k hlt
      have q1 := (hcb.below hbel hgb) k hlt2
      have c2 := hpi.c2
      clear hpi
      have kss : (k : Int) < (ss.length : Int) := by omega
      have x1 := HH.out _ (List.getElem_mem hlt)
      have x2 := allB_get HS1.out hlt2
      have B0 := BD.out k hk
      have B1 := BD.out (k + 1) (by omega)
      have ES := tal_succ (p := p) hlt hlt2
      rw [← HT.out] at B0 ES
      rw [ES] at B1
      have ES := Lib.hid ES
      obtain ⟨b01, b02⟩ := B0
      obtain ⟨b11, b12⟩ := B1
      obtain ⟨x11, x12⟩ := x1
      obtain ⟨x21, x22⟩ := x2
      generalize hs[k] = h at *
      generalize ss[k] = s at *
      have m1 : 0 ≤ s * (h + p.bo) := Int.mul_nonneg x21 (by omega)
      have m2 : s * (h + p.bo) ≤ 60 * 1100 := Int.mul_le_mul x22 (by omega) (by omega) (by omega)
      generalize hm : s * (h + p.bo) = M at *
      have hw1 : IntKind.i64.wrap (s * (h + p.bo)) = M := by rw [hm]; exact IntWalk.i64_in _ (by omega)
      have hw2 : wrap64 (s * (h + p.bo)) = M := by rw [hm]; exact IntWalk.wrap64_in _ (by omega)
      clear hca hcb
      go_wp2
      go_quiet (fail)
      clear q0 q1 c2
      go_wp2
      go_roundw
      case rel => exact ⟨k + 1, t + M, by go_num, by go_num, by omega, ES.out.symm, HPI.out.drewN _, hzz, below_drewN hbel _⟩
      case measure => simp [intOf]; omega
    · obtain rfl : k = hs.length := by omega
      go_wp2
      go_ret
      exact ⟨by rw [← HT.out]; rfl, hbel⟩

theorem cntB_true {hs ss : List Int} {m : Int} (h : cntB hs ss m = true) : allB ss m = true ∧ ss.length = hs.length := by
  unfold cntB at h
  simpa only [Bool.and_eq_true, decide_eq_true_eq] using h

set_option maxHeartbeats 4000000 in
theorem specTallOf_any (p : Pg) (wf : p.Wf) (v v2 : Value) (hs ss : List Int) (wz : ∀ z ∈ hs, (Lit.int .i64 z).wf = true) (w : World) (s1 : IntsOf .i64 w v hs) (s2 : IntsOf .i64 w v2 ss) (h1 : hs.length ≤ maxLen) (h2 : ss.length ≤ maxLen) :
    Calls Try.prog 24 #[.agg #[.int .i16 p.lo, .int .i16 p.st, .int .i16 p.bo], v, v2] w fun e w' => e = .returned (.tuple #[.int .i64 (tlV p hs ss), .int .i64 (tlC p hs ss)]) ∧ Below w.heap.size w w' := by
  have HN := Lib.hid (PegIn.new w p 26)
  have G0 := Lib.hid (show Below w.heap.size w (w.alloc (.cells #[.int .i16 p.lo, .int .i16 p.st, .int .i16 p.bo] 26)) by go_grown)
  have Z0 := Lib.hid (show w.heap.size < (w.alloc (.cells #[.int .i16 p.lo, .int .i16 p.st, .int .i16 p.bo] 26)).heap.size by simp)
  have WF := Lib.hid wf
  have WZ := Lib.hid wz
  have S1 := Lib.hid (s1.below G0.out)
  have S2 := Lib.hid (s2.below G0.out)
  clear wf wz s1 s2
  rcases tl_cases p hs ss with ⟨h3, h4, h5⟩ | ⟨h3, h6, h4, h5⟩ | ⟨h3, h6, h4, h5⟩
  · have E := Lib.hid h4
    have E2 := Lib.hid h5
    clear h4 h5
    go_enter Try.func24, Try.ntmps24
    go_wp2_with fail
    refine (l04Ok_any p WF.out v hs WZ.out _ S1.out h1).mono ?_
    rintro e w1 ⟨rfl, g1⟩
    rw [h3]
    go_wp2
    go_ret2
    exact ⟨by rw [E.out, E2.out]; rfl, bnext G0.out g1⟩
  · have E := Lib.hid h4
    have E2 := Lib.hid h5
    clear h4 h5
    go_enter Try.func24, Try.ntmps24
    go_wp2_with fail
    refine (l04Ok_any p WF.out v hs WZ.out _ S1.out h1).mono ?_
    rintro e w1 ⟨rfl, g1⟩
    rw [h3]
    go_wp2_with fail
    refine (l04Counts_any v v2 hs ss 60 _ (S1.out.below g1) (S2.out.below g1) h1 h2).mono ?_
    rintro e w2 ⟨rfl, g2⟩
    rw [h6]
    go_wp2
    go_ret2
    exact ⟨by rw [E.out, E2.out]; rfl, bnext (bnext G0.out g1) g2⟩
  · have E := Lib.hid h4
    have E2 := Lib.hid h5
    have L6 := hsB_len h3
    have HB := Lib.hid (hsB_bounds h3)
    have CT := Lib.hid (cntB_true h6)
    have PB := Lib.hid (pegsB_true L6.1).2.2
    have L66 := L6.2.2
    clear h4 h5 L6
    go_enter Try.func24, Try.ntmps24
    go_wp2_with fail
    refine (l04Ok_any p WF.out v hs WZ.out _ S1.out h1).mono ?_
    rintro e w1 ⟨rfl, g1⟩
    rw [h3]
    go_wp2_with fail
    refine (l04Counts_any v v2 hs ss 60 _ (S1.out.below g1) (S2.out.below g1) h1 h2).mono ?_
    rintro e w2 ⟨rfl, g2⟩
    rw [h6]
    obtain ⟨c0, c1, c2⟩ := HN.out.below (bnext g1 g2) Z0.out
    go_wp2_with fail
    refine (l04Tall_any p WF.out v v2 hs ss _ (S1.out.below (bnext g1 g2)) (S2.out.below (bnext g1 g2)) PB.out CT.out.2 L66 HB.out CT.out.1).mono ?_
    rintro e w3 ⟨rfl, g3⟩
    clear c0 c1 c2
    go_wp2
    go_ret2
    exact ⟨by rw [E.out, E2.out]; rfl, bnext (bnext (bnext G0.out g1) g2) g3⟩

set_option maxHeartbeats 8000000 in
theorem tallOf_any (p : Pg) (wf : p.Wf) (v v2 : Value) (hs ss : List Int) (wz : ∀ z ∈ hs, (Lit.int .i64 z).wf = true) (w : World) (s1 : IntsOf .i64 w v hs) (s2 : IntsOf .i64 w v2 ss) (h1 : hs.length ≤ maxLen) (h2 : ss.length ≤ maxLen) :
    Calls Try.prog 25 #[.agg #[.int .i16 p.lo, .int .i16 p.st, .int .i16 p.bo], v, v2] w fun e w' => e = .returned (.tuple #[.int .i64 (tlV p hs ss), .int .i64 (tlC p hs ss)]) ∧ Below w.heap.size w w' := by
  have HN := Lib.hid (PegIn.new w p 26)
  have G0 := Lib.hid (show Below w.heap.size w (w.alloc (.cells #[.int .i16 p.lo, .int .i16 p.st, .int .i16 p.bo] 26)) by go_grown)
  have Z0 := Lib.hid (show w.heap.size < (w.alloc (.cells #[.int .i16 p.lo, .int .i16 p.st, .int .i16 p.bo] 26)).heap.size by simp)
  have WF := Lib.hid wf
  have WZ := Lib.hid wz
  have S1 := Lib.hid (s1.below G0.out)
  have S2 := Lib.hid (s2.below G0.out)
  clear wf wz
  rcases tl_cases p hs ss with ⟨h3, h4, h5⟩ | ⟨h3, h6, h4, h5⟩ | ⟨h3, h6, h4, h5⟩
  · have E := Lib.hid h4
    have E2 := Lib.hid h5
    clear h4 h5 s1 s2
    go_enter Try.func25, Try.ntmps25
    go_wp2_with fail
    refine (validHeights_any p WF.out v hs WZ.out _ S1.out h1).mono ?_
    rintro e w1 ⟨rfl, g1⟩
    rw [h3]
    go_wp2
    go_ret2
    exact ⟨by rw [E.out, E2.out]; rfl, bnext G0.out g1⟩
  · have E := Lib.hid h4
    have E2 := Lib.hid h5
    clear h4 h5 s1 s2
    go_enter Try.func25, Try.ntmps25
    go_wp2_with fail
    refine (validHeights_any p WF.out v hs WZ.out _ S1.out h1).mono ?_
    rintro e w1 ⟨rfl, g1⟩
    rw [h3]
    go_wp2_with fail
    refine (areCounts_any v v2 hs ss 60 _ (S1.out.below g1) (S2.out.below g1) h1 h2).mono ?_
    rintro e w2 ⟨rfl, g2⟩
    rw [h6]
    go_wp2
    go_ret2
    exact ⟨by rw [E.out, E2.out]; rfl, bnext (bnext G0.out g1) g2⟩
  · have E := Lib.hid h4
    have E2 := Lib.hid h5
    have L6 := hsB_len h3
    have HBB := Lib.hid (hsB_bounds h3)
    have CT := Lib.hid (cntB_true h6)
    have PB := Lib.hid (pegsB_true L6.1).2.2
    have L66 := L6.2.2
    have BD := Lib.hid (tal_bounds PB.out CT.out.2 HBB.out CT.out.1)
    obtain ⟨p1, p2⟩ := PB.out
    obtain ⟨A, c, rfl, ha⟩ := s1
    obtain ⟨B, d, rfl, hb⟩ := s2
    have HA := Lib.hid ha
    have HB := Lib.hid hb
    clear h4 h5 L6 ha hb
    go_enter Try.func25, Try.ntmps25
    go_wp2_with fail
    refine (validHeights_any p WF.out _ hs WZ.out _ S1.out h1).mono ?_
    rintro e w1 ⟨rfl, g1⟩
    rw [h3]
    go_wp2_with fail
    refine (areCounts_any _ _ hs ss 60 _ (S1.out.below g1) (S2.out.below g1) h1 h2).mono ?_
    rintro e w2 ⟨rfl, g2⟩
    rw [h6]
    have G2 := Lib.hid (bnext (bnext G0.out g1) g2)
    obtain ⟨c0, c1, c2⟩ := HN.out.below (bnext g1 g2) Z0.out
    clear g1 g2
    go_wp2
    clear c0 c1 c2
    go_loopw [9, 26] (fun t_ i_ wr => ∃ (k : Nat) (t : Int), i_ = .int .i64 (k : Int) ∧ t_ = .int .i64 t ∧ k ≤ hs.length ∧ t = talTo p hs ss k ∧ Below w.heap.size w wr) (fun _ i_ _ => hs.length - (intOf i_).toNat)
    case atStart => exact ⟨0, p.bo, rfl, rfl, Nat.zero_le _, rfl, G2.out⟩
    case round =>
      obtain ⟨k, t, rfl, rfl, hk, ht, hbel⟩ := hrel
      have HT := Lib.hid ht
      clear ht
      by_cases hlt : k < hs.length
      · have hlt2 : k < ss.length := by have := CT.out.2; omega
        obtain ⟨ga, oa, rfl, hga, hca⟩ := HA.out (by omega)
        obtain ⟨gb, ob, rfl, hgb, hcb⟩ := HB.out (by omega)
        have q0 := (hca.below hbel hga) k hlt
        have q1 := (hcb.below hbel hgb) k hlt2
        have kss : (k : Int) < (ss.length : Int) := by omega
        have x1 := HBB.out _ (List.getElem_mem hlt)
        have x2 := allB_get CT.out.1 hlt2
        have B0 := BD.out k hk
        have B1 := BD.out (k + 1) (by omega)
        have ES := tal_succ (p := p) hlt hlt2
        rw [← HT.out] at B0 ES
        rw [ES] at B1
        have ES := Lib.hid ES
        obtain ⟨b01, b02⟩ := B0
        obtain ⟨b11, b12⟩ := B1
        obtain ⟨x11, x12⟩ := x1
        obtain ⟨x21, x22⟩ := x2
        generalize hs[k] = h at *
        generalize ss[k] = s at *
        have m1 : 0 ≤ s * (h + p.bo) := Int.mul_nonneg x21 (by omega)
        have m2 : s * (h + p.bo) ≤ 60 * 1100 := Int.mul_le_mul x22 (by omega) (by omega) (by omega)
        generalize hm : s * (h + p.bo) = M at *
        have hw1 : IntKind.i64.wrap (s * (h + p.bo)) = M := by rw [hm]; exact IntWalk.i64_in _ (by omega)
        have hw2 : wrap64 (s * (h + p.bo)) = M := by rw [hm]; exact IntWalk.wrap64_in _ (by omega)
        clear hca hcb
        go_wp2
        go_roundw
        case rel => exact ⟨k + 1, t + M, by go_num, by go_num, by omega, ES.out.symm, hbel⟩
        case measure => simp [intOf]; omega
      · obtain rfl : k = hs.length := by omega
        go_wp2
        go_ret2
        exact ⟨by rw [E.out, E2.out, ← HT.out]; rfl, hbel⟩

end Go.Proofs.Ytjfhpgomaahgoaa
