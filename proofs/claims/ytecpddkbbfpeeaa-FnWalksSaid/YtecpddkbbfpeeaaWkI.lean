/- How far a walk is, by the program: contracts. Condition: no longer than a slice can be. -/
import Derived.Test.YtecpddkbbfpeeaaWk
namespace Go.Proofs.Ytecpddkbbfpeeaa
set_option linter.unusedSimpArgs false
set_option linter.unusedVariables false
set_option maxRecDepth 100000
open Go.RowKit

set_option maxHeartbeats 400000 in
theorem withinN_any (n low high : Int) (w : World) :
    Calls Try.prog 30 #[.int .i64 n, .int .i64 low, .int .i64 high] w fun e w' => e = .returned (.bool (inB n low high)) ∧ w = w' := by
  by_cases h1 : low ≤ n
  · by_cases h2 : n ≤ high
    · go_enter Try.func30, Try.ntmps30
      go_wp2
      go_ret
      exact ⟨by simp [inB, h1, h2], rfl⟩
    · go_enter Try.func30, Try.ntmps30
      go_wp2
      go_ret
      exact ⟨by simp [inB, h1, h2], rfl⟩
  · have h1' : n < low := by omega
    go_enter Try.func30, Try.ntmps30
    go_wp2
    go_ret
    exact ⟨by simp [inB, show ¬ low ≤ n from by omega], rfl⟩

set_option maxHeartbeats 1000000 in
theorem closStop_any (z : Int) (w : World) :
    Calls Try.prog 42 #[.int .i64 z] w fun e w' => e = .returned (.bool (!stopB z)) ∧ w = w' := by
  have L0 := Lib.hid (fun W => withinN_any z 0 999 W)
  rw [show inB z 0 999 = stopB z from rfl] at L0
  cases hs : stopB z
  · rw [hs] at L0
    clear hs
    go_enter Try.func42, Try.ntmps42
    go_wp2_with fail
    refine (L0.out _).mono ?_
    rintro e w' ⟨rfl, rfl⟩
    go_wp2
    go_ret
    exact ⟨rfl, rfl⟩
  · rw [hs] at L0
    clear hs
    go_enter Try.func42, Try.ntmps42
    go_wp2_with fail
    refine (L0.out _).mono ?_
    rintro e w' ⟨rfl, rfl⟩
    go_wp2
    go_ret
    exact ⟨rfl, rfl⟩

set_option maxHeartbeats 4000000 in
theorem indexStop_any (v : Value) (zs : List Int) (w : World) (hs : IntsOf .i64 w v zs) (hn : zs.length ≤ maxLen) :
    Calls Try.prog 57 #[v, .func (.func 42) #[] #[]] w fun e w' => ∃ r : Int, e = .returned (.int .i64 r) ∧ decide (0 ≤ r) = !(zs.all stopB) ∧ w = w' := by
  obtain ⟨A, c, rfl, hat⟩ := hs
  have HAT := Lib.hid hat
  unfold maxLen at hn
  clear hat
  go_enter Try.func57, Try.ntmps57
  go_wp2
  go_loopw [8] (fun i_ wr => ∃ i : Nat, i ≤ zs.length ∧ i_ = .int .i64 (i : Int) ∧ AllSt zs i ∧ wr = w) (fun i_ _ => zs.length - (intOf i_).toNat)
  case atStart => exact ⟨0, Nat.zero_le _, rfl, AllSt.zero _, rfl⟩
  case round =>
    obtain ⟨i, hi, rfl, hno, rfl⟩ := hrel
    have NO := Lib.hid hno
    clear hno
    by_cases hlt : i < zs.length
    · obtain ⟨gl, ol, rfl, hgl, hcl⟩ := HAT.out (by omega)
      have r0 := hcl i hlt
      clear hcl
      have CJ := Lib.hid (fun W => closStop_any zs[i] W)
      cases hz : stopB zs[i]
      · have E := Lib.hid (all_bad hlt hz)
        rw [hz] at CJ
        clear hz
        go_wp2_with fail
        refine (CJ.out _).mono ?_
        rintro e w2 ⟨rfl, rfl⟩
        go_wp2
        go_ret
        exact ⟨_, rfl, by rw [E.out]; simp, rfl⟩
      · have HN := Lib.hid (NO.out.succ hlt hz)
        rw [hz] at CJ
        clear hz
        go_wp2_with fail
        refine (CJ.out _).mono ?_
        rintro e w2 ⟨rfl, rfl⟩
        go_wp2
        go_roundw
        case rel => exact ⟨i + 1, by omega, by go_num, HN.out, by first | rfl | trivial⟩
        case measure => simp [intOf]; omega
    · obtain rfl : i = zs.length := by omega
      have E := Lib.hid (all_good NO.out)
      go_wp2
      go_ret
      exact ⟨_, rfl, by rw [E.out]; simp, rfl⟩

set_option maxHeartbeats 2000000 in
theorem containsStop_any (v : Value) (zs : List Int) (w : World) (hs : IntsOf .i64 w v zs) (hn : zs.length ≤ maxLen) :
    Calls Try.prog 43 #[v, .func (.func 42) #[] #[]] w fun e w' => e = .returned (.bool (!(zs.all stopB))) ∧ w = w' := by
  have IX := Lib.hid (indexStop_any v zs w hs hn)
  clear hs
  generalize zs.all stopB = b at IX ⊢
  go_enter Try.func43, Try.ntmps43
  go_wp2_with fail
  refine IX.out.mono ?_
  rintro e w1 ⟨r, rfl, hr, rfl⟩
  have HR := Lib.hid hr
  clear hr
  go_wp2
  go_ret
  exact ⟨by rw [← HR.out]; rfl, rfl⟩

set_option maxHeartbeats 2000000 in
theorem checkWalk_any (v : Value) (zs : List Int) (a : Int) (w : World) (hs : IntsOf .i64 w v zs) (hn : zs.length ≤ maxLen) :
    Calls Try.prog 21 #[v, .int .i64 a] w fun e w' => e = .returned (.int .i64 (wkC zs a)) ∧ w = w' := by
  have L0 := Lib.hid (fun W => closStop_any a W)
  have L1 := Lib.hid (fun W (h : IntsOf .i64 W v zs) => containsStop_any v zs W h hn)
  have SL := Lib.hid hs
  have WC := Lib.hid (wk_cases zs a)
  obtain ⟨A, c, rfl, -⟩ := hs
  unfold maxLen at hn
  rcases WC.out with ⟨h1, h2, -⟩ | ⟨h1, h3, h2, -⟩ | ⟨h1, h3, h4, h2, -⟩ | ⟨h1, h3, h4, h2, -⟩
  · rw [h1] at L0
    have E := Lib.hid h2
    clear h1 h2 WC
    go_enter Try.func21, Try.ntmps21
    go_wp2_with fail
    refine (L0.out _).mono ?_
    rintro e w' ⟨rfl, rfl⟩
    go_wp2
    go_ret
    exact ⟨by rw [E.out]; rfl, rfl⟩
  all_goals
    rw [h1] at L0
    rw [h3] at L1
    have E := Lib.hid h2
    clear h1 h2 h3 WC
    go_enter Try.func21, Try.ntmps21
    go_wp2_with fail
    refine (L0.out _).mono ?_
    rintro e w' ⟨rfl, rfl⟩
    go_wp2_with fail
    refine (L1.out _ SL.out).mono ?_
    rintro e w' ⟨rfl, rfl⟩
    go_wp2
    go_ret
    exact ⟨by rw [E.out]; rfl, rfl⟩

set_option maxHeartbeats 4000000 in
theorem lengthOf_any (v : Value) (zs : List Int) (a : Int) (w : World) (hs : IntsOf .i64 w v zs) (ha : 0 ≤ a ∧ a ≤ 999) (hz : zs.all stopB = true) (h60 : zs.length ≤ 60) :
    Calls Try.prog 23 #[v, .int .i64 a] w fun e w' => e = .returned (.int .i64 (farF a zs)) ∧ Below w.heap.size w w' := by
  obtain ⟨A, c, rfl, hs⟩ := hs
  have HS := Lib.hid hs
  have EZ := Lib.hid (all_of hz)
  have EA := Lib.hid ha
  clear hs hz ha
  go_enter Try.func23, Try.ntmps23
  go_wp2
  go_loopw [1, 5, 10] (fun st sm i wr => ∃ (k : Nat) (s m : Int), k ≤ zs.length ∧ i = .int .i64 k ∧ st = .int .i64 s ∧ sm = .int .i64 m ∧ (0 ≤ s ∧ s ≤ 999) ∧ (0 ≤ m ∧ m ≤ 999 * (k : Int)) ∧ m + farF s (zs.drop k) = farF a zs ∧ Below w.heap.size w wr) (fun _ _ i _ => zs.length - (intOf i).toNat)
  case atStart => exact ⟨0, a, 0, Nat.zero_le _, rfl, rfl, rfl, EA.out, by omega, by simp, Below.refl _ _⟩
  case round =>
    obtain ⟨k, s, m, hk, rfl, rfl, rfl, hs, hm, he, hb⟩ := hrel
    have HE := Lib.hid he
    have HB := Lib.hid hb
    clear he hb
    by_cases hlt : k < zs.length
    · obtain ⟨g, o, rfl, hg, hat⟩ := HS.out (by omega)
      have p0 := hat.below HB.out hg k hlt
      have hz := EZ.out k hlt
      have FS := Lib.hid (far_step (a := s) hlt)
      have ab := apart_bd hs hz
      have AE := Lib.hid (show apart s zs[k] = if zs[k] - s ≤ s - zs[k] then s - zs[k] else zs[k] - s by unfold apart; split <;> omega)
      generalize apart s zs[k] = q at *
      obtain ⟨q1, q2⟩ := ab
      obtain ⟨m1, m2⟩ := hm
      obtain ⟨s1, s2⟩ := hs
      generalize zs[k] = z at *
      obtain ⟨z1, z2⟩ := hz
      clear hat
      by_cases hc : z - s ≤ s - z
      · have Q := Lib.hid (show q = s - z by rw [AE.out, if_pos hc])
        by_cases hd : z - s < s - z
        · go_wp2
          go_roundw
          case rel => exact ⟨k + 1, z, m + (s - z), by omega, by go_num, rfl, by first | rfl | (congr 1; omega), ⟨z1, z2⟩, by have := Q.out; omega, by have := HE.out; have := FS.out; have := Q.out; omega, HB.out⟩
          case measure => simp [intOf]; omega
        · obtain rfl : z = s := by omega
          go_wp2
          go_roundw
          case rel => exact ⟨k + 1, z, m + (z - z), by omega, by go_num, rfl, by first | rfl | (congr 1; omega), ⟨z1, z2⟩, by have := Q.out; omega, by have := HE.out; have := FS.out; have := Q.out; omega, HB.out⟩
          case measure => simp [intOf]; omega
      · have hd : s - z < z - s := by omega
        have Q := Lib.hid (show q = z - s by rw [AE.out, if_neg hc])
        go_wp2
        go_roundw
        case rel => exact ⟨k + 1, z, m + (z - s), by omega, by go_num, rfl, by first | rfl | (congr 1; omega), ⟨z1, z2⟩, by have := Q.out; omega, by have := HE.out; have := FS.out; have := Q.out; omega, HB.out⟩
        case measure => simp [intOf]; omega
    · obtain rfl : k = zs.length := by omega
      have FE := Lib.hid (show m = farF a zs by have := HE.out; rw [far_end] at this; omega)
      go_wp2
      go_ret
      exact ⟨by rw [FE.out]; rfl, HB.out⟩

set_option maxHeartbeats 2000000 in
theorem walkLength_any (v : Value) (zs : List Int) (a : Int) (w : World) (hs : IntsOf .i64 w v zs) (hn : zs.length ≤ maxLen) :
    Calls Try.prog 9 #[v, .int .i64 a] w fun e w' => e = .returned (.tuple #[.int .i64 (wkR zs a), .int .i64 (wkC zs a)]) ∧ Below w.heap.size w w' := by
  have L0 := Lib.hid (fun W (h : IntsOf .i64 W v zs) => checkWalk_any v zs a W h hn)
  have SL := Lib.hid hs
  have WC := Lib.hid (wk_cases zs a)
  obtain ⟨A, c, rfl, -⟩ := hs
  by_cases hc : wkC zs a = 0
  · have h0 : stopB a = true ∧ zs.all stopB = true ∧ zs.length ≤ 60 ∧ wkR zs a = farF a zs := by
      rcases WC.out with ⟨_, h, _⟩ | ⟨_, _, h, _⟩ | ⟨_, _, _, h, _⟩ | ⟨h1, h2, h3, _, h4⟩
      · omega
      · omega
      · omega
      · exact ⟨h1, h2, h3, h4⟩
    obtain ⟨ha, hz, h60, hr⟩ := h0
    have LO := Lib.hid (fun W (h : IntsOf .i64 W (.slice A zs.length c) zs) => lengthOf_any _ zs a W h (stopB_bd ha) hz h60)
    rw [hc] at L0 ⊢
    rw [hr]
    clear hc ha hz hn hr WC
    go_enter Try.func9, Try.ntmps9
    go_wp2_with fail
    refine (L0.out _ SL.out).mono ?_
    rintro e w' ⟨rfl, rfl⟩
    go_wp2_with fail
    refine (LO.out _ SL.out).mono ?_
    rintro e w1 ⟨rfl, h1⟩
    go_wp2
    go_ret2
    exact ⟨rfl, h1⟩
  · have ER := Lib.hid (show wkR zs a = 0 by unfold wkR; rw [if_neg hc])
    rw [ER.out]
    clear WC
    generalize wkC zs a = k at *
    have hk : (k == 0) = false := by simpa using hc
    have hk2 : (k != 0) = true := by simpa using hc
    clear hc hn
    go_enter Try.func9, Try.ntmps9
    go_wp2_with fail
    refine (L0.out _ SL.out).mono ?_
    rintro e w' ⟨rfl, rfl⟩
    go_wp2
    go_ret2
    exact ⟨rfl, Below.refl _ _⟩
end Go.Proofs.Ytecpddkbbfpeeaa
