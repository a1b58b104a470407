/- The law of TableOf, walked. No condition. -/
import Derived.Test.YtpamflkefgpdpaaLtT
import Derived.Test.YtpamflkefgpdpaaMark2
import Derived.Deep.RegionHeld3
namespace Go.Proofs.Ytpamflkefgpdpaa
set_option linter.unusedSimpArgs false
set_option linter.unusedVariables false
set_option maxRecDepth 100000
open Go.RowKit

set_option maxHeartbeats 16000000 in
theorem walkTableOf (c0 : Cs) (hv0 : Value) (wf0 : c0.Wf) (v1 : Value) (xs1 : List Bk) (wf1 : ∀ b ∈ xs1, b.Wf) (w : World) (sl0 : IntsOf .i16 w hv0 c0.hs) (ml0 : c0.hs.length ≤ maxLen) (sl1 : SliceOf w v1 xs1) (ml1 : xs1.length ≤ maxLen) :
    Calls Try.prog 5 #[.agg #[.int .i16 c0.wi, .int .i32 c0.lo, hv0], v1] w fun e w' => e = .returned (.bool true) ∧ Below w.heap.size w w' := by
  have mx0 : c0.hs.length ≤ 9223372036854775807 := by unfold maxLen at ml0; omega
  have SL0 := Lib.hid sl0
  have WF0 := Lib.hid wf0
  have ML0 := Lib.hid ml0
  obtain ⟨A0, k0, rfl, -⟩ := sl0
  have mx1 : xs1.length ≤ 9223372036854775807 := by unfold maxLen at ml1; omega
  have SL1 := Lib.hid sl1
  have WF1 := Lib.hid wf1
  have ML1 := Lib.hid ml1
  obtain ⟨A1, k1, rfl, -⟩ := sl1
  clear wf0 ml0 wf1 ml1
  have LT := Lib.hid (show TBd (tbR c0 xs1) from tbR_bd c0 xs1)
  have AB0 := Lib.hid (CaseIn.new w c0 (.slice A0 c0.hs.length k0) 45)
  have ZB0 := Lib.hid (show w.heap.size < ((World.alloc w (.cells #[.int .i16 c0.wi, .int .i32 c0.lo, .slice A0 c0.hs.length k0] 45))).heap.size by simp)
  have h1 : Below w.heap.size w (World.alloc w (.cells #[.int .i16 c0.wi, .int .i32 c0.lo, .slice A0 c0.hs.length k0] 45)) := by go_grown
  by_cases hn0 : (c0.hs.length : Int) ≤ 1048576
  · have e0 : ¬ (1048576 - (c0.hs.length : Int) < 0) := by omega
    by_cases hn1 : (xs1.length : Int) ≤ 1048576 - (c0.hs.length : Int)
    · have e1 : ¬ (1048576 - (c0.hs.length : Int) - (xs1.length : Int) < 0) := by omega
      go_enter Try.func5, Try.ntmps5
      go_wp2_with fail
      generalize World.alloc _ _ = w1 at AB0 ZB0 h1 ⊢
      have z1 := h1.size
      refine (szCase_left c0 _ _ _ _ mx0 (by omega) (by omega)).mono ?_
      rintro e w2 ⟨rfl, h2⟩
      have z2 := h2.size
      rw [if_pos (by omega)]
      go_wp2_with fail
      refine (szBookS_left _ _ _ _ _ mx1 (by omega) (by omega)).mono ?_
      rintro e w' ⟨rfl, rfl⟩
      rw [if_pos (by omega)]
      replace hn0 : c0.hs.length ≤ 1048576 := by omega
      replace hn1 : xs1.length ≤ 1048576 := by omega
      obtain ⟨p0_0, p0_1, p0_2⟩ := AB0.out.below h2 ZB0.out
      go_wp2_with fail
      refine (toCase_any c0 _ _ (SL0.out.below (bnext h1 h2)) hn0).mono ?_
      rintro e w3 ⟨g0, rfl, hg0, hr0, h3⟩
      have z3 := h3.size
      clear p0_0 p0_1 p0_2
      have R0 := Lib.hid (IRow.slice hr0)
      clear hr0 hg0
      go_wp2_with fail
      refine (toBookS_any _ xs1 _ (SL1.out.below (bnext (bnext h1 h2) h3)) hn1).mono ?_
      rintro e w4 ⟨g1, rfl, hg1, hr1, h4⟩
      have z4 := h4.size
      have R1 := Lib.hid (Row.slice hr1)
      clear hr1 hg1
      go_wp2_with fail
      refine (specTableOf_any c0 _ _ _ xs1 WF0.out WF1.out _ (R0.out.below h4) ML0.out R1.out (Nat.le_refl _) ML1.out).mono ?_
      rintro e w5 ⟨u0, rfl, ho0, h5⟩
      have z5 := h5.size
      have O0 := Lib.hid ho0
      clear ho0
      obtain ⟨p0_0, p0_1, p0_2⟩ := AB0.out.below (bnext (bnext (bnext h2 h3) h4) h5) ZB0.out
      go_wp2_with fail
      refine (toCase_any c0 _ _ (SL0.out.below (bnext (bnext (bnext (bnext h1 h2) h3) h4) h5)) hn0).mono ?_
      rintro e w6 ⟨g2, rfl, hg2, hr2, h6⟩
      have z6 := h6.size
      clear p0_0 p0_1 p0_2
      have R2 := Lib.hid (IRow.slice hr2)
      have Q2 := Lib.hid (Row16.of hr2)
      have gl2 := IRowK.lt hr2
      clear hr2
      have X_0 := Lib.hid (CaseIn.new w6 c0 (.slice (some ⟨g2, 0, none⟩) c0.hs.length c0.hs.length) 50)
      have h7 := (Below.refl w6.heap.size w6).alloc (Nat.le_refl _) (.cells #[.int .i16 c0.wi, .int .i32 c0.lo, .slice (some ⟨g2, 0, none⟩) c0.hs.length c0.hs.length] 50)
      have Y_0 := Lib.hid (show w6.heap.size < (World.alloc w6 (.cells #[.int .i16 c0.wi, .int .i32 c0.lo, .slice (some ⟨g2, 0, none⟩) c0.hs.length c0.hs.length] 50)).heap.size by simp)
      go_wp2_with fail
      generalize World.alloc _ _ = w7 at X_0 h7 Y_0 ⊢
      have z7 := h7.size
      refine (toBookS_any _ xs1 _ (SL1.out.below (bnext (bnext (bnext (bnext (bnext (bnext h1 h2) h3) h4) h5) h6) h7)) hn1).mono ?_
      rintro e w8 ⟨g3, rfl, hg3, hr3, h8⟩
      have z8 := h8.size
      have R3 := Lib.hid (Row.slice hr3)
      have Q3 := Lib.hid (RowB.of hr3)
      have gl3 := RowK.lt hr3
      clear hr3
      obtain ⟨p0_0, p0_1, p0_2⟩ := X_0.out.below h8 Y_0.out
      go_wp2_with fail
      refine (tableOf_any c0 _ _ _ xs1 WF0.out WF1.out _ (R2.out.below (bnext h7 h8)) ML0.out R3.out (Nat.le_refl _) ML1.out).mono ?_
      rintro e w9 ⟨u1, rfl, ho1, h9⟩
      have z9 := h9.size
      clear p0_0 p0_1 p0_2
      have O1 := Lib.hid ho1
      clear ho1
      generalize hrc0 : askCode c0 xs1 = rc0
      have HRC0 := Lib.hid hrc0
      clear hrc0
      go_wp2_with fail
      refine (eqInt64SS_same _ _ (tbR c0 xs1) _ O1.out.tab (O0.out.below (bnext (bnext (bnext h6 h7) h8) h9)).tab LT.out.row LT.out.len).mono ?_
      rintro e w10 ⟨rfl, h10⟩
      have z10 := h10.size
      have b0_0 : Below w10.heap.size w10 w10.drew := (Below.refl _ _).drew
      have HK0 := Lib.hid (show ∀ W1, Below w10.heap.size w10 W1 → (fun W1 => Below w10.heap.size w10 W1 ∧ W1.cell? ⟨w6.heap.size, 0, none⟩ = some (.int .i16 c0.wi) ∧ W1.cell? ⟨w6.heap.size, 1, none⟩ = some (.int .i32 c0.lo) ∧ W1.cell? ⟨w6.heap.size, 2, none⟩ = some (.slice (some ⟨g2, 0, none⟩) c0.hs.length c0.hs.length) ∧ W1.cell? ⟨w.heap.size, 0, none⟩ = some (.int .i16 c0.wi) ∧ W1.cell? ⟨w.heap.size, 1, none⟩ = some (.int .i32 c0.lo) ∧ W1.cell? ⟨w.heap.size, 2, none⟩ = some (.slice A0 c0.hs.length k0)) W1 from fun W1 hB => ⟨hB, (X_0.out.below (bnext (bnext (bnext h8 h9) h10) hB) Y_0.out).1, (X_0.out.below (bnext (bnext (bnext h8 h9) h10) hB) Y_0.out).2.1, (X_0.out.below (bnext (bnext (bnext h8 h9) h10) hB) Y_0.out).2.2, (AB0.out.below (bnext (bnext (bnext (bnext (bnext (bnext (bnext (bnext (bnext h2 h3) h4) h5) h6) h7) h8) h9) h10) hB) ZB0.out).1, (AB0.out.below (bnext (bnext (bnext (bnext (bnext (bnext (bnext (bnext (bnext h2 h3) h4) h5) h6) h7) h8) h9) h10) hB) ZB0.out).2.1, (AB0.out.below (bnext (bnext (bnext (bnext (bnext (bnext (bnext (bnext (bnext h2 h3) h4) h5) h6) h7) h8) h9) h10) hB) ZB0.out).2.2⟩)
      have GG0 := Lib.hid (bnext (bnext (bnext (bnext (bnext (bnext (bnext (bnext (bnext h1 h2) h3) h4) h5) h6) h7) h8) h9) h10)
      have RR0 := Lib.hid (R2.out.below (bnext (bnext (bnext h7 h8) h9) h10))
      go_wp2
      go_region_held3 (fun W1 => Below w10.heap.size w10 W1 ∧ W1.cell? ⟨w6.heap.size, 0, none⟩ = some (.int .i16 c0.wi) ∧ W1.cell? ⟨w6.heap.size, 1, none⟩ = some (.int .i32 c0.lo) ∧ W1.cell? ⟨w6.heap.size, 2, none⟩ = some (.slice (some ⟨g2, 0, none⟩) c0.hs.length c0.hs.length) ∧ W1.cell? ⟨w.heap.size, 0, none⟩ = some (.int .i16 c0.wi) ∧ W1.cell? ⟨w.heap.size, 1, none⟩ = some (.int .i32 c0.lo) ∧ W1.cell? ⟨w.heap.size, 2, none⟩ = some (.slice A0 c0.hs.length k0)) (first | exact HK0.out _ b0_0 | (refine HK0.out _ (bnext ?_ hq); exact And.left (by assumption))) (first
        | (go_at_call 23; refine (toCase_any c0 _ _ (SL0.out.below (bnext GG0.out (And.left (by assumption)))) hn0).mono ?_; rintro e w' ⟨gz, rfl, hg, hr, hq⟩; have HR := Lib.hid (IRow.slice hr); clear hr hg)
        | (go_at_call 26; refine (eqCase_same c0 _ _ _ (RR0.out.below (And.left (by assumption))) HR.out ML0.out).mono ?_; rintro e w11 ⟨rfl, hq⟩))
      all_goals
        have h11 : Below w10.heap.size w10 w11 := And.left (by assumption)
        have z11 := h11.size
        rename_i hheld
        clear hheld hq HK0 b0_0 GG0 RR0 HR
        go_wp2_with fail
        refine (toBookS_any _ xs1 _ (SL1.out.below (bnext (bnext (bnext (bnext (bnext (bnext (bnext (bnext (bnext (bnext h1 h2) h3) h4) h5) h6) h7) h8) h9) h10) h11)) hn1).mono ?_
        rintro e w12 ⟨g4, rfl, hg4, hr4, h12⟩
        have z12 := h12.size
        have R4 := Lib.hid (Row.slice hr4)
        clear hr4 hg4
        go_wp2_with fail
        refine (eqBookS_same _ _ xs1 _ (R3.out.below (bnext (bnext (bnext h9 h10) h11) h12)) R4.out ML1.out).mono ?_
        rintro e w13 ⟨rfl, h13⟩
        have z13 := h13.size
        obtain ⟨p0_0, p0_1, p0_2⟩ := X_0.out.below (bnext (bnext (bnext (bnext (bnext h8 h9) h10) h11) h12) h13) Y_0.out
        have T_u0_13 := Lib.hid (O0.out.below (bnext (bnext (bnext (bnext (bnext (bnext (bnext h6 h7) h8) h9) h10) h11) h12) h13))
        have T_x0_13 := Lib.hid (Q2.out.below (bnext (bnext (bnext (bnext (bnext (bnext h7 h8) h9) h10) h11) h12) h13) Q2.out.lt)
        have T_x1_13 := Lib.hid (Q3.out.below (bnext (bnext (bnext (bnext h9 h10) h11) h12) h13) Q3.out.lt)
        have T_u1_13 := Lib.hid (O1.out.below (bnext (bnext (bnext h10 h11) h12) h13))
        have A_13 := Lib.hid (AB0.out.below (bnext (bnext (bnext (bnext (bnext (bnext (bnext (bnext (bnext (bnext (bnext h2 h3) h4) h5) h6) h7) h8) h9) h10) h11) h12) h13) ZB0.out)
        have Zb_13 := Lib.hid (Nat.lt_of_lt_of_le ZB0.out (bnext (bnext (bnext (bnext (bnext (bnext (bnext (bnext (bnext (bnext (bnext h2 h3) h4) h5) h6) h7) h8) h9) h10) h11) h12) h13).size)
        have GA13 := Lib.hid (bnext (bnext (bnext (bnext (bnext (bnext (bnext (bnext (bnext (bnext (bnext (bnext h1 h2) h3) h4) h5) h6) h7) h8) h9) h10) h11) h12) h13)
        go_wp2_with fail
        refine (markCase_any _ _ g2 c0.hs.length 1 _ T_x0_13.out hn0 (by omega) (by omega)).mono ?_
        rintro e w14 ⟨rfl, k14⟩
        replace k14 : w13.grownBy w14 (some g2) := k14
        have z14 := k14.size
        clear p0_0 p0_1 p0_2
        generalize hkk : 1 + (c0.hs.length : Int) = kk14
        have b14a : 0 ≤ kk14 := by omega
        have b14b : kk14 ≤ 9000001 := by omega
        clear hkk
        have GB14 := Lib.hid (GA13.out.grown k14 GA13.out.size (fun k hk => by first | (injection hk with hk; omega) | (simp [Value.ownBlock] at hk; omega)))
        have G_u0_14 := Lib.hid (T_u0_13.out.other k14 (fun k hk => by injection hk with hk; omega))
        have G_x1_14 := Lib.hid (T_x1_13.out.kept k14 (by omega))
        have G_u1_14 := Lib.hid (T_u1_13.out.other k14 (fun k hk => by injection hk with hk; omega))
        have A_14 := Lib.hid (A_13.out.kept k14 (by have := ZB0.out; omega) Zb_13.out)
        have Zb_14 := Lib.hid (Nat.lt_of_lt_of_le Zb_13.out z14)
        have GA14 := Lib.hid GB14.out
        go_wp2_with fail
        refine (markBooks_any g3 xs1.length kk14 _ G_x1_14.out hn1 (by omega) (by omega)).mono ?_
        rintro e w15 ⟨rfl, k15⟩
        replace k15 : w14.grownBy w15 (some g3) := k15
        have z15 := k15.size
        generalize hkk : kk14 + 8 * (xs1.length : Int) = kk15
        have b15a : 0 ≤ kk15 := by omega
        have b15b : kk15 ≤ 18000001 := by omega
        clear hkk
        have GB15 := Lib.hid (GA14.out.grown k15 GA14.out.size (fun k hk => by first | (injection hk with hk; omega) | (simp [Value.ownBlock] at hk; omega)))
        have G_u0_15 := Lib.hid (G_u0_14.out.other k15 (fun k hk => by injection hk with hk; omega))
        have G_u1_15 := Lib.hid (G_u1_14.out.other k15 (fun k hk => by injection hk with hk; omega))
        have A_15 := Lib.hid (A_14.out.kept k15 (by have := ZB0.out; omega) Zb_14.out)
        have Zb_15 := Lib.hid (Nat.lt_of_lt_of_le Zb_14.out z15)
        have kd : decide (kk15 < 0) = false := by simp; omega
        go_wp2_with fail
        refine (eqInt64SS_same _ _ (tbR c0 xs1) _ G_u1_15.out.tab G_u0_15.out.tab LT.out.row LT.out.len).mono ?_
        rintro e w16 ⟨rfl, h16⟩
        have z16 := h16.size
        have T_u0_16 := Lib.hid (G_u0_15.out.below h16)
        have T_u1_16 := Lib.hid (G_u1_15.out.below h16)
        have A_16 := Lib.hid (A_15.out.below h16 Zb_15.out)
        have Zb_16 := Lib.hid (Nat.lt_of_lt_of_le Zb_15.out h16.size)
        have GA16 := Lib.hid (bnext GB15.out h16)
        go_wp2_with fail
        refine (markT_any u1 (tbR c0 xs1) _ _ _ LT.out T_u1_16.out (by omega)).mono ?_
        rintro e w17 ⟨rfl, hm, k17⟩
        have z17 := k17.size
        have MM := Lib.hid hm
        clear hm
        have GB17 := Lib.hid (GA16.out.trans (k17.mono (by omega)))
        have G_u0_17 := Lib.hid (T_u0_16.out.keep k17 (by omega))
        have A_17 := Lib.hid (A_16.out.below k17 (by have := ZB0.out; omega))
        have Zb_17 := Lib.hid (Nat.lt_of_lt_of_le Zb_16.out z17)
        generalize hmm : (1 + (offT (tbR c0 xs1) (tbR c0 xs1).length : Int)) = mm
        have HMM := Lib.hid hmm
        clear hmm
        have mn : ¬ mm < 0 := by have := HMM.out; omega
        go_wp2_with fail
        refine (heldT_any u1 (tbR c0 xs1) _ LT.out MM.out.tab).mono ?_
        rintro e w18 ⟨rfl, h18⟩
        have z18 := h18.size
        rw [HMM.out]
        obtain ⟨p0_0, p0_1, p0_2⟩ := A_17.out.below h18 Zb_17.out
        go_wp2_with fail
        refine (toCase_any c0 _ _ (SL0.out.below (bnext GB17.out h18)) hn0).mono ?_
        rintro e w19 ⟨g5, rfl, hg5, hr5, h19⟩
        have z19 := h19.size
        clear p0_0 p0_1 p0_2
        have R5 := Lib.hid (IRow.slice hr5)
        clear hr5 hg5
        go_wp2_with fail
        refine (toBookS_any _ xs1 _ (SL1.out.below (bnext (bnext GB17.out h18) h19)) hn1).mono ?_
        rintro e w20 ⟨g6, rfl, hg6, hr6, h20⟩
        have z20 := h20.size
        have R6 := Lib.hid (Row.slice hr6)
        clear hr6 hg6
        go_wp2_with fail
        refine (tableOf_any c0 _ _ _ xs1 WF0.out WF1.out _ (R5.out.below h20) ML0.out R6.out (Nat.le_refl _) ML1.out).mono ?_
        rintro e w21 ⟨u2, rfl, ho2, h21⟩
        have z21 := h21.size
        rw [HRC0.out]
        have O2 := Lib.hid ho2
        clear ho2
        go_wp2_with fail
        refine (eqInt64SS_same _ _ (tbR c0 xs1) _ O2.out.tab (G_u0_17.out.below (bnext (bnext (bnext h18 h19) h20) h21)).tab LT.out.row LT.out.len).mono ?_
        rintro e w22 ⟨rfl, h22⟩
        have z22 := h22.size
        go_wp2_with fail
        refine (heldT_any u1 (tbR c0 xs1) _ LT.out (MM.out.below (bnext (bnext (bnext (bnext h18 h19) h20) h21) h22)).tab).mono ?_
        rintro e w23 ⟨rfl, h23⟩
        have z23 := h23.size
        rw [HMM.out]
        go_wp2
        go_ret
        exact ⟨rfl, (bnext (bnext (bnext (bnext (bnext (bnext GB17.out h18) h19) h20) h21) h22) h23)⟩
    · have e1 : (1048576 - (c0.hs.length : Int) - (xs1.length : Int) < 0) := by omega
      go_enter Try.func5, Try.ntmps5
      go_wp2_with fail
      generalize World.alloc _ _ = w1 at AB0 ZB0 h1 ⊢
      have z1 := h1.size
      refine (szCase_left c0 _ _ _ _ mx0 (by omega) (by omega)).mono ?_
      rintro e w2 ⟨rfl, h2⟩
      have z2 := h2.size
      rw [if_pos (by omega)]
      go_wp2_with fail
      refine (szBookS_left _ _ _ _ _ mx1 (by omega) (by omega)).mono ?_
      rintro e w' ⟨rfl, rfl⟩
      rw [if_neg (by omega)]
      go_wp2
      go_ret
      exact ⟨rfl, (bnext h1 h2)⟩
  · have e0 : (1048576 - (c0.hs.length : Int) < 0) := by omega
    go_enter Try.func5, Try.ntmps5
    go_wp2_with fail
    generalize World.alloc _ _ = w1 at AB0 ZB0 h1 ⊢
    have z1 := h1.size
    refine (szCase_left c0 _ _ _ _ mx0 (by omega) (by omega)).mono ?_
    rintro e w2 ⟨rfl, h2⟩
    have z2 := h2.size
    rw [if_neg (by omega)]
    go_wp2
    go_ret
    exact ⟨rfl, (bnext h1 h2)⟩

end Go.Proofs.Ytpamflkefgpdpaa
