/- The law of FreeOn, walked. No condition. -/
import Derived.Test.YtdkdchhkfachmaaFreeOn2
import Derived.Test.YtdkdchhkfachmaaMark2
import Derived.Deep.RegionHeld3
namespace Go.Proofs.Ytdkdchhkfachmaa
set_option linter.unusedSimpArgs false
set_option linter.unusedVariables false
set_option maxRecDepth 100000
open Go.RowKit

set_option maxHeartbeats 16000000 in
theorem walkFreeOn (c0 : Cs) (hv0 : Value) (wf0 : c0.Wf) (v1 : Value) (xs1 : List Bk) (wf1 : ∀ b ∈ xs1, b.Wf) (v2 : Value) (zs2 : List Int) (wf2 : ∀ z ∈ zs2, (Lit.int .i64 z).wf = true) (w : World) (sl0 : IntsOf .i16 w hv0 c0.hs) (ml0 : c0.hs.length ≤ maxLen) (sl1 : SliceOf w v1 xs1) (ml1 : xs1.length ≤ maxLen) (sl2 : IntsOf .i64 w v2 zs2) (ml2 : zs2.length ≤ maxLen) :
    Calls Try.prog 9 #[.agg #[.int .i16 c0.wi, .int .i32 c0.lo, hv0], v1, v2] w fun e w' => e = .returned (.bool true) ∧ Below w.heap.size w w' := by
  have mx0 : c0.hs.length ≤ 9223372036854775807 := by unfold maxLen at ml0; omega
  have SL0 := Lib.hid sl0
  have WF0 := Lib.hid wf0
  have ML0 := Lib.hid ml0
  obtain ⟨A0, k0, rfl, -⟩ := sl0
  have mx1 : xs1.length ≤ 9223372036854775807 := by unfold maxLen at ml1; omega
  have SL1 := Lib.hid sl1
  have WF1 := Lib.hid wf1
  have ML1 := Lib.hid ml1
  obtain ⟨A1, k1, rfl, -⟩ := sl1
  have mx2 : zs2.length ≤ 9223372036854775807 := by unfold maxLen at ml2; omega
  have SL2 := Lib.hid sl2
  have WF2 := Lib.hid wf2
  have ML2 := Lib.hid ml2
  obtain ⟨A2, k2, rfl, -⟩ := sl2
  clear wf0 ml0 wf1 ml1 wf2 ml2
  have LR0 : (frR c0 xs1 zs2).length ≤ 12 := frR_len c0 xs1 zs2
  have LR := Lib.hid (show (frR c0 xs1 zs2).length ≤ 1048576 by omega)
  have LM := Lib.hid (show (frR c0 xs1 zs2).length ≤ maxLen by unfold maxLen; omega)
  have AB0 := Lib.hid (CaseIn.new w c0 (.slice A0 c0.hs.length k0) 25)
  have ZB0 := Lib.hid (show w.heap.size < ((World.alloc w (.cells #[.int .i16 c0.wi, .int .i32 c0.lo, .slice A0 c0.hs.length k0] 25))).heap.size by simp)
  have h1 : Below w.heap.size w (World.alloc w (.cells #[.int .i16 c0.wi, .int .i32 c0.lo, .slice A0 c0.hs.length k0] 25)) := by go_grown
  by_cases hn2 : (zs2.length : Int) ≤ 1048576
  · have e2 : ¬ ((1048576 : Int) < (zs2.length : Int)) := by omega
    by_cases hn0 : (c0.hs.length : Int) ≤ 1048576
    · have e0 : ¬ (1048576 - (c0.hs.length : Int) < 0) := by omega
      by_cases hn1 : (xs1.length : Int) ≤ 1048576 - (c0.hs.length : Int)
      · have e1 : ¬ (1048576 - (c0.hs.length : Int) - (xs1.length : Int) < 0) := by omega
        go_enter Try.func9, Try.ntmps9
        go_wp2_with fail
        generalize World.alloc _ _ = w1 at AB0 ZB0 h1 ⊢
        have z1 := h1.size
        refine (szCase_left c0 _ _ _ _ mx0 (by omega) (by omega)).mono ?_
        rintro e w2 ⟨rfl, h2⟩
        have z2 := h2.size
        rw [if_pos (by omega)]
        go_wp2_with fail
        refine (szBookS_left _ _ _ _ _ mx1 (by omega) (by omega)).mono ?_
        rintro e w' ⟨rfl, rfl⟩
        rw [if_pos (by omega)]
        replace hn0 : c0.hs.length ≤ 1048576 := by omega
        replace hn1 : xs1.length ≤ 1048576 := by omega
        replace hn2 : zs2.length ≤ 1048576 := by omega
        obtain ⟨p0_0, p0_1, p0_2⟩ := AB0.out.below h2 ZB0.out
        go_wp2_with fail
        refine (toCase_any c0 _ _ (SL0.out.below (bnext h1 h2)) hn0).mono ?_
        rintro e w3 ⟨g0, rfl, hg0, hr0, h3⟩
        have z3 := h3.size
        clear p0_0 p0_1 p0_2
        have R0 := Lib.hid (IRow.slice hr0)
        clear hr0 hg0
        go_wp2_with fail
        refine (toBookS_any _ xs1 _ (SL1.out.below (bnext (bnext h1 h2) h3)) hn1).mono ?_
        rintro e w4 ⟨g1, rfl, hg1, hr1, h4⟩
        have z4 := h4.size
        have R1 := Lib.hid (Row.slice hr1)
        clear hr1 hg1
        go_wp2_with fail
        refine (toInt64S_any _ zs2 _ (SL2.out.below (bnext (bnext (bnext h1 h2) h3) h4)) hn2).mono ?_
        rintro e w5 ⟨g2, rfl, hg2, hr2, h5⟩
        have z5 := h5.size
        have R2 := Lib.hid (IRow.slice hr2)
        clear hr2 hg2
        go_wp2_with fail
        refine (specFreeOn_any c0 _ _ _ _ xs1 zs2 WF0.out WF1.out _ (R0.out.below (bnext h4 h5)) ML0.out (R1.out.below h5) (Nat.le_refl _) ML1.out R2.out ML2.out).mono ?_
        rintro e w6 ⟨u0, rfl, ho0, h6⟩
        have z6 := h6.size
        have O0 := Lib.hid ho0
        have l0 := fun k hk => (O0.out.lt k hk).2
        have L0 := Lib.hid l0
        clear ho0 l0
        obtain ⟨p0_0, p0_1, p0_2⟩ := AB0.out.below (bnext (bnext (bnext (bnext h2 h3) h4) h5) h6) ZB0.out
        go_wp2_with fail
        refine (toCase_any c0 _ _ (SL0.out.below (bnext (bnext (bnext (bnext (bnext h1 h2) h3) h4) h5) h6)) hn0).mono ?_
        rintro e w7 ⟨g3, rfl, hg3, hr3, h7⟩
        have z7 := h7.size
        clear p0_0 p0_1 p0_2
        have R3 := Lib.hid (IRow.slice hr3)
        have Q3 := Lib.hid (Row16.of hr3)
        have gl3 := IRowK.lt hr3
        clear hr3
        have X_0 := Lib.hid (CaseIn.new w7 c0 (.slice (some ⟨g3, 0, none⟩) c0.hs.length c0.hs.length) 28)
        have h8 := (Below.refl w7.heap.size w7).alloc (Nat.le_refl _) (.cells #[.int .i16 c0.wi, .int .i32 c0.lo, .slice (some ⟨g3, 0, none⟩) c0.hs.length c0.hs.length] 28)
        have Y_0 := Lib.hid (show w7.heap.size < (World.alloc w7 (.cells #[.int .i16 c0.wi, .int .i32 c0.lo, .slice (some ⟨g3, 0, none⟩) c0.hs.length c0.hs.length] 28)).heap.size by simp)
        go_wp2_with fail
        generalize World.alloc _ _ = w8 at X_0 h8 Y_0 ⊢
        have z8 := h8.size
        refine (toBookS_any _ xs1 _ (SL1.out.below (bnext (bnext (bnext (bnext (bnext (bnext (bnext h1 h2) h3) h4) h5) h6) h7) h8)) hn1).mono ?_
        rintro e w9 ⟨g4, rfl, hg4, hr4, h9⟩
        have z9 := h9.size
        have R4 := Lib.hid (Row.slice hr4)
        have Q4 := Lib.hid (RowB.of hr4)
        have gl4 := RowK.lt hr4
        clear hr4
        go_wp2_with fail
        refine (toInt64S_any _ zs2 _ (SL2.out.below (bnext (bnext (bnext (bnext (bnext (bnext (bnext (bnext h1 h2) h3) h4) h5) h6) h7) h8) h9)) hn2).mono ?_
        rintro e w10 ⟨g5, rfl, hg5, hr5, h10⟩
        have z10 := h10.size
        have R5 := Lib.hid (IRow.slice hr5)
        have Q5 := Lib.hid (IRow.owns hr5 hg5 ML2.out)
        have gl5 := IRowK.lt hr5
        clear hr5
        obtain ⟨p0_0, p0_1, p0_2⟩ := X_0.out.below (bnext h9 h10) Y_0.out
        go_wp2_with fail
        refine (freeOn_any c0 _ _ _ _ xs1 zs2 WF0.out WF1.out _ (R3.out.below (bnext (bnext h8 h9) h10)) ML0.out (R4.out.below h10) (Nat.le_refl _) ML1.out R5.out ML2.out).mono ?_
        rintro e w11 ⟨u1, rfl, ho1, h11⟩
        have z11 := h11.size
        clear p0_0 p0_1 p0_2
        have O1 := Lib.hid ho1
        have l1 := fun k hk => O1.out.lt k hk
        have L1 := Lib.hid l1
        clear ho1 l1
        generalize hrc : layCode c0 xs1 zs2 = rc
        have HRC := Lib.hid hrc
        clear hrc
        go_wp2_with fail
        refine (eqInt64S_same' _ _ (frR c0 xs1 zs2) _ (ownInts O1.out) (ownInts (ownBelow O0.out (bnext (bnext (bnext (bnext h7 h8) h9) h10) h11))) LM.out).mono ?_
        rintro e w12 ⟨rfl, h12⟩
        have z12 := h12.size
        have b0_0 : Below w12.heap.size w12 w12.drew := (Below.refl _ _).drew
        have HK0 := Lib.hid (show ∀ W1, Below w12.heap.size w12 W1 → (fun W1 => Below w12.heap.size w12 W1 ∧ W1.cell? ⟨w7.heap.size, 0, none⟩ = some (.int .i16 c0.wi) ∧ W1.cell? ⟨w7.heap.size, 1, none⟩ = some (.int .i32 c0.lo) ∧ W1.cell? ⟨w7.heap.size, 2, none⟩ = some (.slice (some ⟨g3, 0, none⟩) c0.hs.length c0.hs.length) ∧ W1.cell? ⟨w.heap.size, 0, none⟩ = some (.int .i16 c0.wi) ∧ W1.cell? ⟨w.heap.size, 1, none⟩ = some (.int .i32 c0.lo) ∧ W1.cell? ⟨w.heap.size, 2, none⟩ = some (.slice A0 c0.hs.length k0)) W1 from fun W1 hB => ⟨hB, (X_0.out.below (bnext (bnext (bnext (bnext h9 h10) h11) h12) hB) Y_0.out).1, (X_0.out.below (bnext (bnext (bnext (bnext h9 h10) h11) h12) hB) Y_0.out).2.1, (X_0.out.below (bnext (bnext (bnext (bnext h9 h10) h11) h12) hB) Y_0.out).2.2, (AB0.out.below (bnext (bnext (bnext (bnext (bnext (bnext (bnext (bnext (bnext (bnext (bnext h2 h3) h4) h5) h6) h7) h8) h9) h10) h11) h12) hB) ZB0.out).1, (AB0.out.below (bnext (bnext (bnext (bnext (bnext (bnext (bnext (bnext (bnext (bnext (bnext h2 h3) h4) h5) h6) h7) h8) h9) h10) h11) h12) hB) ZB0.out).2.1, (AB0.out.below (bnext (bnext (bnext (bnext (bnext (bnext (bnext (bnext (bnext (bnext (bnext h2 h3) h4) h5) h6) h7) h8) h9) h10) h11) h12) hB) ZB0.out).2.2⟩)
        have GG0 := Lib.hid (bnext (bnext (bnext (bnext (bnext (bnext (bnext (bnext (bnext (bnext (bnext h1 h2) h3) h4) h5) h6) h7) h8) h9) h10) h11) h12)
        have RR0 := Lib.hid (R3.out.below (bnext (bnext (bnext (bnext h8 h9) h10) h11) h12))
        go_wp2
        go_region_held3 (fun W1 => Below w12.heap.size w12 W1 ∧ W1.cell? ⟨w7.heap.size, 0, none⟩ = some (.int .i16 c0.wi) ∧ W1.cell? ⟨w7.heap.size, 1, none⟩ = some (.int .i32 c0.lo) ∧ W1.cell? ⟨w7.heap.size, 2, none⟩ = some (.slice (some ⟨g3, 0, none⟩) c0.hs.length c0.hs.length) ∧ W1.cell? ⟨w.heap.size, 0, none⟩ = some (.int .i16 c0.wi) ∧ W1.cell? ⟨w.heap.size, 1, none⟩ = some (.int .i32 c0.lo) ∧ W1.cell? ⟨w.heap.size, 2, none⟩ = some (.slice A0 c0.hs.length k0)) (first | exact HK0.out _ b0_0 | (refine HK0.out _ (bnext ?_ hq); exact And.left (by assumption))) (first
          | (go_at_call 17; refine (toCase_any c0 _ _ (SL0.out.below (bnext GG0.out (And.left (by assumption)))) hn0).mono ?_; rintro e w' ⟨gz, rfl, hg, hr, hq⟩; have HR := Lib.hid (IRow.slice hr); clear hr hg)
          | (go_at_call 19; refine (eqCase_same c0 _ _ _ (RR0.out.below (And.left (by assumption))) HR.out ML0.out).mono ?_; rintro e w13 ⟨rfl, hq⟩))
        all_goals
          have h13 : Below w12.heap.size w12 w13 := And.left (by assumption)
          have z13 := h13.size
          rename_i hheld
          clear hheld hq HK0 b0_0 GG0 RR0 HR
          go_wp2_with fail
          refine (toBookS_any _ xs1 _ (SL1.out.below (bnext (bnext (bnext (bnext (bnext (bnext (bnext (bnext (bnext (bnext (bnext (bnext h1 h2) h3) h4) h5) h6) h7) h8) h9) h10) h11) h12) h13)) hn1).mono ?_
          rintro e w14 ⟨g6, rfl, hg6, hr6, h14⟩
          have z14 := h14.size
          have R6 := Lib.hid (Row.slice hr6)
          clear hr6 hg6
          go_wp2_with fail
          refine (eqBookS_same _ _ xs1 _ (R4.out.below (bnext (bnext (bnext (bnext h10 h11) h12) h13) h14)) R6.out ML1.out).mono ?_
          rintro e w15 ⟨rfl, h15⟩
          have z15 := h15.size
          go_wp2_with fail
          refine (toInt64S_any _ zs2 _ (SL2.out.below (bnext (bnext (bnext (bnext (bnext (bnext (bnext (bnext (bnext (bnext (bnext (bnext (bnext (bnext h1 h2) h3) h4) h5) h6) h7) h8) h9) h10) h11) h12) h13) h14) h15)) hn2).mono ?_
          rintro e w16 ⟨g7, rfl, hg7, hr7, h16⟩
          have z16 := h16.size
          have R7 := Lib.hid (IRow.slice hr7)
          clear hr7 hg7
          go_wp2_with fail
          refine (eqInt64S_same' _ _ zs2 _ (R5.out.below (bnext (bnext (bnext (bnext (bnext h11 h12) h13) h14) h15) h16)) R7.out ML2.out).mono ?_
          rintro e w17 ⟨rfl, h17⟩
          have z17 := h17.size
          obtain ⟨p0_0, p0_1, p0_2⟩ := X_0.out.below (bnext (bnext (bnext (bnext (bnext (bnext (bnext (bnext h9 h10) h11) h12) h13) h14) h15) h16) h17) Y_0.out
          have T_u0_17 := Lib.hid (ownBelow O0.out (bnext (bnext (bnext (bnext (bnext (bnext (bnext (bnext (bnext (bnext h7 h8) h9) h10) h11) h12) h13) h14) h15) h16) h17))
          have T_x0_17 := Lib.hid (Q3.out.below (bnext (bnext (bnext (bnext (bnext (bnext (bnext (bnext (bnext h8 h9) h10) h11) h12) h13) h14) h15) h16) h17) Q3.out.lt)
          have T_x1_17 := Lib.hid (Q4.out.below (bnext (bnext (bnext (bnext (bnext (bnext (bnext h10 h11) h12) h13) h14) h15) h16) h17) Q4.out.lt)
          have T_x2_17 := Lib.hid (ownBelow Q5.out (bnext (bnext (bnext (bnext (bnext (bnext h11 h12) h13) h14) h15) h16) h17))
          have T_u1_17 := Lib.hid (ownBelow O1.out (bnext (bnext (bnext (bnext (bnext h12 h13) h14) h15) h16) h17))
          have A_17 := Lib.hid (AB0.out.below (bnext (bnext (bnext (bnext (bnext (bnext (bnext (bnext (bnext (bnext (bnext (bnext (bnext (bnext (bnext h2 h3) h4) h5) h6) h7) h8) h9) h10) h11) h12) h13) h14) h15) h16) h17) ZB0.out)
          have Zb_17 := Lib.hid (Nat.lt_of_lt_of_le ZB0.out (bnext (bnext (bnext (bnext (bnext (bnext (bnext (bnext (bnext (bnext (bnext (bnext (bnext (bnext (bnext h2 h3) h4) h5) h6) h7) h8) h9) h10) h11) h12) h13) h14) h15) h16) h17).size)
          have GA17 := Lib.hid (bnext (bnext (bnext (bnext (bnext (bnext (bnext (bnext (bnext (bnext (bnext (bnext (bnext (bnext (bnext (bnext h1 h2) h3) h4) h5) h6) h7) h8) h9) h10) h11) h12) h13) h14) h15) h16) h17)
          go_wp2_with fail
          refine (markCase_any _ _ g3 c0.hs.length 1 _ T_x0_17.out hn0 (by omega) (by omega)).mono ?_
          rintro e w18 ⟨rfl, k18⟩
          replace k18 : w17.grownBy w18 (some g3) := k18
          have z18 := k18.size
          clear p0_0 p0_1 p0_2
          generalize hkk : 1 + (c0.hs.length : Int) = kk18
          have b18a : 0 ≤ kk18 := by omega
          have b18b : kk18 ≤ 9000001 := by omega
          clear hkk
          have GB18 := Lib.hid (GA17.out.grown k18 GA17.out.size (fun k hk => by first | (injection hk with hk; omega) | (simp [Value.ownBlock] at hk; omega)))
          have G_u0_18 := Lib.hid (ownOther T_u0_17.out k18 (fun k hk e => by have := L0.out k hk; first | (injection e with e; omega) | (simp [Value.ownBlock] at e; omega)))
          have G_x1_18 := Lib.hid (T_x1_17.out.kept k18 (by omega))
          have G_x2_18 := Lib.hid (ownOther T_x2_17.out k18 (fun k hk e => by simp [Value.ownBlock] at hk; first | (injection e with e; omega) | (simp [Value.ownBlock] at e; omega)))
          have G_u1_18 := Lib.hid (ownOther T_u1_17.out k18 (fun k hk e => by have := (L1.out k hk).1; first | (injection e with e; omega) | (simp [Value.ownBlock] at e; omega)))
          have A_18 := Lib.hid (A_17.out.kept k18 (by have := ZB0.out; omega) Zb_17.out)
          have Zb_18 := Lib.hid (Nat.lt_of_lt_of_le Zb_17.out z18)
          have GA18 := Lib.hid GB18.out
          go_wp2_with fail
          refine (markBooks_any g4 xs1.length kk18 _ G_x1_18.out hn1 (by omega) (by omega)).mono ?_
          rintro e w19 ⟨rfl, k19⟩
          replace k19 : w18.grownBy w19 (some g4) := k19
          have z19 := k19.size
          generalize hkk : kk18 + 8 * (xs1.length : Int) = kk19
          have b19a : 0 ≤ kk19 := by omega
          have b19b : kk19 ≤ 18000001 := by omega
          clear hkk
          have GB19 := Lib.hid (GA18.out.grown k19 GA18.out.size (fun k hk => by first | (injection hk with hk; omega) | (simp [Value.ownBlock] at hk; omega)))
          have G_u0_19 := Lib.hid (ownOther G_u0_18.out k19 (fun k hk e => by have := L0.out k hk; first | (injection e with e; omega) | (simp [Value.ownBlock] at e; omega)))
          have G_x2_19 := Lib.hid (ownOther G_x2_18.out k19 (fun k hk e => by simp [Value.ownBlock] at hk; first | (injection e with e; omega) | (simp [Value.ownBlock] at e; omega)))
          have G_u1_19 := Lib.hid (ownOther G_u1_18.out k19 (fun k hk e => by have := (L1.out k hk).1; first | (injection e with e; omega) | (simp [Value.ownBlock] at e; omega)))
          have A_19 := Lib.hid (A_18.out.kept k19 (by have := ZB0.out; omega) Zb_18.out)
          have Zb_19 := Lib.hid (Nat.lt_of_lt_of_le Zb_18.out z19)
          have GA19 := Lib.hid GB19.out
          go_wp2_with fail
          refine (markI64_any _ zs2 kk19 _ _ hn2 (by omega) (by omega) G_x2_19.out).mono ?_
          rintro e w20 ⟨rfl, -, k20⟩
          replace k20 : w19.grownBy w20 (some g5) := k20
          have z20 := k20.size
          generalize hkk : kk19 + (zs2.length : Int) = kk20
          have b20a : 0 ≤ kk20 := by omega
          have b20b : kk20 ≤ 27000001 := by omega
          clear hkk
          have GB20 := Lib.hid (GA19.out.grown k20 GA19.out.size (fun k hk => by first | (injection hk with hk; omega) | (simp [Value.ownBlock] at hk; omega)))
          have G_u0_20 := Lib.hid (ownOther G_u0_19.out k20 (fun k hk e => by have := L0.out k hk; first | (injection e with e; omega) | (simp [Value.ownBlock] at e; omega)))
          have G_u1_20 := Lib.hid (ownOther G_u1_19.out k20 (fun k hk e => by have := (L1.out k hk).1; first | (injection e with e; omega) | (simp [Value.ownBlock] at e; omega)))
          have A_20 := Lib.hid (A_19.out.kept k20 (by have := ZB0.out; omega) Zb_19.out)
          have Zb_20 := Lib.hid (Nat.lt_of_lt_of_le Zb_19.out z20)
          have kd : decide (kk20 < 0) = false := by simp; omega
          go_wp2_with fail
          refine (eqInt64S_same' _ _ (frR c0 xs1 zs2) _ (ownInts G_u1_20.out) (ownInts G_u0_20.out) LM.out).mono ?_
          rintro e w21 ⟨rfl, h21⟩
          have z21 := h21.size
          have T_u0_21 := Lib.hid (ownBelow G_u0_20.out h21)
          have T_u1_21 := Lib.hid (ownBelow G_u1_20.out h21)
          have A_21 := Lib.hid (A_20.out.below h21 Zb_20.out)
          have Zb_21 := Lib.hid (Nat.lt_of_lt_of_le Zb_20.out h21.size)
          have GA21 := Lib.hid (bnext GB20.out h21)
          go_wp2_with fail
          refine (markI64_any u1 (frR c0 xs1 zs2) 1 _ _ LR.out (by omega) (by omega) T_u1_21.out).mono ?_
          rintro e w22 ⟨rfl, hm, k22⟩
          have z22 := k22.size
          have MM := Lib.hid hm
          clear hm
          have GB22 := Lib.hid (GA21.out.grown k22 GA21.out.size (fun k hk => by have := (L1.out k hk).1; omega))
          have G_u0_22 := Lib.hid (ownOther T_u0_21.out k22 (fun k hk e => by have := L0.out k hk; have := (L1.out k e.symm).1; omega))
          have A_22 := Lib.hid (A_21.out.keptO k22 (fun e => by have := (L1.out _ e.symm).1; omega) Zb_21.out)
          have Zb_22 := Lib.hid (Nat.lt_of_lt_of_le Zb_21.out z22)
          go_wp2_with fail
          refine (heldI64_any u1 (frR c0 xs1 zs2) 1 _ LR.out (by omega) (by omega) (ownInts MM.out)).mono ?_
          rintro e w23 ⟨rfl, h23⟩
          have z23 := h23.size
          obtain ⟨p0_0, p0_1, p0_2⟩ := A_22.out.below h23 Zb_22.out
          go_wp2_with fail
          refine (toCase_any c0 _ _ (SL0.out.below (bnext GB22.out h23)) hn0).mono ?_
          rintro e w24 ⟨g8, rfl, hg8, hr8, h24⟩
          have z24 := h24.size
          clear p0_0 p0_1 p0_2
          have R8 := Lib.hid (IRow.slice hr8)
          clear hr8 hg8
          go_wp2_with fail
          refine (toBookS_any _ xs1 _ (SL1.out.below (bnext (bnext GB22.out h23) h24)) hn1).mono ?_
          rintro e w25 ⟨g9, rfl, hg9, hr9, h25⟩
          have z25 := h25.size
          have R9 := Lib.hid (Row.slice hr9)
          clear hr9 hg9
          go_wp2_with fail
          refine (toInt64S_any _ zs2 _ (SL2.out.below (bnext (bnext (bnext GB22.out h23) h24) h25)) hn2).mono ?_
          rintro e w26 ⟨g10, rfl, hg10, hr10, h26⟩
          have z26 := h26.size
          have R10 := Lib.hid (IRow.slice hr10)
          clear hr10 hg10
          go_wp2_with fail
          refine (freeOn_any c0 _ _ _ _ xs1 zs2 WF0.out WF1.out _ (R8.out.below (bnext h25 h26)) ML0.out (R9.out.below h26) (Nat.le_refl _) ML1.out R10.out ML2.out).mono ?_
          rintro e w27 ⟨u2, rfl, ho2, h27⟩
          have z27 := h27.size
          rw [HRC.out]
          have O2 := Lib.hid ho2
          clear ho2
          go_wp2_with fail
          refine (eqInt64S_same' _ _ (frR c0 xs1 zs2) _ (ownInts O2.out) (ownInts (ownBelow G_u0_22.out (bnext (bnext (bnext (bnext h23 h24) h25) h26) h27))) LM.out).mono ?_
          rintro e w28 ⟨rfl, h28⟩
          have z28 := h28.size
          go_wp2_with fail
          refine (heldI64_any u1 (frR c0 xs1 zs2) 1 _ LR.out (by omega) (by omega) (ownInts (ownBelow MM.out (bnext (bnext (bnext (bnext (bnext h23 h24) h25) h26) h27) h28)))).mono ?_
          rintro e w29 ⟨rfl, h29⟩
          have z29 := h29.size
          go_wp2
          go_ret
          exact ⟨rfl, (bnext (bnext (bnext (bnext (bnext (bnext (bnext GB22.out h23) h24) h25) h26) h27) h28) h29)⟩
      · have e1 : (1048576 - (c0.hs.length : Int) - (xs1.length : Int) < 0) := by omega
        go_enter Try.func9, Try.ntmps9
        go_wp2_with fail
        generalize World.alloc _ _ = w1 at AB0 ZB0 h1 ⊢
        have z1 := h1.size
        refine (szCase_left c0 _ _ _ _ mx0 (by omega) (by omega)).mono ?_
        rintro e w2 ⟨rfl, h2⟩
        have z2 := h2.size
        rw [if_pos (by omega)]
        go_wp2_with fail
        refine (szBookS_left _ _ _ _ _ mx1 (by omega) (by omega)).mono ?_
        rintro e w' ⟨rfl, rfl⟩
        rw [if_neg (by omega)]
        go_wp2
        go_ret
        exact ⟨rfl, (bnext h1 h2)⟩
    · have e0 : (1048576 - (c0.hs.length : Int) < 0) := by omega
      go_enter Try.func9, Try.ntmps9
      go_wp2_with fail
      generalize World.alloc _ _ = w1 at AB0 ZB0 h1 ⊢
      have z1 := h1.size
      refine (szCase_left c0 _ _ _ _ mx0 (by omega) (by omega)).mono ?_
      rintro e w2 ⟨rfl, h2⟩
      have z2 := h2.size
      rw [if_neg (by omega)]
      go_wp2
      go_ret
      exact ⟨rfl, (bnext h1 h2)⟩
  · have e2 : (1048576 : Int) < (zs2.length : Int) := by omega
    go_enter Try.func9, Try.ntmps9
    go_wp2
    go_ret
    exact ⟨rfl, by go_grown⟩

end Go.Proofs.Ytdkdchhkfachmaa
