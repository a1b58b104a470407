/- The law of SameCase, walked. No condition. -/
import Derived.Test.YtdkdchhkfachmaaSameCase
import Derived.Deep.RegionHeld3
namespace Go.Proofs.Ytdkdchhkfachmaa
set_option linter.unusedSimpArgs false
set_option linter.unusedVariables false
set_option maxRecDepth 100000
open Go.RowKit

theorem caseIn2 (w : World) (c d : Cs) (hv hw : Value) (t s : TypeId) :
    CaseIn ((w.alloc (.cells #[.int .i16 c.wi, .int .i32 c.lo, hv] t)).alloc (.cells #[.int .i16 d.wi, .int .i32 d.lo, hw] s)) w.heap.size c hv ∧
    CaseIn ((w.alloc (.cells #[.int .i16 c.wi, .int .i32 c.lo, hv] t)).alloc (.cells #[.int .i16 d.wi, .int .i32 d.lo, hw] s)) (w.heap.size + 1) d hw := by
  obtain ⟨h1, h2⟩ := alloc2 w (.cells #[.int .i16 c.wi, .int .i32 c.lo, hv] t) (.cells #[.int .i16 d.wi, .int .i32 d.lo, hw] s)
  exact ⟨⟨cell_of_row _ _ 0 _ _ _ h1, cell_of_row _ _ 1 _ _ _ h1, cell_of_row _ _ 2 _ _ _ h1⟩, ⟨cell_of_row _ _ 0 _ _ _ h2, cell_of_row _ _ 1 _ _ _ h2, cell_of_row _ _ 2 _ _ _ h2⟩⟩

set_option maxHeartbeats 8000000 in
theorem walkSameCase (c0 : Cs) (hv0 : Value) (wf0 : c0.Wf) (c1 : Cs) (hv1 : Value) (wf1 : c1.Wf) (w : World) (sl0 : IntsOf .i16 w hv0 c0.hs) (ml0 : c0.hs.length ≤ maxLen) (sl1 : IntsOf .i16 w hv1 c1.hs) (ml1 : c1.hs.length ≤ maxLen) :
    Calls Try.prog 4 #[.agg #[.int .i16 c0.wi, .int .i32 c0.lo, hv0], .agg #[.int .i16 c1.wi, .int .i32 c1.lo, hv1]] w fun e w' => e = .returned (.bool true) ∧ Below w.heap.size w w' := by
  have mx0 : c0.hs.length ≤ 9223372036854775807 := by unfold maxLen at ml0; omega
  have mx1 : c1.hs.length ≤ 9223372036854775807 := by unfold maxLen at ml1; omega
  have SL0 := Lib.hid sl0
  have SL1 := Lib.hid sl1
  have ML0 := Lib.hid ml0
  have ML1 := Lib.hid ml1
  obtain ⟨A0, k0, rfl, -⟩ := sl0
  obtain ⟨A1, k1, rfl, -⟩ := sl1
  clear wf0 wf1 ml0 ml1
  have CI := caseIn2 w c0 c1 (.slice A0 c0.hs.length k0) (.slice A1 c1.hs.length k1) 25 25
  have X0 := Lib.hid CI.1
  have X1 := Lib.hid CI.2
  clear CI
  have Z0 := Lib.hid (show w.heap.size < (World.alloc (World.alloc w (.cells #[.int .i16 c0.wi, .int .i32 c0.lo, .slice A0 c0.hs.length k0] 25)) (.cells #[.int .i16 c1.wi, .int .i32 c1.lo, .slice A1 c1.hs.length k1] 25)).heap.size by simp; omega)
  have Z1 := Lib.hid (show w.heap.size + 1 < (World.alloc (World.alloc w (.cells #[.int .i16 c0.wi, .int .i32 c0.lo, .slice A0 c0.hs.length k0] 25)) (.cells #[.int .i16 c1.wi, .int .i32 c1.lo, .slice A1 c1.hs.length k1] 25)).heap.size by simp)
  have h1 : Below w.heap.size w (World.alloc (World.alloc w (.cells #[.int .i16 c0.wi, .int .i32 c0.lo, .slice A0 c0.hs.length k0] 25)) (.cells #[.int .i16 c1.wi, .int .i32 c1.lo, .slice A1 c1.hs.length k1] 25)) := by go_grown
  by_cases hn0 : (c0.hs.length : Int) ≤ 1048576
  · have e0 : ¬ (1048576 - (c0.hs.length : Int) < 0) := by omega
    by_cases hn1 : (c1.hs.length : Int) ≤ 1048576 - (c0.hs.length : Int)
    · have e1 : ¬ (1048576 - (c0.hs.length : Int) - (c1.hs.length : Int) < 0) := by omega
      go_enter Try.func4, Try.ntmps4
      go_wp2_with fail
      generalize World.alloc _ _ = w1 at X0 X1 Z0 Z1 h1 ⊢
      refine (szCase_left c0 _ _ _ _ mx0 (by omega) (by omega)).mono ?_
      rintro e w2 ⟨rfl, h2⟩
      rw [if_pos (by omega)]
      obtain ⟨q0, q1, q2⟩ := X1.out.below h2 Z1.out
      go_wp2_with fail
      refine (szCase_left c1 _ _ _ _ mx1 (by omega) (by omega)).mono ?_
      rintro e w3 ⟨rfl, h3⟩
      clear q0 q1 q2
      rw [if_pos (by omega)]
      replace hn0 : c0.hs.length ≤ 1048576 := by omega
      replace hn1 : c1.hs.length ≤ 1048576 := by omega
      have g3 := Lib.hid (bnext (bnext h1 h2) h3)
      have Y0 := Lib.hid (X0.out.below (bnext h2 h3) Z0.out)
      have Y1 := Lib.hid (X1.out.below (bnext h2 h3) Z1.out)
      have V0 := Lib.hid (Nat.lt_of_lt_of_le Z0.out (bnext h2 h3).size)
      have V1 := Lib.hid (Nat.lt_of_lt_of_le Z1.out (bnext h2 h3).size)
      clear h1 h2 h3 X0 X1 Z0 Z1
      have b3 : Below w3.heap.size w3 w3.drew := (Below.refl _ _).drew
      have K3 := Lib.hid (show ∀ W1, Below w3.heap.size w3 W1 → (fun W1 => Below w3.heap.size w3 W1 ∧ W1.cell? ⟨w.heap.size, 0, none⟩ = some (.int .i16 c0.wi) ∧ W1.cell? ⟨w.heap.size, 1, none⟩ = some (.int .i32 c0.lo) ∧ W1.cell? ⟨w.heap.size, 2, none⟩ = some (.slice A0 c0.hs.length k0) ∧ W1.cell? ⟨w.heap.size + 1, 0, none⟩ = some (.int .i16 c1.wi) ∧ W1.cell? ⟨w.heap.size + 1, 1, none⟩ = some (.int .i32 c1.lo) ∧ W1.cell? ⟨w.heap.size + 1, 2, none⟩ = some (.slice A1 c1.hs.length k1)) W1 from fun W1 hB => ⟨hB, (Y0.out.below hB V0.out).1, (Y0.out.below hB V0.out).2.1, (Y0.out.below hB V0.out).2.2, (Y1.out.below hB V1.out).1, (Y1.out.below hB V1.out).2.1, (Y1.out.below hB V1.out).2.2⟩)
      go_wp2
      go_region_held3 (fun W1 => Below w3.heap.size w3 W1 ∧ W1.cell? ⟨w.heap.size, 0, none⟩ = some (.int .i16 c0.wi) ∧ W1.cell? ⟨w.heap.size, 1, none⟩ = some (.int .i32 c0.lo) ∧ W1.cell? ⟨w.heap.size, 2, none⟩ = some (.slice A0 c0.hs.length k0) ∧ W1.cell? ⟨w.heap.size + 1, 0, none⟩ = some (.int .i16 c1.wi) ∧ W1.cell? ⟨w.heap.size + 1, 1, none⟩ = some (.int .i32 c1.lo) ∧ W1.cell? ⟨w.heap.size + 1, 2, none⟩ = some (.slice A1 c1.hs.length k1)) (first | exact K3.out _ b3 | (refine K3.out _ (bnext ?_ hq); exact And.left (by assumption))) (first
        | (go_at_call 17; with_reducible refine (toCase_any c0 _ _ (SL0.out.below (bnext g3.out (And.left (by assumption)))) hn0).mono ?_; rintro e wa ⟨ga, rfl, hg, hr, hq⟩; have HR0 := Lib.hid (fun W2 (hB : Below wa.heap.size wa W2) => IntsOf.below (IRow.slice hr) hB); clear hr hg)
        | (go_at_call 17; with_reducible refine (toCase_any c1 _ _ (SL1.out.below (bnext g3.out (And.left (by assumption)))) hn1).mono ?_; rintro e wb ⟨gb, rfl, hg, hr, hq⟩; have HR1 := Lib.hid (fun W2 (hB : Below wb.heap.size wb W2) => IntsOf.below (IRow.slice hr) hB); clear hr hg)
        | (go_at_call 20; refine (specSameCase_any c0 c1 _ _ _ (by first | exact HR0.out _ (Below.refl _ _) | exact HR0.out _ hq) (by first | exact HR1.out _ (Below.refl _ _) | exact HR1.out _ hq) ML0.out ML1.out).mono ?_; rintro e w4 ⟨rfl, hq⟩))
      all_goals
        have g34 : Below w3.heap.size w3 w4 := And.left (by assumption)
        have g4 := Lib.hid (bnext g3.out g34)
        have T0 := Lib.hid (Y0.out.below g34 V0.out)
        have T1 := Lib.hid (Y1.out.below g34 V1.out)
        have U0 := Lib.hid (Nat.lt_of_lt_of_le V0.out g34.size)
        have U1 := Lib.hid (Nat.lt_of_lt_of_le V1.out g34.size)
        rename_i hheld
        clear hheld hq HR0 HR1 K3 b3 Y0 Y1 V0 V1 g34 g3
        obtain ⟨p0, p1, p2⟩ := T0.out
        go_wp2_with fail
        refine (toCase_any c0 _ _ (SL0.out.below g4.out) hn0).mono ?_
        rintro e w5 ⟨gx, rfl, hgx, hrx, h5⟩
        have R0 := Lib.hid (IRow.slice hrx)
        clear hrx hgx p0 p1 p2
        have N6 := Lib.hid (CaseIn.new w5 c0 (.slice (some ⟨gx, 0, none⟩) c0.hs.length c0.hs.length) 28)
        have h6 := (Below.refl w5.heap.size w5).alloc (Nat.le_refl _) (.cells #[.int .i16 c0.wi, .int .i32 c0.lo, .slice (some ⟨gx, 0, none⟩) c0.hs.length c0.hs.length] 28)
        have y6 := Lib.hid (show w5.heap.size < (World.alloc w5 (.cells #[.int .i16 c0.wi, .int .i32 c0.lo, .slice (some ⟨gx, 0, none⟩) c0.hs.length c0.hs.length] 28)).heap.size by simp)
        obtain ⟨q0, q1, q2⟩ := T1.out.below h5 U1.out
        have z5 := Nat.lt_of_lt_of_le U1.out h5.size
        go_wp2_with fail
        generalize World.alloc _ _ = w6 at N6 h6 y6 ⊢
        refine (toCase_any c1 _ _ (SL1.out.below (bnext (bnext g4.out h5) h6)) hn1).mono ?_
        rintro e w7 ⟨gy, rfl, hgy, hry, h7⟩
        have R1 := Lib.hid (IRow.slice hry)
        clear hry hgy q0 q1 q2 z5
        have N8 := Lib.hid (CaseIn.new w7 c1 (.slice (some ⟨gy, 0, none⟩) c1.hs.length c1.hs.length) 28)
        have h8 := (Below.refl w7.heap.size w7).alloc (Nat.le_refl _) (.cells #[.int .i16 c1.wi, .int .i32 c1.lo, .slice (some ⟨gy, 0, none⟩) c1.hs.length c1.hs.length] 28)
        have y8 := Lib.hid (show w7.heap.size < (World.alloc w7 (.cells #[.int .i16 c1.wi, .int .i32 c1.lo, .slice (some ⟨gy, 0, none⟩) c1.hs.length c1.hs.length] 28)).heap.size by simp)
        obtain ⟨p0, p1, p2⟩ := N6.out.below h7 y6.out
        have z7 := Nat.lt_of_lt_of_le y6.out h7.size
        go_wp2_with fail
        generalize World.alloc _ _ = w8 at N8 h8 y8 ⊢
        clear p0 p1 p2 z7
        have P0 := Lib.hid (N6.out.below (bnext h7 h8) y6.out)
        have Q0 := Lib.hid (Nat.lt_of_lt_of_le y6.out (bnext h7 h8).size)
        have D0 := Lib.hid (T0.out.below (bnext (bnext (bnext h5 h6) h7) h8) U0.out)
        have D1 := Lib.hid (T1.out.below (bnext (bnext (bnext h5 h6) h7) h8) U1.out)
        have d0 := Lib.hid (Nat.lt_of_lt_of_le U0.out (bnext (bnext (bnext h5 h6) h7) h8).size)
        have d1 := Lib.hid (Nat.lt_of_lt_of_le U1.out (bnext (bnext (bnext h5 h6) h7) h8).size)
        have RR0 := Lib.hid (R0.out.below (bnext (bnext h6 h7) h8))
        have RR1 := Lib.hid (R1.out.below h8)
        have g8 := Lib.hid (bnext (bnext (bnext (bnext g4.out h5) h6) h7) h8)
        clear h5 h6 h7 h8 T0 T1 U0 U1 N6 y6 R0 R1 g4
        refine (sameCase_any c0 c1 _ _ _ RR0.out RR1.out ML0.out ML1.out).mono ?_
        rintro e w9 ⟨rfl, h9⟩
        generalize sameC c0 c1 = r
        have b9 : Below w9.heap.size w9 w9.drew := (Below.refl _ _).drew
        have g9 := Lib.hid (bnext g8.out h9)
        have EA := Lib.hid (P0.out.below h9 Q0.out)
        have EB := Lib.hid (N8.out.below h9 y8.out)
        have FA := Lib.hid (D0.out.below h9 d0.out)
        have FB := Lib.hid (D1.out.below h9 d1.out)
        have ea := Lib.hid (Nat.lt_of_lt_of_le Q0.out h9.size)
        have eb := Lib.hid (Nat.lt_of_lt_of_le y8.out h9.size)
        have fa := Lib.hid (Nat.lt_of_lt_of_le d0.out h9.size)
        have fb := Lib.hid (Nat.lt_of_lt_of_le d1.out h9.size)
        have S0 := Lib.hid (RR0.out.below h9)
        have S1 := Lib.hid (RR1.out.below h9)
        have KA := Lib.hid (show ∀ W1, Below w9.heap.size w9 W1 → (fun W1 => Below w9.heap.size w9 W1 ∧ W1.cell? ⟨w5.heap.size, 0, none⟩ = some (.int .i16 c0.wi) ∧ W1.cell? ⟨w5.heap.size, 1, none⟩ = some (.int .i32 c0.lo) ∧ W1.cell? ⟨w5.heap.size, 2, none⟩ = some (.slice (some ⟨gx, 0, none⟩) c0.hs.length c0.hs.length) ∧ W1.cell? ⟨w.heap.size, 0, none⟩ = some (.int .i16 c0.wi) ∧ W1.cell? ⟨w.heap.size, 1, none⟩ = some (.int .i32 c0.lo) ∧ W1.cell? ⟨w.heap.size, 2, none⟩ = some (.slice A0 c0.hs.length k0)) W1 from fun W1 hB => ⟨hB, (EA.out.below hB ea.out).1, (EA.out.below hB ea.out).2.1, (EA.out.below hB ea.out).2.2, (FA.out.below hB fa.out).1, (FA.out.below hB fa.out).2.1, (FA.out.below hB fa.out).2.2⟩)
        clear P0 N8 D0 D1 Q0 y8 d0 d1 RR0 RR1 g8
        go_wp2
        go_region_held3 (fun W1 => Below w9.heap.size w9 W1 ∧ W1.cell? ⟨w5.heap.size, 0, none⟩ = some (.int .i16 c0.wi) ∧ W1.cell? ⟨w5.heap.size, 1, none⟩ = some (.int .i32 c0.lo) ∧ W1.cell? ⟨w5.heap.size, 2, none⟩ = some (.slice (some ⟨gx, 0, none⟩) c0.hs.length c0.hs.length) ∧ W1.cell? ⟨w.heap.size, 0, none⟩ = some (.int .i16 c0.wi) ∧ W1.cell? ⟨w.heap.size, 1, none⟩ = some (.int .i32 c0.lo) ∧ W1.cell? ⟨w.heap.size, 2, none⟩ = some (.slice A0 c0.hs.length k0)) (first | exact KA.out _ b9 | (refine KA.out _ (bnext ?_ hq); exact And.left (by assumption))) (first
          | (go_at_call 17; refine (toCase_any c0 _ _ (SL0.out.below (bnext g9.out (And.left (by assumption)))) hn0).mono ?_; rintro e w' ⟨gz, rfl, hg, hr, hq⟩; have HR := Lib.hid (IRow.slice hr); clear hr hg)
          | (go_at_call 19; refine (eqCase_same c0 _ _ _ (S0.out.below (And.left (by assumption))) HR.out ML0.out).mono ?_; rintro e w10 ⟨rfl, hq⟩))
        all_goals
          have h10 : Below w9.heap.size w9 w10 := And.left (by assumption)
          rename_i hheld
          clear hheld hq HR KA b9
          have b10 : Below w10.heap.size w10 w10.drew := (Below.refl _ _).drew
          have g10 := Lib.hid (bnext g9.out h10)
          have KB := Lib.hid (show ∀ W1, Below w10.heap.size w10 W1 → (fun W1 => Below w10.heap.size w10 W1 ∧ W1.cell? ⟨w7.heap.size, 0, none⟩ = some (.int .i16 c1.wi) ∧ W1.cell? ⟨w7.heap.size, 1, none⟩ = some (.int .i32 c1.lo) ∧ W1.cell? ⟨w7.heap.size, 2, none⟩ = some (.slice (some ⟨gy, 0, none⟩) c1.hs.length c1.hs.length) ∧ W1.cell? ⟨w.heap.size + 1, 0, none⟩ = some (.int .i16 c1.wi) ∧ W1.cell? ⟨w.heap.size + 1, 1, none⟩ = some (.int .i32 c1.lo) ∧ W1.cell? ⟨w.heap.size + 1, 2, none⟩ = some (.slice A1 c1.hs.length k1)) W1 from fun W1 hB => ⟨hB, (EB.out.below (bnext h10 hB) eb.out).1, (EB.out.below (bnext h10 hB) eb.out).2.1, (EB.out.below (bnext h10 hB) eb.out).2.2, (FB.out.below (bnext h10 hB) fb.out).1, (FB.out.below (bnext h10 hB) fb.out).2.1, (FB.out.below (bnext h10 hB) fb.out).2.2⟩)
          go_wp2
          go_region_held3 (fun W1 => Below w10.heap.size w10 W1 ∧ W1.cell? ⟨w7.heap.size, 0, none⟩ = some (.int .i16 c1.wi) ∧ W1.cell? ⟨w7.heap.size, 1, none⟩ = some (.int .i32 c1.lo) ∧ W1.cell? ⟨w7.heap.size, 2, none⟩ = some (.slice (some ⟨gy, 0, none⟩) c1.hs.length c1.hs.length) ∧ W1.cell? ⟨w.heap.size + 1, 0, none⟩ = some (.int .i16 c1.wi) ∧ W1.cell? ⟨w.heap.size + 1, 1, none⟩ = some (.int .i32 c1.lo) ∧ W1.cell? ⟨w.heap.size + 1, 2, none⟩ = some (.slice A1 c1.hs.length k1)) (first | exact KB.out _ b10 | (refine KB.out _ (bnext ?_ hq); exact And.left (by assumption))) (first
            | (go_at_call 17; refine (toCase_any c1 _ _ (SL1.out.below (bnext g10.out (And.left (by assumption)))) hn1).mono ?_; rintro e w' ⟨gz, rfl, hg, hr, hq⟩; have HR := Lib.hid (IRow.slice hr); clear hr hg)
            | (go_at_call 19; refine (eqCase_same c1 _ _ _ ((S1.out.below h10).below (And.left (by assumption))) HR.out ML1.out).mono ?_; rintro e w11 ⟨rfl, hq⟩))
          all_goals
            have h11 : Below w10.heap.size w10 w11 := And.left (by assumption)
            go_wp2
            go_ret
            exact ⟨rfl, bnext g10.out h11⟩
    · have e1 : (1048576 - (c0.hs.length : Int) - (c1.hs.length : Int) < 0) := by omega
      go_enter Try.func4, Try.ntmps4
      go_wp2_with fail
      generalize World.alloc _ _ = w1 at X0 X1 Z0 Z1 h1 ⊢
      refine (szCase_left c0 _ _ _ _ mx0 (by omega) (by omega)).mono ?_
      rintro e w2 ⟨rfl, h2⟩
      rw [if_pos (by omega)]
      obtain ⟨q0, q1, q2⟩ := X1.out.below h2 Z1.out
      go_wp2_with fail
      refine (szCase_left c1 _ _ _ _ mx1 (by omega) (by omega)).mono ?_
      rintro e w3 ⟨rfl, h3⟩
      clear q0 q1 q2
      rw [if_neg (by omega)]
      go_wp2
      go_ret
      exact ⟨rfl, bnext (bnext h1 h2) h3⟩
  · have e0 : (1048576 - (c0.hs.length : Int) < 0) := by omega
    go_enter Try.func4, Try.ntmps4
    go_wp2_with fail
    generalize World.alloc _ _ = w1 at X0 X1 Z0 Z1 h1 ⊢
    refine (szCase_left c0 _ _ _ _ mx0 (by omega) (by omega)).mono ?_
    rintro e w2 ⟨rfl, h2⟩
    rw [if_neg (by omega)]
    go_wp2
    go_ret
    exact ⟨rfl, bnext h1 h2⟩

end Go.Proofs.Ytdkdchhkfachmaa
