/- The law of MoveAll, walked. Condition: lists no longer than the law tests, whose numbers lie within their kinds. -/
import Derived.Test.YtblgoflkcomncaaMb7
import Derived.Test.YtblgoflkcomncaaMark
namespace Go.Proofs.Ytblgoflkcomncaa
set_option linter.unusedSimpArgs false
set_option linter.unusedVariables false
set_option maxRecDepth 100000
open Go.RowKit

set_option maxHeartbeats 8000000 in
theorem walkMoveAll (v : Value) (xs : List Bk) (wf : ∀ b ∈ xs, b.Wf) (v1 : Value) (ms : List Mv) (wm : ∀ m ∈ ms, m.Wf) (w : World) (sl : SliceOf w v xs) (ml : xs.length ≤ maxLen) (sm : MovesOf w v1 ms) (mm : ms.length ≤ maxLen) :
    Calls Try.prog 7 #[v, v1] w fun e w' => e = .returned (.bool true) ∧ Below w.heap.size w w' := by
  have mx : xs.length ≤ 9223372036854775807 := by unfold maxLen at ml; omega
  have mx1 : ms.length ≤ 9223372036854775807 := by unfold maxLen at mm; omega
  have SL := Lib.hid sl
  have SM := Lib.hid sm
  have WF := Lib.hid wf
  have WM := Lib.hid wm
  have LRL := Lib.hid (mvR_length xs ms)
  obtain ⟨A, c, rfl, -⟩ := sl
  obtain ⟨A1, c1, rfl, -⟩ := sm
  clear wf wm
  by_cases hn : (xs.length : Int) ≤ 1048576
  · have e0 : ¬ (1048576 - (xs.length : Int) < 0) := by omega
    by_cases hn1 : (ms.length : Int) ≤ 1048576 - (xs.length : Int)
    · have e1 : ¬ (1048576 - (xs.length : Int) - (ms.length : Int) < 0) := by omega
      have LR := Lib.hid (show (mvR xs ms).length ≤ 1048576 by have := LRL.out; omega)
      have LM := Lib.hid (show (mvR xs ms).length ≤ maxLen by have := LRL.out; omega)
      go_enter Try.func7, Try.ntmps7
      go_wp2_with fail
      refine (szBookS_left _ _ _ _ _ mx (by omega) (by omega)).mono ?_
      rintro e w' ⟨rfl, rfl⟩
      rw [if_pos (by omega)]
      go_wp2_with fail
      refine (szMoveS_left _ _ _ _ _ mx1 (by omega) (by omega)).mono ?_
      rintro e w' ⟨rfl, rfl⟩
      rw [if_pos (by omega)]
      replace hn : xs.length ≤ 1048576 := by omega
      replace hn1 : ms.length ≤ 1048576 := by omega
      go_wp2_with fail
      refine (toBookS_any _ xs _ SL.out hn).mono ?_
      rintro e w1 ⟨g0, rfl, hg0, hr0, h1⟩
      have R0 := Lib.hid hr0
      clear hr0 hg0
      go_wp2_with fail
      refine (toMoveS_any _ ms _ (SM.out.below h1) hn1).mono ?_
      rintro e w2 ⟨g1, rfl, hg1, hr1, h2⟩
      have M0 := Lib.hid hr1
      clear hr1 hg1
      go_wp2_with fail
      refine (specMoveAll_any g0 0 xs.length xs _ ms WF.out WM.out _ (R0.out.slice.below h2) M0.out.slice hn ml mm).mono ?_
      rintro e w3 ⟨u0, rfl, ho0, h3⟩
      have O0 := Lib.hid ho0
      clear ho0
      have L0 := Lib.hid O0.out.lt
      have b3 := bnext (bnext h1 h2) h3
      have z3 := b3.size
      go_wp2_with fail
      refine (toBookS_any _ xs _ (SL.out.below b3) hn).mono ?_
      rintro e w4 ⟨gx, rfl, hgx, hrx, h4⟩
      have RX := Lib.hid hrx
      have LX := Lib.hid (RowK.lt hrx)
      clear hrx
      go_wp2_with fail
      refine (toMoveS_any _ ms _ (SM.out.below (bnext b3 h4)) hn1).mono ?_
      rintro e w5 ⟨gy, rfl, hgy, hry, h5⟩
      have RY := Lib.hid hry
      have LY := Lib.hid (MRowK.lt hry)
      clear hry
      have z4 := h4.size
      have z5 := h5.size
      go_wp2_with fail
      refine (moveAll_any gx 0 xs.length xs _ ms WF.out WM.out _ (RX.out.slice.below h5) RY.out.slice hn ml mm).mono ?_
      rintro e w6 ⟨u1, rfl, ho1, h6⟩
      have O1 := Lib.hid ho1
      clear ho1
      have L1 := Lib.hid O1.out.lt
      generalize hrc : swCode xs ms = rc
      have HRC := Lib.hid hrc
      clear hrc
      have b6 := bnext (bnext (bnext b3 h4) h5) h6
      go_wp2_with fail
      refine (eqBookS_same _ _ (mvR xs ms) _ O1.out.slice (O0.out.below (bnext (bnext h4 h5) h6)).slice LM.out).mono ?_
      rintro e w7 ⟨rfl, h7⟩
      have b7 := bnext b6 h7
      go_wp2_with fail
      refine (toBookS_any _ xs _ (SL.out.below b7) hn).mono ?_
      rintro e w8 ⟨ga, rfl, hga, hra, h8⟩
      have RA := Lib.hid hra
      clear hra hga
      go_wp2_with fail
      refine (eqBookS_same _ _ xs _ (RX.out.slice.below (bnext (bnext (bnext h5 h6) h7) h8)) RA.out.slice ml).mono ?_
      rintro e w9 ⟨rfl, h9⟩
      have b9 := bnext (bnext b7 h8) h9
      go_wp2_with fail
      refine (toMoveS_any _ ms _ (SM.out.below b9) hn1).mono ?_
      rintro e w10 ⟨gb, rfl, hgb, hrb, h10⟩
      have RB := Lib.hid hrb
      clear hrb hgb
      have c9 := bnext (bnext (bnext h6 h7) h8) h9
      go_wp2_with fail
      refine (eqMoveS_same _ _ ms _ (RY.out.slice.below (bnext c9 h10)) RB.out.slice mm).mono ?_
      rintro e w11 ⟨rfl, h11⟩
      have b11 := bnext (bnext b9 h10) h11
      have c11 := bnext (bnext c9 h10) h11
      have O0a := Lib.hid (O0.out.below (bnext (bnext h4 h5) c11))
      have O1a := Lib.hid (O1.out.below (bnext (bnext (bnext (bnext h7 h8) h9) h10) h11))
      have GX := Lib.hid ((RowG.of RX.out).below (bnext h5 c11) LX.out)
      have GY := Lib.hid ((MRowG.of RY.out).below c11 LY.out)
      go_wp2_with fail
      refine (markBookS_any gx xs.length _ GX.out hn).mono ?_
      rintro e w12 ⟨rfl, k12⟩
      have g12 := b11.grown k12 b11.size (fun k hk => by injection hk with hk; omega)
      have O0b := Lib.hid (O0a.out.other k12 (fun k hk e => by injection e with e; have := (L0.out k hk).2; omega))
      have O1b := Lib.hid (O1a.out.other k12 (fun k hk e => by injection e with e; have := (L1.out k hk).1; have := LX.out; omega))
      have GY2 := Lib.hid (GY.out.kept k12 (fun e => by injection e with e; have := LX.out; omega))
      have s12 := k12.size
      go_wp2_with fail
      refine (markMoveS_any gy ms.length ms.length _ _ GY2.out hn1 (by omega) (by omega)).mono ?_
      rintro e w13 ⟨rfl, k13⟩
      have g13 := g12.grown k13 g12.size (fun k hk => by injection hk with hk; omega)
      have O0c := Lib.hid (O0b.out.other k13 (fun k hk e => by injection e with e; have := (L0.out k hk).2; omega))
      have O1c := Lib.hid (O1b.out.other k13 (fun k hk e => by injection e with e; have := (L1.out k hk).1; have := LY.out; omega))
      generalize hkk : 1 + 8 * (xs.length : Int) + 2 * (ms.length : Int) = kk
      have kd : decide (kk < 0) = false := by simp; omega
      have kd2 : ¬ (kk < 0) := by omega
      clear hkk
      go_wp2_with fail
      refine (eqBookS_same _ _ (mvR xs ms) _ O1c.out.slice O0c.out.slice LM.out).mono ?_
      rintro e w14 ⟨rfl, h14⟩
      have g14 := bnext g13 h14
      have O0d := Lib.hid (O0c.out.below h14)
      have O1d := Lib.hid (O1c.out.below h14)
      go_wp2_with fail
      refine (markRes_any u1 (mvR xs ms) _ _ O1d.out LR.out).mono ?_
      rintro e w15 ⟨rfl, hm, k15⟩
      have MM := Lib.hid hm
      clear hm
      have g15 := g14.grown k15 g14.size (fun k hk => by have := (L1.out k hk).1; omega)
      have O0e := Lib.hid (O0d.out.other k15 (fun k hk e => by have := (L0.out k hk).2; have := (L1.out k e.symm).1; omega))
      go_wp2_with fail
      refine (heldBookS_any u1 (mvR xs ms).length _ LR.out MM.out.slice).mono ?_
      rintro e w' ⟨rfl, rfl⟩
      go_wp2_with fail
      refine (toBookS_any _ xs _ (SL.out.below g15) hn).mono ?_
      rintro e w16 ⟨gp, rfl, hgp, hrp, h16⟩
      have RP := Lib.hid hrp
      clear hrp hgp
      have b16 := bnext g15 h16
      go_wp2_with fail
      refine (toMoveS_any _ ms _ (SM.out.below b16) hn1).mono ?_
      rintro e w17 ⟨gq, rfl, hgq, hrq, h17⟩
      have RQ := Lib.hid hrq
      clear hrq hgq
      go_wp2_with fail
      refine (moveAll_any gp 0 xs.length xs _ ms WF.out WM.out _ (RP.out.slice.below h17) RQ.out.slice hn ml mm).mono ?_
      rintro e w18 ⟨u2, rfl, ho2, h18⟩
      rw [HRC.out]
      have O2 := Lib.hid ho2
      clear ho2
      go_wp2_with fail
      refine (eqBookS_same _ _ (mvR xs ms) _ O2.out.slice (O0e.out.below (bnext (bnext h16 h17) h18)).slice LM.out).mono ?_
      rintro e w19 ⟨rfl, h19⟩
      go_wp2_with fail
      refine (heldBookS_any u1 (mvR xs ms).length _ LR.out (MM.out.below (bnext (bnext (bnext h16 h17) h18) h19)).slice).mono ?_
      rintro e w' ⟨rfl, rfl⟩
      go_wp2
      go_ret
      exact ⟨rfl, bnext (bnext (bnext b16 h17) h18) h19⟩
    · have e1 : (1048576 - (xs.length : Int) - (ms.length : Int) < 0) := by omega
      go_enter Try.func7, Try.ntmps7
      go_wp2_with fail
      refine (szBookS_left _ _ _ _ _ mx (by omega) (by omega)).mono ?_
      rintro e w' ⟨rfl, rfl⟩
      rw [if_pos (by omega)]
      go_wp2_with fail
      refine (szMoveS_left _ _ _ _ _ mx1 (by omega) (by omega)).mono ?_
      rintro e w' ⟨rfl, rfl⟩
      rw [if_neg (by omega)]
      go_wp2
      go_ret
      exact ⟨rfl, Below.refl _ _⟩
  · have e0 : (1048576 - (xs.length : Int) < 0) := by omega
    go_enter Try.func7, Try.ntmps7
    go_wp2_with fail
    refine (szBookS_left _ _ _ _ _ mx (by omega) (by omega)).mono ?_
    rintro e w' ⟨rfl, rfl⟩
    rw [if_neg (by omega)]
    go_wp2
    go_ret
    exact ⟨rfl, Below.refl _ _⟩

end Go.Proofs.Ytblgoflkcomncaa
