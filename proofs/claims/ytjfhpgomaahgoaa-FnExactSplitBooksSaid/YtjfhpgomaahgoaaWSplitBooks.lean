/- The law of SplitBooks, walked. Condition: lists no longer than the law tests, whose numbers lie within their kinds. -/
import Derived.Test.YtjfhpgomaahgoaaSplI
import Derived.Deep.RegionHeld3
namespace Go.Proofs.Ytjfhpgomaahgoaa
set_option linter.unusedSimpArgs false
set_option linter.unusedVariables false
set_option maxRecDepth 100000
open Go.RowKit

set_option maxHeartbeats 16000000 in
theorem walkSplitBooks (v : Value) (xs : List Bk) (wf : ∀ b ∈ xs, b.Wf) (h : Int) (_wh : (Lit.int .i64 h).wf = true) (w : World) (sl : SliceOf w v xs) (ml : xs.length ≤ maxLen) :
    Calls Try.prog 7 #[v, .int .i64 h] w fun e w' => e = .returned (.bool true) ∧ Below w.heap.size w w' := by
  have mx : xs.length ≤ 9223372036854775807 := by unfold maxLen at ml; omega
  have SL := Lib.hid sl
  have WF := Lib.hid wf
  have ML := Lib.hid ml
  obtain ⟨A, c, rfl, -⟩ := sl
  clear wf ml
  by_cases hn : (xs.length : Int) ≤ 1048576
  · have e0 : ¬ (1048576 - (xs.length : Int) < 0) := by omega
    have LA := Lib.hid (show (spA xs h).length ≤ 1048576 by have := spA_len xs h; omega)
    have LB := Lib.hid (show (spB xs h).length ≤ 1048576 by have := spB_len xs h; omega)
    have MA := Lib.hid (show (spA xs h).length ≤ maxLen by have := spA_len xs h; have := ML.out; omega)
    have MB := Lib.hid (show (spB xs h).length ≤ maxLen by have := spB_len xs h; have := ML.out; omega)
    go_enter Try.func7, Try.ntmps7
    go_wp2_with fail
    refine (szBookS_left _ _ _ _ _ mx (by omega) (by omega)).mono ?_
    rintro e w' ⟨rfl, rfl⟩
    rw [if_pos (by omega)]
    replace hn : xs.length ≤ 1048576 := by omega
    go_wp2_with fail
    refine (toBookS_any _ xs _ SL.out hn).mono ?_
    rintro e w1 ⟨g0, rfl, hg0, hr0, h1⟩
    have R0 := Lib.hid (Row.slice hr0)
    clear hr0 hg0
    go_wp2_with fail
    refine (specSplit_any _ xs WF.out h _ R0.out ML.out).mono ?_
    rintro e w2 ⟨u0, t0, rfl, ho0, hp0, -, h2⟩
    have O0 := Lib.hid ho0
    have P0 := Lib.hid hp0
    clear ho0 hp0
    have L0 := Lib.hid O0.out.lt
    have K0 := Lib.hid P0.out.lt
    have b2 := bnext h1 h2
    have z2 := b2.size
    go_wp2_with fail
    refine (toBookS_any _ xs _ (SL.out.below b2) hn).mono ?_
    rintro e w3 ⟨gx, rfl, hgx, hrx, h3⟩
    have RX := Lib.hid hrx
    have LX := Lib.hid (RowK.lt hrx)
    clear hrx
    have z3 := h3.size
    go_wp2_with fail
    refine (splitBooks_any _ xs WF.out h _ (Row.slice RX.out) ML.out).mono ?_
    rintro e w4 ⟨u1, t1, rfl, ho1, hp1, hdj, h4⟩
    have O1 := Lib.hid ho1
    have P1 := Lib.hid hp1
    have DJ := Lib.hid hdj
    clear ho1 hp1 hdj
    have L1 := Lib.hid O1.out.lt
    have K1 := Lib.hid P1.out.lt
    generalize hrc : spC xs h = rc
    have HRC := Lib.hid hrc
    clear hrc
    have b4 := bnext (bnext b2 h3) h4
    go_wp2_with fail
    refine (eqBookS_same _ _ (spA xs h) _ O1.out.slice (O0.out.below (bnext h3 h4)).slice MA.out).mono ?_
    rintro e w5 ⟨rfl, h5⟩
    go_wp2_with fail
    refine (eqBookS_same _ _ (spB xs h) _ (P1.out.below h5).slice (P0.out.below (bnext (bnext h3 h4) h5)).slice MB.out).mono ?_
    rintro e w5b ⟨rfl, h5b⟩
    have b5 := bnext (bnext b4 h5) h5b
    go_wp2_with fail
    refine (toBookS_any _ xs _ (SL.out.below b5) hn).mono ?_
    rintro e w6 ⟨ga, rfl, hga, hra, h6⟩
    have RA := Lib.hid (Row.slice hra)
    clear hra hga
    have c6 := bnext (bnext (bnext h4 h5) h5b) h6
    go_wp2_with fail
    refine (eqBookS_same _ _ xs _ ((Row.slice RX.out).below c6) RA.out ML.out).mono ?_
    rintro e w7 ⟨rfl, h7⟩
    have b7 := bnext (bnext b5 h6) h7
    have c7 := bnext c6 h7
    have d7 := bnext (bnext (bnext h5 h5b) h6) h7
    have O0a := Lib.hid (O0.out.below (bnext h3 c7))
    have P0a := Lib.hid (P0.out.below (bnext h3 c7))
    have O1a := Lib.hid (O1.out.below d7)
    have P1a := Lib.hid (P1.out.below d7)
    have GX := Lib.hid ((RowG.of RX.out).below c7 LX.out)
    go_wp2_with fail
    refine (markBookS_val gx xs.length xs.length xs.length 1 _ GX.out (Nat.le_refl _) hn (by omega) (by omega)).mono ?_
    rintro e w8 ⟨rfl, -, k8⟩
    have g8 := b7.grown k8 b7.size (fun k hk => by injection hk with hk; omega)
    have O0b := Lib.hid (O0a.out.other k8 (fun k hk e => by injection e with e; have := (L0.out k hk).2; omega))
    have P0b := Lib.hid (P0a.out.other k8 (fun k hk e => by injection e with e; have := (K0.out k hk).2; omega))
    have O1b := Lib.hid (O1a.out.other k8 (fun k hk e => by injection e with e; have := (L1.out k hk).1; have := LX.out; omega))
    have P1b := Lib.hid (P1a.out.other k8 (fun k hk e => by injection e with e; have := (K1.out k hk).1; have := LX.out; omega))
    generalize hkk : 1 + 8 * (xs.length : Int) = kk
    have kd : decide (kk < 0) = false := by simp; omega
    have kd2 : ¬ (kk < 0) := by omega
    clear hkk
    go_wp2_with fail
    refine (eqBookS_same _ _ (spA xs h) _ O1b.out.slice O0b.out.slice MA.out).mono ?_
    rintro e w9 ⟨rfl, h9⟩
    go_wp2_with fail
    refine (eqBookS_same _ _ (spB xs h) _ (P1b.out.below h9).slice (P0b.out.below h9).slice MB.out).mono ?_
    rintro e w9b ⟨rfl, h9b⟩
    have g9 := bnext (bnext g8 h9) h9b
    have c9 := bnext h9 h9b
    have O0c := Lib.hid (O0b.out.below c9)
    have P0c := Lib.hid (P0b.out.below c9)
    have O1c := Lib.hid (O1b.out.below c9)
    have P1c := Lib.hid (P1b.out.below c9)
    go_wp2_with fail
    refine (markRes_any u1 (spA xs h) _ 1 _ O1c.out LA.out (by omega) (by omega)).mono ?_
    rintro e w10 ⟨rfl, hm, k10⟩
    have MU := Lib.hid hm
    clear hm
    have g10 := g9.grown k10 g9.size (fun k hk => by have := (L1.out k hk).1; omega)
    have O0d := Lib.hid (O0c.out.other k10 (fun k hk e => by have := (L0.out k hk).2; have := (L1.out k e.symm).1; omega))
    have P0d := Lib.hid (P0c.out.other k10 (fun k hk e => by have := (K0.out k hk).2; have := (L1.out k e.symm).1; omega))
    have P1d := Lib.hid (P1c.out.other k10 (fun k hk e => DJ.out k e.symm hk))
    have ka0 : 0 ≤ 1 + 8 * ((spA xs h).length : Int) := by omega
    have ka1 : 1 + 8 * ((spA xs h).length : Int) ≤ 9000000 := by have := LA.out; omega
    go_wp2_with fail
    refine (markRes_any t1 (spB xs h) _ _ _ P1d.out LB.out ka0 ka1).mono ?_
    rintro e w11 ⟨rfl, hm, k11⟩
    have MT := Lib.hid hm
    clear hm
    have g11 := g10.grown k11 g10.size (fun k hk => by have := (K1.out k hk).1; omega)
    have O0e := Lib.hid (O0d.out.other k11 (fun k hk e => by have := (L0.out k hk).2; have := (K1.out k e.symm).1; omega))
    have P0e := Lib.hid (P0d.out.other k11 (fun k hk e => by have := (K0.out k hk).2; have := (K1.out k e.symm).1; omega))
    have MU2 := Lib.hid (MU.out.other k11 (fun k hk e => DJ.out k hk e.symm))
    go_wp2_with fail
    refine (heldBookS_any u1 (spA xs h).length 1 _ LA.out (by omega) (by omega) MU2.out.slice).mono ?_
    rintro e w' ⟨rfl, rfl⟩
    go_wp2_with fail
    refine (heldBookS_any t1 (spB xs h).length _ _ LB.out ka0 ka1 MT.out.slice).mono ?_
    rintro e w' ⟨rfl, rfl⟩
    go_wp2_with fail
    refine (toBookS_any _ xs _ (SL.out.below g11) hn).mono ?_
    rintro e w12 ⟨gp, rfl, hgp, hrp, h12⟩
    have RP := Lib.hid (Row.slice hrp)
    clear hrp hgp
    have b12 := bnext g11 h12
    go_wp2_with fail
    refine (splitBooks_any _ xs WF.out h _ RP.out ML.out).mono ?_
    rintro e w13 ⟨u2, t2, rfl, ho2, hp2, -, h13⟩
    rw [HRC.out]
    have O2 := Lib.hid ho2
    have P2 := Lib.hid hp2
    clear ho2 hp2
    go_wp2_with fail
    refine (eqBookS_same _ _ (spA xs h) _ O2.out.slice (O0e.out.below (bnext h12 h13)).slice MA.out).mono ?_
    rintro e w14 ⟨rfl, h14⟩
    go_wp2_with fail
    refine (eqBookS_same _ _ (spB xs h) _ (P2.out.below h14).slice (P0e.out.below (bnext (bnext h12 h13) h14)).slice MB.out).mono ?_
    rintro e w15 ⟨rfl, h15⟩
    have c15 := bnext (bnext (bnext h12 h13) h14) h15
    go_wp2_with fail
    refine (heldBookS_any u1 (spA xs h).length 1 _ LA.out (by omega) (by omega) (MU2.out.below c15).slice).mono ?_
    rintro e w' ⟨rfl, rfl⟩
    go_wp2_with fail
    refine (heldBookS_any t1 (spB xs h).length _ _ LB.out ka0 ka1 (MT.out.below c15).slice).mono ?_
    rintro e w' ⟨rfl, rfl⟩
    go_wp2
    go_ret
    exact ⟨rfl, bnext g11 c15⟩
  · have e0 : (1048576 - (xs.length : Int) < 0) := by omega
    go_enter Try.func7, Try.ntmps7
    go_wp2_with fail
    refine (szBookS_left _ _ _ _ _ mx (by omega) (by omega)).mono ?_
    rintro e w' ⟨rfl, rfl⟩
    rw [if_neg (by omega)]
    go_wp2
    go_ret
    exact ⟨rfl, Below.refl _ _⟩

end Go.Proofs.Ytjfhpgomaahgoaa
