/- The law of SwapsFor, walked. Condition: lists no longer than the law tests, whose numbers lie within their kinds. -/
import Derived.Test.YtjfhpgomaahgoabSwpR
import Derived.Test.YtjfhpgomaahgoabToBookS
import Derived.Test.YtjfhpgomaahgoabQuiet
import Derived.Test.YtjfhpgomaahgoabMark
import Derived.Deep.RegionHeld3
namespace Go.Proofs.Ytjfhpgomaahgoab
set_option linter.unusedSimpArgs false
set_option linter.unusedVariables false
set_option maxRecDepth 100000
open Go.RowKit

set_option maxHeartbeats 8000000 in
theorem walkSwapsFor (v : Value) (xs : List Bk) (wf : ∀ b ∈ xs, b.Wf) (w : World) (sl : SliceOf w v xs) (ml : xs.length ≤ maxLen) :
    Calls Try.prog 10 #[v] w fun e w' => e = .returned (.bool true) ∧ Below w.heap.size w w' := by
  have mx : xs.length ≤ 9223372036854775807 := by unfold maxLen at ml; omega
  have SL := Lib.hid sl
  have WF := Lib.hid wf
  have LE := Lib.hid (sfI_le wf)
  have ML := Lib.hid ml
  obtain ⟨A, c, rfl, -⟩ := sl
  clear wf ml
  by_cases hn : (xs.length : Int) ≤ 1048576
  · have e0 : ¬ (1048576 - (xs.length : Int) < 0) := by omega
    go_enter Try.func10, Try.ntmps10
    go_wp2_with fail
    refine (szBookS_left _ _ _ _ _ mx (by omega) (by omega)).mono ?_
    rintro e w' ⟨rfl, rfl⟩
    rw [if_pos (by omega)]
    replace hn : xs.length ≤ 1048576 := by omega
    go_wp2_with fail
    refine (toBookS_any _ xs _ SL.out hn).mono ?_
    rintro e w1 ⟨g0, rfl, hg0, hr0, h1⟩
    have R0 := Lib.hid (Row.slice hr0)
    clear hr0 hg0
    go_wp2_with fail
    refine (specSwapsFor_any _ xs WF.out _ R0.out ML.out).mono ?_
    rintro e w2 ⟨u0, rfl, ho0, h2⟩
    have O0 := Lib.hid ho0
    clear ho0
    have L0 := Lib.hid O0.out.lt
    have b2 := bnext h1 h2
    have z2 := b2.size
    go_wp2_with fail
    refine (toBookS_any _ xs _ (SL.out.below b2) hn).mono ?_
    rintro e w3 ⟨gx, rfl, hgx, hrx, h3⟩
    have RX := Lib.hid hrx
    have LX := Lib.hid (RowK.lt hrx)
    clear hrx
    have z3 := h3.size
    go_wp2_with fail
    refine (swapsForR_any _ xs WF.out _ (Row.slice RX.out) ML.out).mono ?_
    rintro e w4 ⟨u1, rfl, ho1, h4⟩
    have O1 := Lib.hid ho1
    clear ho1
    have L1 := Lib.hid O1.out.lt
    generalize hrc : sfC xs = rc
    have HRC := Lib.hid hrc
    clear hrc
    have b4 := bnext (bnext b2 h3) h4
    go_wp2_with fail
    refine (eqMvS_same _ _ _ _ (sfI xs) _ O1.out (O0.out.below (bnext h3 h4)) LE.out).mono ?_
    rintro e w5 ⟨rfl, h5⟩
    have b5 := bnext b4 h5
    go_wp2_with fail
    refine (toBookS_any _ xs _ (SL.out.below b5) hn).mono ?_
    rintro e w6 ⟨ga, rfl, hga, hra, h6⟩
    have RA := Lib.hid (Row.slice hra)
    clear hra hga
    go_wp2_with fail
    refine (eqBookS_same _ _ xs _ ((Row.slice RX.out).below (bnext (bnext h4 h5) h6)) RA.out ML.out).mono ?_
    rintro e w7 ⟨rfl, h7⟩
    have b7 := bnext (bnext b5 h6) h7
    have c7 := bnext (bnext (bnext h4 h5) h6) h7
    have O0a := Lib.hid (O0.out.below (bnext h3 c7))
    have O1a := Lib.hid (O1.out.below (bnext (bnext h5 h6) h7))
    have GX := Lib.hid ((RowG.of RX.out).below c7 LX.out)
    go_wp2_with fail
    refine (markBookS_any gx xs.length _ GX.out hn).mono ?_
    rintro e w8 ⟨rfl, k8⟩
    have g8 := b7.grown k8 b7.size (fun k hk => by injection hk with hk; omega)
    have O0b := Lib.hid (O0a.out.other k8 (fun k hk e => by injection e with e; have := (L0.out k hk).2; omega))
    have O1b := Lib.hid (O1a.out.other k8 (fun k hk e => by injection e with e; have := (L1.out k hk).1; have := LX.out; omega))
    generalize hkk : 1 + 8 * (xs.length : Int) = kk
    have kd : decide (kk < 0) = false := by simp; omega
    have kd2 : ¬ (kk < 0) := by omega
    clear hkk
    go_wp2_with fail
    refine (eqMvS_same _ _ _ _ (sfI xs) _ O1b.out O0b.out LE.out).mono ?_
    rintro e w9 ⟨rfl, h9⟩
    have g9 := bnext g8 h9
    have O0c := Lib.hid (O0b.out.below h9)
    have O1c := Lib.hid (O1b.out.below h9)
    go_wp2_with fail
    refine (markMv_any u1 _ (sfI xs) _ O1c.out LE.out).mono ?_
    rintro e w10 ⟨rfl, hm, k10⟩
    have MM := Lib.hid hm
    clear hm
    have g10 := g9.grown k10 g9.size (fun k hk => by have := (L1.out k hk).1; omega)
    have O0d := Lib.hid (O0c.out.other k10 (fun k hk e => by have := (L0.out k hk).2; have := (L1.out k e.symm).1; omega))
    go_wp2_with fail
    refine (heldMv_any u1 _ (sfI xs).length _ MM.out LE.out).mono ?_
    rintro e w' ⟨rfl, rfl⟩
    go_wp2_with fail
    refine (toBookS_any _ xs _ (SL.out.below g10) hn).mono ?_
    rintro e w11 ⟨gp, rfl, hgp, hrp, h11⟩
    have RP := Lib.hid (Row.slice hrp)
    clear hrp hgp
    have b11 := bnext g10 h11
    go_wp2_with fail
    refine (swapsForR_any _ xs WF.out _ RP.out ML.out).mono ?_
    rintro e w12 ⟨u2, rfl, ho2, h12⟩
    rw [HRC.out]
    have O2 := Lib.hid ho2
    clear ho2
    go_wp2_with fail
    refine (eqMvS_same _ _ _ _ (sfI xs) _ O2.out (O0d.out.below (bnext h11 h12)) LE.out).mono ?_
    rintro e w13 ⟨rfl, h13⟩
    go_wp2_with fail
    refine (heldMv_any u1 _ (sfI xs).length _ (MM.out.below (bnext (bnext h11 h12) h13)) LE.out).mono ?_
    rintro e w' ⟨rfl, rfl⟩
    go_wp2
    go_ret
    exact ⟨rfl, bnext (bnext b11 h12) h13⟩
  · have e0 : (1048576 - (xs.length : Int) < 0) := by omega
    go_enter Try.func10, Try.ntmps10
    go_wp2_with fail
    refine (szBookS_left _ _ _ _ _ mx (by omega) (by omega)).mono ?_
    rintro e w' ⟨rfl, rfl⟩
    rw [if_neg (by omega)]
    go_wp2
    go_ret
    exact ⟨rfl, Below.refl _ _⟩

end Go.Proofs.Ytjfhpgomaahgoab
