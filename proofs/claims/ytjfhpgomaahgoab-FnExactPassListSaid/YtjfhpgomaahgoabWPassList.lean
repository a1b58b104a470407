/- The law of PassList, walked. Condition: at most 1048576 books (the law tests it), whose numbers lie within their kinds. -/
import Derived.Test.YtjfhpgomaahgoabPasL
import Derived.Test.YtjfhpgomaahgoabToBookS
import Derived.Test.YtjfhpgomaahgoabQuiet
import Derived.Test.YtjfhpgomaahgoabMark
import Derived.Deep.RegionHeld3
namespace Go.Proofs.Ytjfhpgomaahgoab
set_option linter.unusedSimpArgs false
set_option linter.unusedVariables false
set_option maxRecDepth 100000
open Go.RowKit

set_option maxHeartbeats 4000000 in
theorem walkPassList (v : Value) (xs : List Bk) (wf : ∀ b ∈ xs, b.Wf) (w : World) (sl : SliceOf w v xs) (ml : xs.length ≤ maxLen) :
    Calls Try.prog 8 #[v] w fun e w' => e = .returned (.bool true) ∧ Below w.heap.size w w' := by
  have mx : xs.length ≤ 9223372036854775807 := by unfold maxLen at ml; omega
  have SL := Lib.hid sl
  have WF := Lib.hid wf
  obtain ⟨A, c, rfl, -⟩ := sl
  clear wf
  by_cases hn : xs.length ≤ 1048576
  · have e0 : ¬ (1048576 - (xs.length : Int) < 0) := by omega
    have LR := Lib.hid (show (pcL xs).length ≤ 1048576 by have := pcL_length xs; omega)
    have LM := Lib.hid (show (pcL xs).length ≤ maxLen by have := pcL_length xs; omega)
    go_enter Try.func8, Try.ntmps8
    go_wp2_with fail
    refine (szBookS_any _ _ _ _ mx).mono ?_
    rintro e w' ⟨rfl, rfl⟩
    rw [if_pos hn]
    go_wp2_with fail
    refine (toBookS_any _ xs _ SL.out hn).mono ?_
    rintro e w1 ⟨g0, rfl, hg0, hr0, h1⟩
    have R0 := Lib.hid hr0
    clear hr0 hg0
    go_wp2_with fail
    refine (specPassList_any _ xs WF.out _ R0.out.slice hn ml).mono ?_
    rintro e w2 ⟨u0, rfl, ho0, h2⟩
    have O0 := Lib.hid ho0
    clear ho0
    go_wp2_with fail
    refine (toBookS_any _ xs _ (SL.out.below (bnext h1 h2)) hn).mono ?_
    rintro e w3 ⟨gx, rfl, hgx, hrx, h3⟩
    have RX := Lib.hid hrx
    have LX := Lib.hid (RowK.lt hrx)
    clear hrx
    have O03 := Lib.hid (ownsBelow O0.out h3)
    go_wp2_with fail
    refine (passList_any _ xs WF.out _ RX.out.slice hn ml).mono ?_
    rintro e w4 ⟨u1, rfl, ho1, h4⟩
    have O1 := Lib.hid ho1
    clear ho1
    have O04 := Lib.hid (ownsBelow O03.out h4)
    go_wp2_with fail
    refine (eqInt64S_same _ _ (pcL xs) _ (ownsInts O1.out) (ownsInts O04.out) LM.out).mono ?_
    rintro e w5 ⟨rfl, h5⟩
    have g5 := bnext (bnext (bnext (bnext h1 h2) h3) h4) h5
    have X5 := Lib.hid (RX.out.slice.below (bnext h4 h5))
    have O05 := Lib.hid (ownsBelow O04.out h5)
    have O15 := Lib.hid (ownsBelow O1.out h5)
    go_wp2_with fail
    refine (toBookS_any _ xs _ (SL.out.below g5) hn).mono ?_
    rintro e w6 ⟨gy, rfl, hgy, hry, h6⟩
    have RY := Lib.hid hry
    clear hry hgy
    go_wp2_with fail
    refine (eqBookS_same _ _ xs _ (X5.out.below h6) RY.out.slice ml).mono ?_
    rintro e w7 ⟨rfl, h7⟩
    have g7 := bnext (bnext g5 h6) h7
    have O07 := Lib.hid (ownsBelow (ownsBelow O05.out h6) h7)
    have O17 := Lib.hid (ownsBelow (ownsBelow O15.out h6) h7)
    have R7 := Lib.hid ((RowG.of RX.out).below (bnext (bnext (bnext h4 h5) h6) h7) LX.out)
    have s2 := (bnext h1 h2).size
    have s3 := h3.size
    go_wp2_with fail
    refine (markBookS_any gx xs.length _ R7.out hn).mono ?_
    rintro e w8 ⟨rfl, k8⟩
    have g8 := g7.grown k8 g7.size (fun k hk => by injection hk with hk; omega)
    have O08 := Lib.hid (ownsOther O07.out k8 (fun k hk e => by injection e with e; have := (O0.out.lt k hk).2; omega))
    have O18 := Lib.hid (ownsOther O17.out k8 (fun k hk e => by injection e with e; have := (O1.out.lt k hk).1; have := LX.out; omega))
    go_wp2_with fail
    refine (eqInt64S_same _ _ (pcL xs) _ (ownsInts O18.out) (ownsInts O08.out) LM.out).mono ?_
    rintro e w9 ⟨rfl, h9⟩
    have g9 := bnext g8 h9
    have O09 := Lib.hid (ownsBelow O08.out h9)
    have O19 := Lib.hid (ownsBelow O18.out h9)
    go_wp2_with fail
    refine (markInt64S_any u1 (pcL xs) _ _ LR.out O19.out).mono ?_
    rintro e w10 ⟨rfl, ho10, k10⟩
    have M10 := Lib.hid ho10
    clear ho10
    have g10 := g9.grown k10 g9.size (fun k hk => by have := (O1.out.lt k hk).1; omega)
    have O010 := Lib.hid (ownsOther O09.out k10 (fun k hk e => by have := (O0.out.lt k hk).2; have := (O1.out.lt k e.symm).1; omega))
    go_wp2_with fail
    refine (heldInt64S_any u1 (pcL xs) _ LR.out (ownsInts M10.out)).mono ?_
    rintro e w11 ⟨rfl, h11⟩
    have g11 := bnext g10 h11
    have O011 := Lib.hid (ownsBelow O010.out h11)
    have M11 := Lib.hid (ownsBelow M10.out h11)
    go_wp2_with fail
    refine (toBookS_any _ xs _ (SL.out.below g11) hn).mono ?_
    rintro e w12 ⟨gz, rfl, hgz, hrz, h12⟩
    have RZ := Lib.hid hrz
    clear hrz hgz
    go_wp2_with fail
    refine (passList_any _ xs WF.out _ RZ.out.slice hn ml).mono ?_
    rintro e w13 ⟨u2, rfl, ho2, h13⟩
    have O2 := Lib.hid ho2
    clear ho2
    have O013 := Lib.hid (ownsBelow (ownsBelow O011.out h12) h13)
    have M13 := Lib.hid (ownsBelow (ownsBelow M11.out h12) h13)
    go_wp2_with fail
    refine (eqInt64S_same _ _ (pcL xs) _ (ownsInts O2.out) (ownsInts O013.out) LM.out).mono ?_
    rintro e w14 ⟨rfl, h14⟩
    have M14 := Lib.hid (ownsBelow M13.out h14)
    go_wp2_with fail
    refine (heldInt64S_any u1 (pcL xs) _ LR.out (ownsInts M14.out)).mono ?_
    rintro e w15 ⟨rfl, h15⟩
    go_wp2
    go_ret
    exact ⟨rfl, bnext (bnext (bnext (bnext g11 h12) h13) h14) h15⟩
  · go_enter Try.func8, Try.ntmps8
    go_wp2_with fail
    refine (szBookS_any _ _ _ _ mx).mono ?_
    rintro e w' ⟨rfl, rfl⟩
    rw [if_neg hn]
    go_wp2
    go_ret
    exact ⟨rfl, Below.refl _ _⟩

end Go.Proofs.Ytjfhpgomaahgoab
