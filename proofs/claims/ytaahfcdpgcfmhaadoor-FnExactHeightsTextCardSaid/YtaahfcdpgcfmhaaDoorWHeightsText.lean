/- The law of HeightsText, walked. No condition. -/
import Derived.Test.YtaahfcdpgcfmhaaDoorHtT
namespace Go.Proofs.YtaahfcdpgcfmhaaDoor
set_option linter.unusedSimpArgs false
set_option linter.unusedVariables false
set_option maxRecDepth 100000
open Go.RowKit

set_option maxHeartbeats 8000000 in
theorem walkHeightsText (p0 : Pg) (wf0 : p0.Wf) (v1 : Value) (zs1 : List Int) (wf1 : ∀ z ∈ zs1, (Lit.int .i64 z).wf = true) (w : World) (htab : Tab w.heap.size w) (sl1 : IntsOf .i64 w v1 zs1) (ml1 : zs1.length ≤ maxLen) :
    Calls Tryd.prog 10 #[.agg #[.int .i16 p0.lo, .int .i16 p0.st, .int .i16 p0.bo], v1] w fun e w' => e = .returned (.bool true) ∧ Below w.heap.size w w' := by
  have WF0 := Lib.hid wf0
  have HT := Lib.hid htab
  clear htab
  have mx1 : zs1.length ≤ 9223372036854775807 := by unfold maxLen at ml1; omega
  have SL1 := Lib.hid sl1
  have WF1 := Lib.hid wf1
  have ML1 := Lib.hid ml1
  obtain ⟨A1, k1, rfl, -⟩ := sl1
  clear wf0 wf1 ml1
  have A0 := Lib.hid (PegIn.new w p0 69)
  have Z0 := Lib.hid (show w.heap.size < (World.alloc w (.cells #[.int .i16 p0.lo, .int .i16 p0.st, .int .i16 p0.bo] 69)).heap.size by simp)
  have h1 : Below w.heap.size w (World.alloc w (.cells #[.int .i16 p0.lo, .int .i16 p0.st, .int .i16 p0.bo] 69)) := by go_grown
  by_cases hn1 : (zs1.length : Int) ≤ 1048576
  · have e1 : ¬ ((1048576 : Int) < (zs1.length : Int)) := by omega
    go_enter Tryd.func10, Tryd.ntmps10
    replace hn1 : zs1.length ≤ 1048576 := by omega
    go_wp2_with fail
    generalize World.alloc _ _ = w1 at A0 Z0 h1 ⊢
    refine (toPegs_any p0 _).mono ?_
    rintro e w2 ⟨rfl, h2⟩
    go_wp2_with fail
    refine (toInt64S_any _ zs1 _ (SL1.out.below (bnext h1 h2)) hn1).mono ?_
    rintro e w3 ⟨g1, rfl, hg1, hr1, h3⟩
    have R1 := Lib.hid (IRow.slice hr1)
    clear hr1 hg1
    go_wp2_with fail
    refine (specHeightsText_any p0 WF0.out _ zs1 WF1.out _ R1.out ML1.out).mono ?_
    rintro e w4 ⟨rfl, h4⟩
    go_wp2_with fail
    refine (toInt64S_any _ zs1 _ (SL1.out.below (bnext (bnext (bnext h1 h2) h3) h4)) hn1).mono ?_
    rintro e w5 ⟨g2, rfl, hg2, hr2, h5⟩
    have R2 := Lib.hid (IRow.slice hr2)
    clear hr2 hg2
    obtain ⟨p0_0, p0_1, p0_2⟩ := A0.out.below (bnext (bnext (bnext h2 h3) h4) h5) Z0.out
    go_wp2_with fail
    refine (toPegs_any p0 _).mono ?_
    rintro e w6 ⟨rfl, h6⟩
    clear p0_0 p0_1 p0_2
    go_wp2_with fail
    refine (heightsText_any p0 WF0.out _ zs1 WF1.out _ (R2.out.below h6) ML1.out (HT.out.up (bnext (bnext (bnext (bnext (bnext h1 h2) h3) h4) h5) h6))).mono ?_
    rintro e w7 ⟨rfl, h7⟩
    generalize heightsS p0 zs1 = r0
    go_wp2_with fail
    refine (toInt64S_any _ zs1 _ (SL1.out.below (bnext (bnext (bnext (bnext (bnext (bnext h1 h2) h3) h4) h5) h6) h7)) hn1).mono ?_
    rintro e w8 ⟨g4, rfl, hg4, hr4, h8⟩
    have R4 := Lib.hid (IRow.slice hr4)
    clear hr4 hg4
    go_wp2_with fail
    refine (eqInt64S_same' _ _ zs1 _ (R2.out.below (bnext (bnext h6 h7) h8)) R4.out ML1.out).mono ?_
    rintro e w9 ⟨rfl, h9⟩
    go_wp2
    go_ret
    exact ⟨rfl, (bnext (bnext (bnext (bnext (bnext (bnext (bnext (bnext h1 h2) h3) h4) h5) h6) h7) h8) h9)⟩
  · have e1 : (1048576 : Int) < (zs1.length : Int) := by omega
    go_enter Tryd.func10, Tryd.ntmps10
    go_wp2
    go_ret
    exact ⟨rfl, by go_grown⟩

end Go.Proofs.YtaahfcdpgcfmhaaDoor
