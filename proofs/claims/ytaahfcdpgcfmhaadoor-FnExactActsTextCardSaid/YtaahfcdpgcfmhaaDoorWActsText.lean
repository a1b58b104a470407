/- The law of ActsText, walked. No condition. -/
import Derived.Test.YtaahfcdpgcfmhaaDoorAsT
import Derived.Deep.RegionHeld3
namespace Go.Proofs.YtaahfcdpgcfmhaaDoor
set_option linter.unusedSimpArgs false
set_option linter.unusedVariables false
set_option maxRecDepth 100000
open Go.RowKit

set_option maxHeartbeats 8000000 in
theorem walkActsText (v0 : Value) (as0 : List Ac) (wf0 : ∀ a ∈ as0, a.Wf) (w : World) (htab : Tab w.heap.size w) (sl0 : ActsOf w v0 as0) (ml0 : as0.length ≤ maxLen) :
    Calls Tryd.prog 13 #[v0] w fun e w' => e = .returned (.bool true) ∧ Below w.heap.size w w' := by
  have HT := Lib.hid htab
  clear htab
  have mx0 : as0.length ≤ 9223372036854775807 := by unfold maxLen at ml0; omega
  have SL0 := Lib.hid sl0
  have WF0 := Lib.hid wf0
  have ML0 := Lib.hid ml0
  obtain ⟨A0, k0, rfl, -⟩ := sl0
  clear wf0 ml0
  by_cases hn0 : (as0.length : Int) ≤ 1048576
  · have e0 : ¬ (1048576 - (as0.length : Int) < 0) := by omega
    go_enter Tryd.func13, Tryd.ntmps13
    go_wp2_with fail
    refine (szActS_left _ _ _ _ _ mx0 (by omega) (by omega)).mono ?_
    rintro e w' ⟨rfl, rfl⟩
    rw [if_pos (by omega)]
    replace hn0 : as0.length ≤ 1048576 := by omega
    go_wp2_with fail
    refine (toActS_any _ as0 _ SL0.out hn0).mono ?_
    rintro e w1 ⟨g0, rfl, hg0, hr0, h1⟩
    have R0 := Lib.hid (ARow.slice hr0)
    clear hr0 hg0
    go_wp2_with fail
    refine (specActsText_any _ as0 WF0.out _ R0.out ML0.out).mono ?_
    rintro e w2 ⟨rfl, h2⟩
    go_wp2_with fail
    refine (toActS_any _ as0 _ (SL0.out.below (bnext h1 h2)) hn0).mono ?_
    rintro e w3 ⟨g1, rfl, hg1, hr1, h3⟩
    have R1 := Lib.hid (ARow.slice hr1)
    clear hr1 hg1
    go_wp2_with fail
    refine (actsText_any _ as0 WF0.out _ R1.out ML0.out (HT.out.up (bnext (bnext h1 h2) h3))).mono ?_
    rintro e w4 ⟨rfl, h4⟩
    generalize actsS as0 = r0
    go_wp2_with fail
    refine (toActS_any _ as0 _ (SL0.out.below (bnext (bnext (bnext h1 h2) h3) h4)) hn0).mono ?_
    rintro e w5 ⟨g2, rfl, hg2, hr2, h5⟩
    have R2 := Lib.hid (ARow.slice hr2)
    clear hr2 hg2
    go_wp2_with fail
    refine (eqActS_same _ _ as0 _ (R1.out.below (bnext h4 h5)) R2.out ML0.out).mono ?_
    rintro e w6 ⟨rfl, h6⟩
    go_wp2
    go_ret
    exact ⟨rfl, (bnext (bnext (bnext (bnext (bnext h1 h2) h3) h4) h5) h6)⟩
  · have e0 : (1048576 - (as0.length : Int) < 0) := by omega
    go_enter Tryd.func13, Tryd.ntmps13
    go_wp2_with fail
    refine (szActS_left _ _ _ _ _ mx0 (by omega) (by omega)).mono ?_
    rintro e w' ⟨rfl, rfl⟩
    rw [if_neg (by omega)]
    go_wp2
    go_ret
    exact ⟨rfl, (Below.refl _ _)⟩

end Go.Proofs.YtaahfcdpgcfmhaaDoor
