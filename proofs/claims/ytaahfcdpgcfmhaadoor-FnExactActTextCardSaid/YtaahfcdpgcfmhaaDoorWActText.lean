/- The law of ActText, walked. Condition: the table of powers of ten is as laid. -/
import Derived.Test.YtaahfcdpgcfmhaaDoorAcX
namespace Go.Proofs.YtaahfcdpgcfmhaaDoor
set_option linter.unusedSimpArgs false
set_option linter.unusedVariables false
set_option maxRecDepth 100000
open Go.RowKit

set_option maxHeartbeats 1000000 in
theorem walkActText (b : Ac) (hb : b.Wf) (w : World) (htab : Tab w.heap.size w) :
    Calls Tryd.prog 12 #[.agg #[.int .i8 b.wt, .int .i8 b.wo, .int .i8 b.bo]] w fun e w' => e = .returned (.bool true) ∧ Below w.heap.size w w' := by
  have SP := Lib.hid (fun W => specActText_any b hb W)
  have IM := Lib.hid (fun W h => actText_any b hb W h)
  have HT := Lib.hid htab
  generalize actS b = R at *
  clear htab
  go_enter Tryd.func12, Tryd.ntmps12
  go_wp2_with fail
  refine (toAct_any b _).mono ?_
  rintro e w1 ⟨rfl, h1⟩
  obtain ⟨c1, f1⟩ := bcell h1
  go_wp2_with fail
  refine (SP.out _).mono ?_
  rintro e w2 ⟨rfl, h2⟩
  have g2 := bnext h1 h2
  obtain ⟨c2, f2⟩ := bcell g2
  go_wp2_with fail
  refine (toAct_any b _).mono ?_
  rintro e w3 ⟨rfl, h3⟩
  have g3 := bnext g2 h3
  go_wp2_with fail
  refine (IM.out _ (HT.out.up (bnew _ g3))).mono ?_
  rintro e w4 ⟨rfl, h4⟩
  have g4 := bnext g3 h4
  go_wp2
  go_ret
  exact ⟨rfl, bnew _ g4⟩
end Go.Proofs.YtaahfcdpgcfmhaaDoor
