/- The law of BookText, walked. Condition: the table of powers of ten is as laid. -/
import Derived.Test.YtaahfcdpgcfmhaaDoorBkX
import Derived.Test.YtaahfcdpgcfmhaaDoorToBook
namespace Go.Proofs.YtaahfcdpgcfmhaaDoor
set_option linter.unusedSimpArgs false
set_option linter.unusedVariables false
set_option maxRecDepth 100000
open Go.RowKit

theorem Tab.up {w w1 : World} (h : Tab w.heap.size w) (hb : Below w.heap.size w w1) : Tab w1.heap.size w1 :=
  fun w' h' => h w' (hb.trans (h'.mono hb.size))
set_option maxHeartbeats 1000000 in
theorem walkBookText (b : Bk) (hb : b.Wf) (w : World) (htab : Tab w.heap.size w) :
    Calls Tryd.prog 5 #[.agg #[.int .i16 b.c, .int .u8 b.m0, .int .u8 b.m1, .int .u8 b.m2, .int .i16 b.v, .int .i16 b.wi, .int .i16 b.hi, .int .i16 b.we]] w fun e w' => e = .returned (.bool true) ∧ Below w.heap.size w w' := by
  have SP := Lib.hid (fun W => specBookText_any b hb W)
  have IM := Lib.hid (fun W h => bookText_any b hb W h)
  have HT := Lib.hid htab
  generalize bookS b = R at *
  clear htab
  go_enter Tryd.func5, Tryd.ntmps5
  go_wp2_with fail
  refine (toBook_any b _).mono ?_
  rintro e w1 ⟨rfl, h1⟩
  obtain ⟨c1, f1⟩ := bcell h1
  go_wp2_with fail
  refine (SP.out _).mono ?_
  rintro e w2 ⟨rfl, h2⟩
  have g2 := bnext h1 h2
  obtain ⟨c2, f2⟩ := bcell g2
  go_wp2_with fail
  refine (toBook_any b _).mono ?_
  rintro e w3 ⟨rfl, h3⟩
  have g3 := bnext g2 h3
  go_wp2_with fail
  refine (IM.out _ (HT.out.up (bnew _ g3))).mono ?_
  rintro e w4 ⟨rfl, h4⟩
  have g4 := bnext g3 h4
  go_wp2
  go_ret
  exact ⟨rfl, bnew _ g4⟩
end Go.Proofs.YtaahfcdpgcfmhaaDoor
