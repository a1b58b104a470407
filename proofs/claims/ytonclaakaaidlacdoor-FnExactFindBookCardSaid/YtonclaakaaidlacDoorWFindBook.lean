/- The law of FindBook, walked. Condition: the three error variables hold three different errors of errors.New's make. -/
import Derived.Test.YtonclaakaaidlacDoorFind
import Derived.Test.YtonclaakaaidlacDoorToBookS
namespace Go.Proofs.YtonclaakaaidlacDoor
set_option linter.unusedSimpArgs false
set_option linter.unusedVariables false
set_option maxRecDepth 100000
open Go.RowKit

set_option maxHeartbeats 4000000 in
theorem walkFindBook (v : Value) (xs : List Bk) (wf : ∀ b ∈ xs, b.Wf) (a1 : Int) (wf1 : (Lit.int .i64 a1).wf = true) (s2 : ByteArray) (wf2 : s2.size ≤ maxLen) (a3 : Int) (wf3 : (Lit.int .i64 a3).wf = true) (w : World) (s i y : Addr) (he : Errs w s i y) (sl : SliceOf w v xs) (ml : xs.length ≤ maxLen) :
    Calls Tryd.prog 5 #[v, .int .i64 a1, .string s2, .int .i64 a3] w fun e w' => e = .returned (.bool true) ∧ Below w.heap.size w w' := by
  have mx : xs.length ≤ 9223372036854775807 := by unfold maxLen at ml; omega
  have SL := Lib.hid sl
  have WF := Lib.hid wf
  have HE := Lib.hid he
  obtain ⟨A, c, rfl, -⟩ := sl
  clear wf he
  by_cases hs2 : s2.size ≤ 1048576
  · have es : ¬ ((1048576 : Int) < (s2.size : Int)) := by omega
    by_cases hn : xs.length ≤ 1048576
    · have e0 : ¬ (1048576 - (xs.length : Int) < 0) := by omega
      go_enter Tryd.func5, Tryd.ntmps5
      go_wp2_with fail
      refine (szBookS_any _ _ _ _ mx).mono ?_
      rintro e w' ⟨rfl, rfl⟩
      rw [if_pos hn]
      go_wp2_with fail
      refine (toBookS_any _ xs _ SL.out hn).mono ?_
      rintro e w1 ⟨g0_, rfl, hg0_, hr0_, h1⟩
      have R0 := Lib.hid hr0_
      clear hr0_ hg0_
      go_wp2_with fail
      refine (specFindBook_any _ xs a1 s2 a3 WF.out _ R0.out.slice ml).mono ?_
      rintro e w2 ⟨rfl, h2⟩
      go_wp2_with fail
      refine (toBookS_any _ xs _ (SL.out.below (bnext h1 h2)) hn).mono ?_
      rintro e w3 ⟨g1_, rfl, hg1_, hr1_, h3⟩
      have R1 := Lib.hid hr1_
      clear hr1_ hg1_
      go_wp2_with fail
      refine (findBook_any _ xs a1 s2 a3 WF.out _ s i y (HE.out.below (bnext (bnext h1 h2) h3)) R1.out.slice hn ml).mono ?_
      rintro e w4 ⟨rfl, h4⟩
      generalize fdR xs a1 s2 a3 = r0
      generalize fdCode xs a1 s2 a3 = r1
      go_wp2_with fail
      refine (toBookS_any _ xs _ (SL.out.below (bnext (bnext (bnext h1 h2) h3) h4)) hn).mono ?_
      rintro e w5 ⟨g2_, rfl, hg2_, hr2_, h5⟩
      have R2 := Lib.hid hr2_
      clear hr2_ hg2_
      go_wp2_with fail
      refine (eqBookS_same _ _ xs _ (R1.out.slice.below (bnext h4 h5)) R2.out.slice ml).mono ?_
      rintro e w6 ⟨rfl, h6⟩
      go_wp2
      go_ret
      exact ⟨rfl, (bnext (bnext (bnext (bnext (bnext h1 h2) h3) h4) h5) h6)⟩
    · go_enter Tryd.func5, Tryd.ntmps5
      go_wp2_with fail
      refine (szBookS_any _ _ _ _ mx).mono ?_
      rintro e w' ⟨rfl, rfl⟩
      rw [if_neg hn]
      go_wp2
      go_ret
      exact ⟨rfl, (Below.refl _ _)⟩
  · have es : (1048576 : Int) < (s2.size : Int) := by omega
    go_enter Tryd.func5, Tryd.ntmps5
    go_wp2
    go_ret
    exact ⟨rfl, Below.refl _ _⟩

end Go.Proofs.YtonclaakaaidlacDoor
