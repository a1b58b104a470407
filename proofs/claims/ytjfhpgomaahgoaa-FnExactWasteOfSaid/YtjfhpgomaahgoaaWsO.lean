/- The waste of books on heights, by the program: the contract of WasteOf. Condition: numbers within their kinds, slices no longer than can be. -/
import Derived.Test.YtjfhpgomaahgoaaWsI
namespace Go.Proofs.Ytjfhpgomaahgoaa
set_option linter.unusedSimpArgs false
set_option linter.unusedVariables false
set_option maxRecDepth 100000
open Go.RowKit

set_option maxHeartbeats 2000000 in
theorem wasteOfTop_any (p : Pg) (wf : p.Wf) (v v2 : Value) (hs : List Int) (xs : List Bk) (wz : ∀ z ∈ hs, (Lit.int .i64 z).wf = true) (wx : ∀ b ∈ xs, b.Wf) (w : World) (s1 : IntsOf .i64 w v hs) (s2 : SliceOf w v2 xs) (h1 : hs.length ≤ maxLen) (h2 : xs.length ≤ maxLen) :
    Calls Try.prog 51 #[.agg #[.int .i16 p.lo, .int .i16 p.st, .int .i16 p.bo], v, v2] w fun e w' => e = .returned (.tuple #[.int .i64 (woV p hs xs), .int .i64 (gcC p hs xs)]) ∧ Below w.heap.size w w' := by
  have G0 := Lib.hid (show Below w.heap.size w (w.alloc (.cells #[.int .i16 p.lo, .int .i16 p.st, .int .i16 p.bo] 26)) by go_grown)
  have WF := Lib.hid wf
  have WZ := Lib.hid wz
  have WX := Lib.hid wx
  have S1 := Lib.hid (s1.below G0.out)
  have S2 := Lib.hid (s2.below G0.out)
  clear wf wz wx s1 s2
  rcases gc_cases p hs xs with ⟨h3, h4, h5⟩ | ⟨h3, h6, h4, h5⟩ | ⟨h3, h6, h4, h5⟩
  · have E := Lib.hid h5
    have E4 := Lib.hid h4
    clear h4 h5
    cases k1 : hsB p hs
    · clear h3
      go_enter Try.func51, Try.ntmps51
      go_wp2_with fail
      refine (validHeights_any p WF.out v hs WZ.out _ S1.out h1).mono ?_
      rintro e w1 ⟨rfl, g1⟩
      rw [k1]
      go_wp2
      go_ret2
      exact ⟨by rw [E.out, E4.out]; rfl, bnext G0.out g1⟩
    · have k2 : okB xs = false := by
        unfold gaB at h3
        rw [k1, Bool.true_and] at h3
        exact h3
      clear h3
      go_enter Try.func51, Try.ntmps51
      go_wp2_with fail
      refine (validHeights_any p WF.out v hs WZ.out _ S1.out h1).mono ?_
      rintro e w1 ⟨rfl, g1⟩
      rw [k1]
      go_wp2_with fail
      refine (validBooks_any v2 xs _ (S2.out.below g1) h2).mono ?_
      rintro e w2 ⟨rfl, g2⟩
      rw [k2]
      go_wp2
      go_ret2
      exact ⟨by rw [E.out, E4.out]; rfl, bnext (bnext G0.out g1) g2⟩
  · have E := Lib.hid h5
    have E4 := Lib.hid h4
    obtain ⟨k1, k2⟩ := gaB_true h3
    have K1 := Lib.hid k1
    have K2 := Lib.hid k2
    have K3 := Lib.hid h6
    clear h3 h4 h5 h6
    go_enter Try.func51, Try.ntmps51
    go_wp2_with fail
    refine (validHeights_any p WF.out v hs WZ.out _ S1.out h1).mono ?_
    rintro e w1 ⟨rfl, g1⟩
    rw [k1]
    go_wp2_with fail
    refine (validBooks_any v2 xs _ (S2.out.below g1) h2).mono ?_
    rintro e w2 ⟨rfl, g2⟩
    rw [k2]
    go_wp2_with fail
    refine (wasteOf0_any v v2 hs xs WX.out _ (S1.out.below (bnext g1 g2)) (S2.out.below (bnext g1 g2)) (hsB_len K1.out).2.2 (okB_len K2.out) K3.out).mono ?_
    rintro e w3 ⟨rfl, g3⟩
    go_wp2
    go_ret2
    exact ⟨by rw [E.out, E4.out]; rfl, bnext (bnext (bnext G0.out g1) g2) g3⟩
  · have E := Lib.hid h5
    have E4 := Lib.hid h4
    obtain ⟨k1, k2⟩ := gaB_true h3
    have K1 := Lib.hid k1
    have K2 := Lib.hid k2
    have K3 := Lib.hid h6
    clear h3 h4 h5 h6
    go_enter Try.func51, Try.ntmps51
    go_wp2_with fail
    refine (validHeights_any p WF.out v hs WZ.out _ S1.out h1).mono ?_
    rintro e w1 ⟨rfl, g1⟩
    rw [k1]
    go_wp2_with fail
    refine (validBooks_any v2 xs _ (S2.out.below g1) h2).mono ?_
    rintro e w2 ⟨rfl, g2⟩
    rw [k2]
    go_wp2_with fail
    refine (wasteOf1_any v v2 hs xs WX.out _ (S1.out.below (bnext g1 g2)) (S2.out.below (bnext g1 g2)) (hsB_len K1.out).2.2 K2.out (hsB_bounds K1.out) K3.out).mono ?_
    rintro e w3 ⟨rfl, g3⟩
    go_wp2
    go_ret2
    exact ⟨by rw [E.out, E4.out]; rfl, bnext (bnext (bnext G0.out g1) g2) g3⟩

end Go.Proofs.Ytjfhpgomaahgoaa
