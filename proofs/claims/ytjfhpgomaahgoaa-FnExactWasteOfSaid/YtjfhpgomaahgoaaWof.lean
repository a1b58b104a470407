/- The waste of books on heights, by the model: the contract of WasteOf. Condition: numbers within their kinds, slices no longer than can be. -/
import Derived.Test.YtjfhpgomaahgoaaWst
namespace Go.Proofs.Ytjfhpgomaahgoaa
set_option linter.unusedSimpArgs false
set_option linter.unusedVariables false
set_option maxRecDepth 100000
open Go.RowKit

def woV (p : Pg) (hs : List Int) (xs : List Bk) : Int := if gaB p hs xs && allHB hs xs then wsTo hs xs xs.length else 0
theorem gc_cases (p : Pg) (hs : List Int) (xs : List Bk) : (gaB p hs xs = false ∧ gcC p hs xs = 1 ∧ woV p hs xs = 0) ∨ (gaB p hs xs = true ∧ allHB hs xs = false ∧ gcC p hs xs = 6 ∧ woV p hs xs = 0) ∨ (gaB p hs xs = true ∧ allHB hs xs = true ∧ gcC p hs xs = 0 ∧ woV p hs xs = wsTo hs xs xs.length) := by
  unfold gcC woV
  cases h1 : gaB p hs xs
  · exact .inl ⟨rfl, rfl, rfl⟩
  · cases h2 : allHB hs xs
    · exact .inr (.inl ⟨rfl, rfl, rfl, rfl⟩)
    · exact .inr (.inr ⟨rfl, rfl, rfl, rfl⟩)
theorem gaB_true {p : Pg} {hs : List Int} {xs : List Bk} (h : gaB p hs xs = true) : hsB p hs = true ∧ okB xs = true := by
  unfold gaB at h
  simpa only [Bool.and_eq_true] using h

set_option maxHeartbeats 2000000 in
theorem specWasteOf_any (p : Pg) (wf : p.Wf) (v v2 : Value) (hs : List Int) (xs : List Bk) (wz : ∀ z ∈ hs, (Lit.int .i64 z).wf = true) (wx : ∀ b ∈ xs, b.Wf) (w : World) (s1 : IntsOf .i64 w v hs) (s2 : SliceOf w v2 xs) (h1 : hs.length ≤ maxLen) (h2 : xs.length ≤ maxLen) :
    Calls Try.prog 50 #[.agg #[.int .i16 p.lo, .int .i16 p.st, .int .i16 p.bo], v, v2] w fun e w' => e = .returned (.tuple #[.int .i64 (woV p hs xs), .int .i64 (gcC p hs xs)]) ∧ Below w.heap.size w w' := by
  have G0 := Lib.hid (show Below w.heap.size w (w.alloc (.cells #[.int .i16 p.lo, .int .i16 p.st, .int .i16 p.bo] 26)) by go_grown)
  have WF := Lib.hid wf
  have WZ := Lib.hid wz
  have WX := Lib.hid wx
  have S1 := Lib.hid (s1.below G0.out)
  have S2 := Lib.hid (s2.below G0.out)
  clear wf wz wx s1 s2
  rcases gc_cases p hs xs with ⟨h3, h4, h5⟩ | ⟨h3, h6, h4, h5⟩ | ⟨h3, h6, h4, h5⟩
  · have E := Lib.hid h5
    have E4 := Lib.hid h4
    go_enter Try.func50, Try.ntmps50
    go_wp2_with fail
    refine (l04Grouped_any p WF.out v v2 hs xs WZ.out WX.out _ S1.out S2.out h1 h2).mono ?_
    rintro e w1 ⟨rfl, g1⟩
    rw [h4]
    clear h3 h4 h5
    go_wp2
    go_ret2
    exact ⟨by rw [E.out, E4.out]; rfl, bnext G0.out g1⟩
  · have E := Lib.hid h5
    have E4 := Lib.hid h4
    go_enter Try.func50, Try.ntmps50
    go_wp2_with fail
    refine (l04Grouped_any p WF.out v v2 hs xs WZ.out WX.out _ S1.out S2.out h1 h2).mono ?_
    rintro e w1 ⟨rfl, g1⟩
    rw [h4]
    clear h3 h4 h5 h6
    go_wp2
    go_ret2
    exact ⟨by rw [E.out, E4.out]; rfl, bnext G0.out g1⟩
  · have E := Lib.hid h5
    have E4 := Lib.hid h4
    obtain ⟨k1, k2⟩ := gaB_true h3
    have K1 := Lib.hid k1
    have K2 := Lib.hid k2
    have K3 := Lib.hid h6
    go_enter Try.func50, Try.ntmps50
    go_wp2_with fail
    refine (l04Grouped_any p WF.out v v2 hs xs WZ.out WX.out _ S1.out S2.out h1 h2).mono ?_
    rintro e w1 ⟨rfl, g1⟩
    rw [h4]
    clear h3 h4 h5 h6 k1 k2
    go_wp2_with fail
    refine (l04Waste_any v v2 hs xs WX.out _ (S1.out.below g1) (S2.out.below g1) K2.out (hsB_bounds K1.out) K3.out (hsB_len K1.out).2.2).mono ?_
    rintro e w2 ⟨rfl, g2⟩
    go_wp2
    go_ret2
    exact ⟨by rw [E.out, E4.out]; rfl, bnext (bnext G0.out g1) g2⟩

end Go.Proofs.Ytjfhpgomaahgoaa
