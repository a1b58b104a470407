/- ShelvesNeeded, by the model: a contract. Condition: numbers within their kinds, slices no longer than can be. -/
import Derived.Test.YtlphpajpjpohmabShvN
namespace Go.Proofs.Ytlphpajpjpohmab
set_option linter.unusedSimpArgs false
set_option linter.unusedVariables false
set_option maxRecDepth 100000
open Go.RowKit

set_option maxHeartbeats 16000000 in
theorem specShelvesNeeded_any (p : Pg) (wf : p.Wf) (v v2 : Value) (hs : List Int) (xs : List Bk) (a : Int) (wz : ∀ z ∈ hs, (Lit.int .i64 z).wf = true) (wx : ∀ b ∈ xs, b.Wf) (w : World) (s1 : IntsOf .i64 w v hs) (s2 : SliceOf w v2 xs) (h1 : hs.length ≤ maxLen) (h2 : xs.length ≤ maxLen) :
    Calls Try.prog 13 #[.agg #[.int .i16 p.lo, .int .i16 p.st, .int .i16 p.bo], v, v2, .int .i64 a] w fun e w' => ∃ u, e = .returned (.tuple #[u, .int .i64 (shC p hs xs a)]) ∧ w'.ownsRow w.heap.size 2 1 u (shR (ndF a) p hs xs a).length ((shR (ndF a) p hs xs a).map (Value.int .i64)) ∧ Below w.heap.size w w' := by
  have G0 := Lib.hid (show Below w.heap.size w (w.alloc (.cells #[.int .i16 p.lo, .int .i16 p.st, .int .i16 p.bo] 40)) by go_grown)
  obtain ⟨i0, hi0, hz0, hz1, hz2⟩ := info_parts infoI64G
  have WF := Lib.hid wf
  have WZ := Lib.hid wz
  have WX := Lib.hid wx
  have S1 := Lib.hid (s1.below G0.out)
  have S2 := Lib.hid (s2.below G0.out)
  have z0 := G0.out.size
  clear wf wz wx s1
  obtain ⟨C, hC⟩ : ∃ C, shC p hs xs a = C := ⟨_, rfl⟩
  have HC := Lib.hid hC
  by_cases h0 : C = 0
  · subst h0
    obtain ⟨h3, h5, h6, h7⟩ : gaB p hs xs = true ∧ inB a 1 2000 = true ∧ allHB hs xs = true ∧ wdB xs a = true := by
      rcases sh_cases p hs xs a with ⟨_, h⟩ | ⟨_, _, h⟩ | ⟨_, _, _, h⟩ | ⟨_, _, _, _, h⟩ | ⟨h3, h5, h6, h7, _⟩
      · rw [h] at hC; cases hC
      · rw [h] at hC; cases hC
      · rw [h] at hC; cases hC
      · rw [h] at hC; cases hC
      · exact ⟨h3, h5, h6, h7⟩
    obtain ⟨k1, k2⟩ := gaB_true h3
    have l6 := (hsB_len k1).2.2
    have l60 := okB_len k2
    have ha : 1 ≤ a ∧ a ≤ 2000 := by unfold inB at h5; simpa using h5
    obtain ⟨a1, a2⟩ := ha
    have EL := Lib.hid (show shR (ndF a) p hs xs a = shTo (ndF a) hs xs hs.length by unfold shR; rw [HC.out]; rfl)
    have K2 := Lib.hid k2
    clear h3 h5 h6 h7 hC k1 k2
    go_enter Try.func13, Try.ntmps13
    go_wp2_with fail
    refine (l04Shelved_any p WF.out v v2 hs xs a WZ.out WX.out _ S1.out S2.out h1 h2).mono ?_
    rintro e w1 ⟨rfl, g1⟩
    rw [HC.out]
    have B1 := Lib.hid (bnext G0.out g1)
    have zz := B1.out.size
    go_wp2_with fail
    refine (l04Needed_any v v2 hs xs a WX.out _ (S1.out.below g1) (S2.out.below g1) l6 K2.out a1 a2).mono ?_
    rintro e w2 ⟨u, rfl, ho, g2⟩
    have OW := Lib.hid ho
    obtain ⟨Ao, co, rfl⟩ := vlen_own1 ho
    clear ho g1
    go_wp2
    go_ret2
    exact ⟨_, by rw [HC.out]; rfl, by rw [EL.out]; exact ownMono OW.out zz, bnext B1.out g2⟩
  · have EL := Lib.hid (show shR (ndF a) p hs xs a = [] by unfold shR; rw [HC.out, if_neg h0])
    have d1 : (C != 0) = true := by simpa using h0
    have d2 : (C == 0) = false := by simpa using h0
    clear s2
    go_enter Try.func13, Try.ntmps13
    go_wp2_with fail
    refine (l04Shelved_any p WF.out v v2 hs xs a WZ.out WX.out _ S1.out S2.out h1 h2).mono ?_
    rintro e w1 ⟨rfl, g1⟩
    rw [hC]
    have B1 := Lib.hid (bnext G0.out g1)
    have zz := B1.out.size
    clear hC g1
    go_wp2
    go_ret2
    exact ⟨_, by rw [HC.out]; rfl, by rw [EL.out]; exact ownI0S w1 _ zz, B1.out.alloc zz _⟩
end Go.Proofs.Ytlphpajpjpohmab
