/- GroupBooks: contracts. Condition: numbers within their kinds, slices no longer than can be. -/
import Derived.Test.YtlphpajpjpohmabResT
import Derived.Test.YtlphpajpjpohmabWof
namespace Go.Proofs.Ytlphpajpjpohmab
set_option linter.unusedSimpArgs false
set_option linter.unusedVariables false
set_option maxRecDepth 100000
open Go.RowKit

def gbT (p : Pg) (hs : List Int) (xs : List Bk) : List (List Int) := if gcC p hs xs = 0 then (List.range hs.length).map (fun i => grP hs xs i xs.length) else []
theorem gbT_0 {p : Pg} {hs : List Int} {xs : List Bk} (h : gcC p hs xs = 0) : gbT p hs xs = (List.range hs.length).map (fun i => grP hs xs i xs.length) := by unfold gbT; rw [if_pos h]
theorem gbT_1 {p : Pg} {hs : List Int} {xs : List Bk} (h : gcC p hs xs ≠ 0) : gbT p hs xs = [] := by unfold gbT; rw [if_neg h]
theorem gb_get (hs : List Int) (xs : List Bk) (i : Nat) (hi : i < hs.length) : grP hs xs i xs.length = ((List.range hs.length).map (fun i => grP hs xs i xs.length)).getD i [] := by
  rw [List.getD_eq_getElem?_getD, List.getElem?_eq_getElem (by simpa using hi)]
  simp
theorem gb_bd (p : Pg) (hs : List Int) (xs : List Bk) : TBd (gbT p hs xs) := by
  by_cases h : gcC p hs xs = 0
  · rw [gbT_0 h]
    have h2 : gaB p hs xs = true := by
      cases h3 : gaB p hs xs
      · unfold gcC at h; rw [h3] at h; simp at h
      · rfl
    obtain ⟨k1, k2⟩ := gaB_true h2
    have l6 := (hsB_len k1).2.2
    have l60 := okB_len k2
    refine ⟨by simpa using l6, fun i => ?_⟩
    rcases Nat.lt_or_ge i hs.length with hi | hi
    · rw [← gb_get hs xs i hi]
      have := grP_len hs xs i xs.length
      omega
    · rw [List.getD_eq_getElem?_getD, List.getElem?_eq_none (by simpa using hi)]
      exact Nat.zero_le _
  · rw [gbT_1 h]
    exact ⟨Nat.zero_le _, fun i => by simp⟩
theorem TG.resT {w : World} {G n : Nat} {gr : Nat → List Int} {t : List (List Int)} (h : TG w (G + 1) G n gr) (hn : n ≤ 6) (hl : n = t.length) (he : ∀ i, i < t.length → gr i = t.getD i []) : ResT w G w.heap.size (.slice (some ⟨G, 0, none⟩) n n) t := by
  obtain ⟨h0, cs, h1, h2, h3, h4⟩ := h
  refine ResT.of (vs := cs.toList) (gr := gr) (by simpa [h2] using hl) ⟨⟨by simp, .inr ⟨G, n, cs, by simp [h2], Nat.le_refl _, h1, by simp [h2], by unfold maxLen; omega, by simp [h2], by rw [Nat.mul_one]; exact List.take_length⟩⟩, fun i v hv => ?_, fun i j v v' hij hv hv' => h4 i j v v' hij (by simpa using hv) (by simpa using hv'), fun i v hv k hk e => ?_⟩ he
  · exact ownMono (h3 i v (by simpa using hv)) (Nat.le_succ _)
  · have h5 := ((h3 i v (by simpa using hv)).lt k e).1
    have h6 : G = k := by injection hk
    omega

set_option maxHeartbeats 4000000 in
theorem specGroupBooks_any (p : Pg) (wf : p.Wf) (v v2 : Value) (hs : List Int) (xs : List Bk) (wz : ∀ z ∈ hs, (Lit.int .i64 z).wf = true) (wx : ∀ b ∈ xs, b.Wf) (w : World) (s1 : IntsOf .i64 w v hs) (s2 : SliceOf w v2 xs) (h1 : hs.length ≤ maxLen) (h2 : xs.length ≤ maxLen) :
    Calls Try.prog 25 #[.agg #[.int .i16 p.lo, .int .i16 p.st, .int .i16 p.bo], v, v2] w fun e w' => ∃ u, e = .returned (.tuple #[u, .int .i64 (gcC p hs xs)]) ∧ ResT w' w.heap.size w'.heap.size u (gbT p hs xs) ∧ Below w.heap.size w w' := by
  have G0 := Lib.hid (show Below w.heap.size w (w.alloc (.cells #[.int .i16 p.lo, .int .i16 p.st, .int .i16 p.bo] 40)) by go_grown)
  have WF := Lib.hid wf
  have WZ := Lib.hid wz
  have WX := Lib.hid wx
  have S1 := Lib.hid (s1.below G0.out)
  have S2 := Lib.hid (s2.below G0.out)
  clear wf wz wx s1 s2
  obtain ⟨C, hC⟩ : ∃ C, gcC p hs xs = C := ⟨_, rfl⟩
  have HC := Lib.hid hC
  by_cases h0 : C = 0
  · subst h0
    have h3 : gaB p hs xs = true := by
      cases h3 : gaB p hs xs
      · unfold gcC at hC; rw [h3] at hC; simp at hC
      · rfl
    obtain ⟨k1, k2⟩ := gaB_true h3
    have l6 := (hsB_len k1).2.2
    have l60 := okB_len k2
    have EL := Lib.hid (gbT_0 hC)
    clear h3 hC k1 k2
    go_enter Try.func25, Try.ntmps25
    go_wp2_with fail
    refine (l04Grouped_any p WF.out v v2 hs xs WZ.out WX.out _ S1.out S2.out h1 h2).mono ?_
    rintro e w1 ⟨rfl, g1⟩
    rw [HC.out]
    have B1 := Lib.hid (bnext G0.out g1)
    have z1 := B1.out.size
    go_wp2_with fail
    refine (l04Groups_any v v2 hs xs WX.out _ (S1.out.below g1) (S2.out.below g1) l6 l60).mono ?_
    rintro e w2 ⟨o, vs, rfl, hvl, htl, g2⟩
    have RT := Lib.hid (show ResT w2 w.heap.size w2.heap.size o (gbT p hs xs) by
      rw [EL.out]
      refine ResT.of (by simpa using hvl) ⟨ownMono htl.1 z1, fun i v hv => ownMono (htl.2.1 i v hv) z1, htl.2.2⟩ (fun i hi => gb_get hs xs i (by simpa using hi)))
    have B2 := Lib.hid (bnext B1.out g2)
    obtain ⟨Ao, co, rfl⟩ := vlen_own1 htl.1
    clear htl g1 g2 hvl
    go_wp2
    go_ret2
    exact ⟨_, by rw [HC.out]; rfl, RT.out, B2.out⟩
  · have EL := Lib.hid (gbT_1 (by rw [hC]; exact h0))
    have d1 : (C != 0) = true := by simpa using h0
    have d2 : (C == 0) = false := by simpa using h0
    go_enter Try.func25, Try.ntmps25
    go_wp2_with fail
    refine (l04Grouped_any p WF.out v v2 hs xs WZ.out WX.out _ S1.out S2.out h1 h2).mono ?_
    rintro e w1 ⟨rfl, g1⟩
    rw [hC]
    have B1 := Lib.hid (bnext G0.out g1)
    have zz := B1.out.size
    clear hC g1
    go_wp2
    go_ret2
    exact ⟨_, by rw [HC.out]; rfl, by rw [EL.out]; exact resT_empty w1 _ zz, B1.out.alloc zz _⟩

set_option maxHeartbeats 4000000 in
theorem groupBooks_any (p : Pg) (wf : p.Wf) (v v2 : Value) (hs : List Int) (xs : List Bk) (wz : ∀ z ∈ hs, (Lit.int .i64 z).wf = true) (wx : ∀ b ∈ xs, b.Wf) (w : World) (s1 : IntsOf .i64 w v hs) (s2 : SliceOf w v2 xs) (h1 : hs.length ≤ maxLen) (h2 : xs.length ≤ maxLen) :
    Calls Try.prog 26 #[.agg #[.int .i16 p.lo, .int .i16 p.st, .int .i16 p.bo], v, v2] w fun e w' => ∃ u, e = .returned (.tuple #[u, .int .i64 (gcC p hs xs)]) ∧ ResT w' w.heap.size w'.heap.size u (gbT p hs xs) ∧ Below w.heap.size w w' := by
  have G0 := Lib.hid (show Below w.heap.size w (w.alloc (.cells #[.int .i16 p.lo, .int .i16 p.st, .int .i16 p.bo] 40)) by go_grown)
  have WF := Lib.hid wf
  have WZ := Lib.hid wz
  have WX := Lib.hid wx
  have S1 := Lib.hid (s1.below G0.out)
  have S2 := Lib.hid (s2.below G0.out)
  clear wf wz wx s1 s2
  cases h3 : gaB p hs xs
  · have E := Lib.hid (show gcC p hs xs = 1 by unfold gcC; rw [h3]; rfl)
    have EL := Lib.hid (gbT_1 (p := p) (hs := hs) (xs := xs) (by rw [E.out]; decide))
    cases k1 : hsB p hs
    · clear h3
      go_enter Try.func26, Try.ntmps26
      go_wp2_with fail
      refine (validHeights_any p WF.out v hs WZ.out _ S1.out h1).mono ?_
      rintro e w1 ⟨rfl, g1⟩
      rw [k1]
      go_wp2
      go_ret2
      exact ⟨_, by rw [E.out]; rfl, by rw [EL.out]; exact resT_nil _ _, bnext G0.out g1⟩
    · have k2 : okB xs = false := by
        unfold gaB at h3
        rw [k1, Bool.true_and] at h3
        exact h3
      clear h3
      go_enter Try.func26, Try.ntmps26
      go_wp2_with fail
      refine (validHeights_any p WF.out v hs WZ.out _ S1.out h1).mono ?_
      rintro e w1 ⟨rfl, g1⟩
      rw [k1]
      go_wp2_with fail
      refine (validBooks_any v2 xs _ (S2.out.below g1) h2).mono ?_
      rintro e w2 ⟨rfl, g2⟩
      rw [k2]
      go_wp2
      go_ret2
      exact ⟨_, by rw [E.out]; rfl, by rw [EL.out]; exact resT_nil _ _, bnext (bnext G0.out g1) g2⟩
  · have H3 := Lib.hid h3
    obtain ⟨k1, k2⟩ := gaB_true h3
    have l6 := (hsB_len k1).2.2
    have l60 := okB_len k2
    clear h3
    go_enter Try.func26, Try.ntmps26
    go_wp2_with fail
    refine (validHeights_any p WF.out v hs WZ.out _ S1.out h1).mono ?_
    rintro e w1 ⟨rfl, g1⟩
    rw [k1]
    go_wp2_with fail
    refine (validBooks_any v2 xs _ (S2.out.below g1) h2).mono ?_
    rintro e w2 ⟨rfl, g2⟩
    rw [k2]
    clear k1 k2
    have B2 := Lib.hid (bnext (bnext G0.out g1) g2)
    have z2 := B2.out.size
    have S1 := Lib.hid (S1.out.below (bnext g1 g2))
    have S2 := Lib.hid (S2.out.below (bnext g1 g2))
    clear g1 g2
    go_wp2_with fail
    refine (groupsOf_any v v2 hs xs WX.out _ S1.out S2.out l6 l60).mono ?_
    rintro e w3 ⟨u3, z3, rfl, hor, g3⟩
    have B3 := Lib.hid (bnext B2.out g3)
    rcases hor with ⟨h6, rfl, rfl, htg⟩ | ⟨h6, rfl, rfl⟩
    · have E := Lib.hid (show gcC p hs xs = 0 by unfold gcC; rw [H3.out, h6]; rfl)
      have RT := Lib.hid (show ResT w3 w.heap.size w3.heap.size (.slice (some ⟨w2.heap.size, 0, none⟩) hs.length hs.length) (gbT p hs xs) by
        rw [gbT_0 E.out]
        obtain ⟨vs, q1, q2, q3⟩ := htg.resT l6 (t := (List.range hs.length).map (fun i => grP hs xs i xs.length)) (by simp) (fun i hi => gb_get hs xs i (by simpa using hi))
        exact ⟨vs, q1, ⟨ownMono q2.1 z2, fun i v hv => ownMono (q2.2.1 i v hv) z2, q2.2.2⟩, q3⟩)
      clear htg h6 g3
      go_wp2
      go_ret2
      exact ⟨_, by rw [E.out]; rfl, RT.out, B3.out⟩
    · have E := Lib.hid (show gcC p hs xs = 6 by unfold gcC; rw [H3.out, h6]; rfl)
      have EL := Lib.hid (gbT_1 (p := p) (hs := hs) (xs := xs) (by rw [E.out]; decide))
      clear h6 g3
      go_wp2
      go_ret2
      exact ⟨_, by rw [E.out]; rfl, by rw [EL.out]; exact resT_nil _ _, B3.out⟩
end Go.Proofs.Ytlphpajpjpohmab
