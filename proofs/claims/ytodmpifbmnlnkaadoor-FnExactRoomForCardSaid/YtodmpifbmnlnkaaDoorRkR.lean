/- Room for a book in a rack, by the model: contracts. Condition: no longer than a slice can be, numbers within their kinds. -/
import Derived.Test.YtodmpifbmnlnkaaDoorRkJ
import Derived.Test.YtodmpifbmnlnkaaDoorPlaceS
namespace Go.Proofs.YtodmpifbmnlnkaaDoor
set_option linter.unusedSimpArgs false
set_option linter.unusedVariables false
set_option maxRecDepth 100000
open Go.RowKit Go.Sort

theorem none_of {xs : List Bk} (h : firstOut xs < 0) : NoneTo xs xs.length := by
  rcases none_or xs xs.length with h1 | ⟨k, k1, k2, k3, k4⟩
  · exact h1
  · rw [firstOut_at k3 k1 k2 k4] at h; omega
def rIdx (ps : List Pl) (b : Bk) : Nat := (bks ps).findIdx (fun x => decide (usual b x < 0))
theorem rIdx_le (ps : List Pl) (b : Bk) : rIdx ps b ≤ ps.length := by
  have := List.findIdx_le_length (p := fun x => decide (usual b x < 0)) (xs := bks ps)
  rw [bks_length] at this
  exact this
theorem parts_of {ps : List Pl} {b : Bk} (wf : ∀ x ∈ ps, x.Wf) (wb : b.Wf) (hno : NoneTo (bks ps) ps.length) : Parts b ps (rIdx ps b) := by
  have wk := bks_wf wf
  have hno' : NoneTo (bks ps) (bks ps).length := by rw [bks_length]; exact hno
  refine ⟨rIdx_le ps b, fun i hi hic => ?_, fun i hi hic => ?_⟩
  · have := List.not_of_lt_findIdx (p := fun x => decide (usual b x < 0)) (xs := bks ps) hic
    rw [bks_get] at this
    simpa using this
  · have hl : rIdx ps b < (bks ps).length := by rw [bks_length]; omega
    have h1 : decide (usual b (bks ps)[rIdx ps b] < 0) = true := List.findIdx_getElem (p := fun x => decide (usual b x < 0)) (xs := bks ps) (w := hl)
    have h1 : usual b (bks ps)[rIdx ps b] < 0 := by simpa using h1
    have hi' : i < (bks ps).length := by rw [bks_length]; exact hi
    have h2 := sorted_le wk hno' hl hi' hic
    rw [usual_lt _ _ wb (wk _ (List.getElem_mem _))] at h1
    have h3 : usual b (bks ps)[i] < 0 := by rw [usual_lt _ _ wb (wk _ (List.getElem_mem _))]; omega
    rw [bks_get] at h3
    exact h3

set_option maxHeartbeats 4000000 in
theorem l05Index_any (r : Rk) (hv : Value) (wf : r.Wf) (b : Bk) (wb : b.Wf) (g o B : Nat) (w : World) (ha : RackAt w g o r hv) (hb : BkAt w B 0 b) (hk : rkB r = true) :
    Calls Tryd.prog 68 #[.pointer (some ⟨g, o, none⟩), .pointer (some ⟨B, 0, none⟩)] w fun e w' => e = .returned (.int .i64 (rIdx r.ps b : Int)) ∧ Below w.heap.size w w' := by
  have HB := Lib.hid hb
  have WF := Lib.hid wf
  have h60 := rkB_len hk
  have NO := Lib.hid (none_of (rkB_of hk).2.2.2)
  have C := Lib.hid (l05Books_any r hv g o w ha h60)
  clear hb wf hk ha
  go_enter Tryd.func68, Tryd.ntmps68
  go_wp2_with fail
  refine C.out.mono ?_
  rintro e w1 ⟨u, rfl, hr, h1⟩
  have HR := Lib.hid hr
  have H1 := Lib.hid h1
  clear hr h1
  go_wp2_with fail
  refine (l01Place_any _ (bks r.ps) (bks_wf WF.out.ps) b wb B _ HR.out.slice (by rw [bks_length]; exact h60) NO.out (HB.out.next H1.out)).mono ?_
  rintro e w2 ⟨rfl, h2⟩
  go_wp2
  go_ret
  exact ⟨rfl, bnext H1.out h2⟩

def rmL (r : Rk) (m : Nat) : Int := lstP r.ps m
def rmN (r : Rk) (m : Nat) : Int := rmTo r.n r.ps m - lstP r.ps m
set_option maxHeartbeats 4000000 in
theorem l05Room_any (r : Rk) (hv : Value) (wf : r.Wf) (m : Nat) (hm : m ≤ r.ps.length) (g o : Nat) (w : World) (ha : RackAt w g o r hv) (ml : r.ps.length ≤ maxLen) :
    Calls Tryd.prog 67 #[.pointer (some ⟨g, o, none⟩), .int .i64 (m : Int)] w fun e w' => e = .returned (.tuple #[.int .i64 (rmL r m), .int .i64 (rmN r m)]) ∧ w = w' := by
  have c0 := ha.n
  have c1 := ha.h
  have WF := Lib.hid wf
  obtain ⟨A, c, rfl, hat⟩ := ha.ps
  have HT := Lib.hid hat
  obtain ⟨bn1, bn2⟩ := wf.n
  unfold maxLen at ml
  clear ha wf hat
  by_cases h0 : m = 0
  · have a1 : ¬ (0 : Int) < (m : Int) := by omega
    have a2 : ¬ 0 < m := by omega
    have EL := Lib.hid (show rmL r m = 0 by unfold rmL; rw [h0]; rfl)
    by_cases h1 : m < r.ps.length
    · obtain ⟨ga, oa, rfl, hga, hat⟩ := HT.out (by omega)
      obtain ⟨p0, -⟩ := plAt_some hat h1
      obtain ⟨wp1, wp2⟩ := (WF.out.ps _ (List.getElem_mem h1)).p
      have b1 : (m : Int) < (r.ps.length : Int) := by omega
      have b2 : (0 : Int) ≤ (m : Int) := by omega
      have EN := Lib.hid (show rmN r m = r.ps[m].p - 0 by unfold rmN rmTo; rw [if_pos h1, getD_pl h1, show lstP r.ps m = 0 by rw [h0]; rfl])
      clear hat h0
      go_enter Tryd.func67, Tryd.ntmps67
      go_wp2
      go_ret2
      exact ⟨by rw [EL.out, EN.out]; simp, rfl⟩
    · have b1 : ¬ (m : Int) < (r.ps.length : Int) := by omega
      have EN := Lib.hid (show rmN r m = r.n - 0 by unfold rmN rmTo; rw [if_neg h1, show lstP r.ps m = 0 by rw [h0]; rfl])
      clear h0
      go_enter Tryd.func67, Tryd.ntmps67
      go_wp2
      go_ret2
      exact ⟨by rw [EL.out, EN.out]; simp, rfl⟩
  · obtain ⟨k, hk⟩ : ∃ k, m = k + 1 := ⟨m - 1, by omega⟩
    have hkl : k < r.ps.length := by omega
    have a1 : (0 : Int) < (m : Int) := by omega
    have a2 : 0 < m := by omega
    have n1 : IntKind.i64.wrap ((m : Int) - 1) = (k : Int) := by rw [show (m : Int) - 1 = (k : Int) by omega]; exact IntWalk.i64_in _ (by omega)
    have n2 : (m : Int) - 1 = (k : Int) := by omega
    have k0 : (0 : Int) ≤ (k : Int) := by omega
    have k1 : (k : Int) < (r.ps.length : Int) := by omega
    obtain ⟨ga, oa, rfl, hga, hat⟩ := HT.out (by omega)
    obtain ⟨q0, -⟩ := plAt_some hat hkl
    obtain ⟨wq1, wq2⟩ := (WF.out.ps _ (List.getElem_mem hkl)).p
    have EL := Lib.hid (show rmL r m = r.ps[k].p + 1 by unfold rmL; rw [hk, lstP_succ hkl])
    by_cases h1 : m < r.ps.length
    · obtain ⟨p0, -⟩ := plAt_some hat h1
      obtain ⟨wp1, wp2⟩ := (WF.out.ps _ (List.getElem_mem h1)).p
      have b1 : (m : Int) < (r.ps.length : Int) := by omega
      have b2 : (0 : Int) ≤ (m : Int) := by omega
      have EN := Lib.hid (show rmN r m = r.ps[m].p - (r.ps[k].p + 1) by unfold rmN rmTo; rw [if_pos h1, getD_pl h1, show lstP r.ps m = r.ps[k].p + 1 by rw [hk, lstP_succ hkl]])
      clear hat h0 hk
      generalize r.ps[m].p = x at *
      generalize r.ps[k].p = y at *
      go_enter Tryd.func67, Tryd.ntmps67
      go_wp2
      go_ret2
      exact ⟨by rw [EL.out, EN.out]; rfl, rfl⟩
    · have b1 : ¬ (m : Int) < (r.ps.length : Int) := by omega
      have EN := Lib.hid (show rmN r m = r.n - (r.ps[k].p + 1) by unfold rmN rmTo; rw [if_neg h1, show lstP r.ps m = r.ps[k].p + 1 by rw [hk, lstP_succ hkl]])
      clear hat h0 hk
      generalize r.ps[k].p = y at *
      go_enter Tryd.func67, Tryd.ntmps67
      go_wp2
      go_ret2
      exact ⟨by rw [EL.out, EN.out]; rfl, rfl⟩
noncomputable def rfC (r : Rk) (b : Bk) : Int := if rkB r && bookB b then 0 else 1
noncomputable def rfA (r : Rk) (b : Bk) : Int := if rkB r && bookB b then rmL r (rIdx r.ps b) else 0
noncomputable def rfN (r : Rk) (b : Bk) : Int := if rkB r && bookB b then rmN r (rIdx r.ps b) else 0
theorem rf_cases (r : Rk) (b : Bk) : (rkB r = false ∧ rfA r b = 0 ∧ rfN r b = 0 ∧ rfC r b = 1) ∨ (rkB r = true ∧ bookB b = false ∧ rfA r b = 0 ∧ rfN r b = 0 ∧ rfC r b = 1) ∨ (rkB r = true ∧ bookB b = true ∧ rfA r b = rmL r (rIdx r.ps b) ∧ rfN r b = rmN r (rIdx r.ps b) ∧ rfC r b = 0) := by
  unfold rfA rfN rfC
  cases h1 : rkB r
  · exact .inl ⟨rfl, rfl, rfl, rfl⟩
  · cases h2 : bookB b
    · exact .inr (.inl ⟨rfl, rfl, rfl, rfl, rfl⟩)
    · exact .inr (.inr ⟨rfl, rfl, rfl, rfl, rfl⟩)
set_option maxHeartbeats 4000000 in
theorem specRoomFor_any (r : Rk) (hv : Value) (wf : r.Wf) (b : Bk) (wb : b.Wf) (w : World) (hs : PlsOf w hv r.ps) (ml : r.ps.length ≤ maxLen) :
    Calls Tryd.prog 35 #[.agg #[.int .i16 r.n, hv], .agg #[.int .i16 b.c, .int .u8 b.m0, .int .u8 b.m1, .int .u8 b.m2, .int .i16 b.v, .int .i16 b.wi, .int .i16 b.hi, .int .i16 b.we]] w fun e w' => e = .returned (.tuple #[.int .i64 (rfA r b), .int .i64 (rfN r b), .int .i64 (rfC r b)]) ∧ Below w.heap.size w w' := by
  have ra := RackAt.new 30 hs
  have ba := bkAt_new (w.alloc (.cells #[.int .i16 r.n, hv] 30)) b 51
  have RA := Lib.hid (ra.below ((Below.refl _ _).alloc (Nat.le_refl _) (.cells #[.int .i16 b.c, .int .u8 b.m0, .int .u8 b.m1, .int .u8 b.m2, .int .i16 b.v, .int .i16 b.wi, .int .i16 b.hi, .int .i16 b.we] 51)))
  have BA := Lib.hid (by rw [World.size_alloc] at ba; exact ba)
  have WF := Lib.hid wf
  have WB := Lib.hid wb
  have G0 := Lib.hid (show Below w.heap.size w ((w.alloc (.cells #[.int .i16 r.n, hv] 30)).alloc (.cells #[.int .i16 b.c, .int .u8 b.m0, .int .u8 b.m1, .int .u8 b.m2, .int .i16 b.v, .int .i16 b.wi, .int .i16 b.hi, .int .i16 b.we] 51)) by go_grown)
  obtain ⟨A, c, rfl, -⟩ := hs
  clear wf wb ra ba
  rcases rf_cases r b with ⟨hk, e1, e2, e3⟩ | ⟨hk, hb, e1, e2, e3⟩ | ⟨hk, hb, e1, e2, e3⟩
  · have E := Lib.hid (And.intro e1 (And.intro e2 e3))
    clear e1 e2 e3
    go_enter Tryd.func35, Tryd.ntmps35
    go_wp2_with fail
    generalize (w.alloc _).alloc _ = w0 at G0 RA BA ⊢
    refine (l05Ok_any r _ WF.out _ _ _ RA.out ml).mono ?_
    rintro e w1 ⟨rfl, h1⟩
    rw [hk]
    clear hk
    go_wp2
    go_ret3
    exact ⟨by rw [E.out.1, E.out.2.1, E.out.2.2]; rfl, bnext G0.out h1⟩
  · have E := Lib.hid (And.intro e1 (And.intro e2 e3))
    clear e1 e2 e3
    go_enter Tryd.func35, Tryd.ntmps35
    go_wp2_with fail
    generalize (w.alloc _).alloc _ = w0 at G0 RA BA ⊢
    refine (l05Ok_any r _ WF.out _ _ _ RA.out ml).mono ?_
    rintro e w1 ⟨rfl, h1⟩
    rw [hk]
    clear hk
    go_wp2_with fail
    refine (l01BookAt b WB.out _ _ _ (BA.out.next h1)).mono ?_
    rintro e w2 ⟨rfl, h2⟩
    rw [hb]
    clear hb
    go_wp2
    go_ret3
    exact ⟨by rw [E.out.1, E.out.2.1, E.out.2.2]; rfl, bnext (bnext G0.out h1) h2⟩
  · have E := Lib.hid (And.intro e1 (And.intro e2 e3))
    have HK := Lib.hid hk
    clear e1 e2 e3
    go_enter Tryd.func35, Tryd.ntmps35
    go_wp2_with fail
    generalize (w.alloc _).alloc _ = w0 at G0 RA BA ⊢
    refine (l05Ok_any r _ WF.out _ _ _ RA.out ml).mono ?_
    rintro e w1 ⟨rfl, h1⟩
    rw [hk]
    clear hk
    go_wp2_with fail
    refine (l01BookAt b WB.out _ _ _ (BA.out.next h1)).mono ?_
    rintro e w2 ⟨rfl, h2⟩
    rw [hb]
    clear hb
    have RA2 := Lib.hid ((RA.out.below h1).below h2)
    have BA2 := Lib.hid ((BA.out.next h1).next h2)
    have G2 := Lib.hid (bnext (bnext G0.out h1) h2)
    go_wp2_with fail
    refine (l05Index_any r _ WF.out b WB.out _ _ _ _ RA2.out BA2.out HK.out).mono ?_
    rintro e w3 ⟨rfl, h3⟩
    go_wp2_with fail
    refine (l05Room_any r _ WF.out (rIdx r.ps b) (rIdx_le _ _) _ _ _ (RA2.out.below h3) ml).mono ?_
    rintro e w' ⟨rfl, rfl⟩
    go_wp2
    go_ret3
    exact ⟨by rw [E.out.1, E.out.2.1, E.out.2.2]; rfl, bnext G2.out h3⟩
end Go.Proofs.YtodmpifbmnlnkaaDoor
