/- What is missing and what is foreign, whether the stock is the same, by the program: contracts. Condition: the three error variables hold three different errors of errors.New's make; at most 1048576 books, whose numbers lie within their kinds. -/
import Derived.Test.YtgfffbnodinkcabDoorStkK
import Derived.Test.YtgfffbnodinkcabDoorStkJ
namespace Go.Proofs.YtgfffbnodinkcabDoor
set_option linter.unusedSimpArgs false
set_option linter.unusedVariables false
set_option maxRecDepth 100000
open Go.RowKit Go.Sort

theorem slice_lt {w : World} {v : Value} {xs : List Bk} (h : SliceOf w v xs) (hp : 0 < xs.length) : ∀ g, v.ownBlock = some g → g < w.heap.size := by
  obtain ⟨A, c, rfl, h⟩ := h
  obtain ⟨g, o, rfl, hg, _⟩ := h hp
  intro k hk
  obtain rfl : g = k := by injection hk
  exact hg

theorem askS_or {xs : List Bk} (h : askS xs ≠ 0) : askS xs = 1 ∨ askS xs = 4 := by
  unfold askS at h ⊢
  by_cases h1 : okB xs = true
  · rw [if_pos h1] at h ⊢
    by_cases hf : firstOut xs < 0
    · rw [if_pos hf] at h; exact absurd rfl h
    · exact .inr (by rw [if_neg hf])
  · exact .inl (by rw [if_neg h1])
theorem askS_err {xs : List Bk} (h : ¬ askS xs = 0) (s i : Addr) : ∃ p : Addr, errV xs s i = .iface 134 (.pointer (some p)) := by
  rcases askS_or h with h | h
  · exact ⟨i, by unfold errV; rw [h]; rfl⟩
  · exact ⟨s, by unfold errV; rw [h]; rfl⟩
theorem codeErr_any {xs : List Bk} (h : ¬ askS xs = 0) (w : World) (s i y : Addr) (he : Errs w s i y) : Calls Tryd.prog 59 #[errV xs s i] w fun e w' => e = .returned (.int .i64 (askS xs)) ∧ w' = w := by
  rcases askS_or h with h | h
  · have E : errV xs s i = .iface 134 (.pointer (some i)) := by unfold errV; rw [h]; rfl
    rw [E, h]
    exact codeOf_invalid w s i y he
  · have E : errV xs s i = .iface 134 (.pointer (some s)) := by unfold errV; rw [h]; rfl
    rw [E, h]
    exact codeOf_state w s i y he

set_option maxHeartbeats 2000000 in
theorem compare_any (v0 v1 : Value) (xs ys : List Bk) (wf : ∀ b ∈ xs, b.Wf) (wfy : ∀ b ∈ ys, b.Wf) (w : World) (s i y : Addr) (he : Errs w s i y) (hs : SliceOf w v0 xs) (hs1 : SliceOf w v1 ys) (hn : xs.length ≤ 1048576) (hny : ys.length ≤ 1048576) :
    Calls Tryd.prog 36 #[v0, v1] w fun e w' => ∃ u1 u2, e = .returned (.tuple #[u1, u2, .int .i64 (boC xs ys)]) ∧ ResB w' w.heap.size u1 (miR xs ys) ∧ ResB w' w.heap.size u2 (foR xs ys) ∧ Below w.heap.size w w' := by
  have hm : xs.length ≤ maxLen := by unfold maxLen; omega
  have hmy : ys.length ≤ maxLen := by unfold maxLen; omega
  have LV := Lib.hid (fun W (h : SliceOf W v1 ys) => validBooks_any v1 ys W h hmy)
  have LC := Lib.hid (fun W g (h0 : Below w.heap.size w W) (hv : W.cell? ⟨g, 0, none⟩ = some v0) (hg : g < W.heap.size) => checkSorted_any v0 xs wf W g s i y (he.below h0) hv hg (hs.below h0) hn hm)
  have HE := Lib.hid he
  have S0 := Lib.hid hs
  have S1 := Lib.hid hs1
  have WF := Lib.hid wf
  have WY := Lib.hid wfy
  have isi : Tryd.prog.isIface 76 = true := by kernel_rfl
  have en := fun (X : World) (v : Value) => run_neq_iface_nil (P := Tryd.prog) (w := X) 76 isi 134 v
  have en0 := fun (X : World) => run_neq_nil_nil_at (P := Tryd.prog) (w := X) 76 isi
  obtain ⟨A0, c0, rfl, -⟩ := hs
  obtain ⟨A1, c1, rfl, -⟩ := hs1
  clear he wf wfy hm hmy
  cases hky : okB ys
  · have E := Lib.hid (show boC xs ys = 1 by unfold boC; rw [hky]; rfl)
    have E1 := Lib.hid (show miR xs ys = [] by unfold miR; rw [E.out]; rfl)
    have E2 := Lib.hid (show foR xs ys = [] by unfold foR; rw [E.out]; rfl)
    rw [hky] at LV
    clear hky
    go_enter Tryd.func36, Tryd.ntmps36
    go_wp2_with fail
    refine (LV.out _ S1.out).mono ?_
    rintro e w1 ⟨rfl, h1⟩
    go_wp2
    go_ret3
    exact ⟨_, _, by rw [E.out]; rfl, by rw [E1.out]; exact .inl ⟨rfl, rfl⟩, by rw [E2.out]; exact .inl ⟨rfl, rfl⟩, h1⟩
  · have E := Lib.hid (show boC xs ys = askS xs by unfold boC; rw [hky]; rfl)
    rw [hky] at LV
    clear hky
    by_cases ha : askS xs = 0
    · have E0 := Lib.hid (show boC xs ys = 0 by rw [E.out, ha])
      have E1 := Lib.hid (show miR xs ys = more xs ys by unfold miR; rw [E0.out]; rfl)
      have E2 := Lib.hid (show foR xs ys = more ys xs by unfold foR; rw [E0.out]; rfl)
      have EV := Lib.hid (show errV xs s i = .nilIface by unfold errV; rw [ha]; rfl)
      clear ha E
      go_enter Tryd.func36, Tryd.ntmps36
      go_wp2_with fail
      refine (LV.out _ S1.out).mono ?_
      rintro e w1 ⟨rfl, h1⟩
      have B1 := Lib.hid h1
      have GX := Lib.hid (h1.alloc h1.size (.cells #[.slice A0 xs.length c0] 24))
      have BX := Lib.hid (heap_alloc_new w1 (.cells #[.slice A0 xs.length c0] 24))
      have YX := Lib.hid (show w1.heap.size < (w1.alloc (.cells #[.slice A0 xs.length c0] 24)).heap.size by simp)
      clear h1
      go_wp2_with fail
      generalize World.alloc w1 _ = W1 at GX BX YX ⊢
      refine (LC.out W1 w1.heap.size GX.out (cell_of_row W1 _ 0 _ _ _ BX.out) YX.out).mono ?_
      rintro e w2 ⟨rfl, h2⟩
      rw [EV.out]
      have B2 := Lib.hid (bnext GX.out h2)
      clear h2
      go_wp2_with fail
      refine (stockOf_any _ ys WY.out _ (S1.out.below B2.out) hny).mono ?_
      rintro e w3 ⟨m1, n1, rfl, hm1, hk1, h3⟩
      have K1 := Lib.hid hk1
      have B3 := Lib.hid (bnext B2.out h3)
      have z3 := B3.out.size
      have z2 := B2.out.size
      have S03 := Lib.hid (S0.out.below B3.out)
      have S13 := Lib.hid (S1.out.below B3.out)
      clear hk1 h3
      go_wp2_with fail
      refine (notTaken_any _ xs ys WF.out m1 n1 _ S03.out K1.out (fun hp g hg => by have := slice_lt S0.out hp g hg; omega) hn hny).mono ?_
      rintro e w4 ⟨u1, rfl, hu1, g4⟩
      have U1 := Lib.hid hu1
      have B4 := Lib.hid (B3.out.grown g4 z3 (fun k hk => by injection hk with hk; omega))
      have z4 := B4.out.size
      have z34 := g4.size
      clear hu1 g4
      go_wp2_with fail
      refine (stockOf_any _ xs WF.out _ (S0.out.below B4.out) hn).mono ?_
      rintro e w5 ⟨m2, n2, rfl, hm2, hk2, h5⟩
      have K2 := Lib.hid hk2
      have U15 := Lib.hid (U1.out.below h5)
      have B5 := Lib.hid (bnext B4.out h5)
      have z5 := B5.out.size
      have z45 := h5.size
      clear hk2 h5
      go_wp2_with fail
      refine (notTaken_any _ ys xs WY.out m2 n2 _ (S1.out.below B5.out) K2.out (fun hp g hg => by have := slice_lt S1.out hp g hg; omega) hny hn).mono ?_
      rintro e w6 ⟨u2, rfl, hu2, g6⟩
      have U2 := Lib.hid (hu2.mono z5)
      have U16 := Lib.hid ((U15.out.other g6 (fun k hk e => by have := (U1.out.lt k hk).2; injection e with e; omega)).mono z3)
      have B6 := Lib.hid (B5.out.grown g6 z5 (fun k hk => by injection hk with hk; omega))
      clear hu2 g6
      go_wp2
      go_ret3
      exact ⟨_, _, by rw [E0.out]; rfl, by rw [E1.out]; exact U16.out, by rw [E2.out]; exact U2.out, B6.out⟩
    · have E1 := Lib.hid (show miR xs ys = [] by unfold miR; rw [E.out, if_neg ha])
      have E2 := Lib.hid (show foR xs ys = [] by unfold foR; rw [E.out, if_neg ha])
      have EV := Lib.hid (askS_err ha s i)
      have LK := Lib.hid (fun W (h : Errs W s i y) => codeErr_any ha W s i y h)
      have E0 := Lib.hid E.out
      clear ha E
      generalize askS xs = q at *
      obtain ⟨ev, hev⟩ : ∃ ev, ev = errV xs s i := ⟨_, rfl⟩
      rw [← hev] at LC LK EV
      clear hev
      obtain ⟨p, rfl⟩ := EV.out
      clear EV
      go_enter Tryd.func36, Tryd.ntmps36
      go_wp2_with fail
      refine (LV.out _ S1.out).mono ?_
      rintro e w1 ⟨rfl, h1⟩
      have B1 := Lib.hid h1
      have GX := Lib.hid (h1.alloc h1.size (.cells #[.slice A0 xs.length c0] 24))
      have BX := Lib.hid (heap_alloc_new w1 (.cells #[.slice A0 xs.length c0] 24))
      have YX := Lib.hid (show w1.heap.size < (w1.alloc (.cells #[.slice A0 xs.length c0] 24)).heap.size by simp)
      clear h1
      go_wp2_with fail
      generalize World.alloc w1 _ = W1 at GX BX YX ⊢
      refine (LC.out W1 w1.heap.size GX.out (cell_of_row W1 _ 0 _ _ _ BX.out) YX.out).mono ?_
      rintro e w2 ⟨rfl, h2⟩
      have B2 := Lib.hid (bnext GX.out h2)
      clear h2
      go_wp2_with fail
      refine (LK.out _ (HE.out.below B2.out)).mono ?_
      rintro e w' ⟨rfl, rfl⟩
      go_wp2
      go_ret3
      exact ⟨_, _, by rw [E0.out]; rfl, by rw [E1.out]; exact .inl ⟨rfl, rfl⟩, by rw [E2.out]; exact .inl ⟨rfl, rfl⟩, B2.out⟩
end Go.Proofs.YtgfffbnodinkcabDoor
