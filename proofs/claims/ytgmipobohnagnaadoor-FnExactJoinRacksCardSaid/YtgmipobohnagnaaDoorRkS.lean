/- The model's look at a rack: which are valid; the list of its books: contracts. Condition: no longer than a slice can be, numbers within their kinds. -/
import Derived.Test.YtgmipobohnagnaaDoorRkQ
import Derived.Test.YtgmipobohnagnaaDoorFields
import Derived.Test.YtgmipobohnagnaaDoorResC
import Derived.IntWalk
namespace Go.Proofs.YtgmipobohnagnaaDoor
set_option linter.unusedSimpArgs false
set_option linter.unusedVariables false
set_option maxRecDepth 100000
open Go.RowKit

/-- A rack lies from cell o of block g on. -/
structure RackAt (w : World) (g o : Nat) (r : Rk) (hv : Value) : Prop where
  low : g < w.heap.size
  n : w.cell? ⟨g, o, none⟩ = some (.int .i16 r.n)
  h : w.cell? ⟨g, o + 1, none⟩ = some hv
  ps : PlsOf w hv r.ps
theorem RackAt.below {w w' : World} {g o : Nat} {r : Rk} {hv : Value} (h : RackAt w g o r hv) (hb : Below w.heap.size w w') : RackAt w' g o r hv :=
  ⟨Nat.lt_of_lt_of_le h.low hb.size, (hb.cell (p := ⟨g, o, none⟩) h.low).trans h.n, (hb.cell (p := ⟨g, o + 1, none⟩) h.low).trans h.h, h.ps.below hb⟩
theorem RackAt.new {w : World} {r : Rk} {hv : Value} (t : TypeId) (h : PlsOf w hv r.ps) : RackAt (w.alloc (.cells #[.int .i16 r.n, hv] t)) w.heap.size 0 r hv := by
  have e := heap_alloc_new w (.cells #[.int .i16 r.n, hv] t)
  refine ⟨by simp, ?_, ?_, h.below ((Below.refl _ _).alloc (Nat.le_refl _) _)⟩ <;> (rw [cell_of_row _ _ _ _ _ _ e]; rfl)
theorem plBk {w : World} {g o : Nat} {xs : List Pl} (h : AtN Pl.cells w g o xs) (hg : g < w.heap.size) {i : Nat} (hi : i < xs.length) : BkAt w g (o + i * 9 + 1) xs[i].b := by
  obtain ⟨_, p1, p2, p3, p4, p5, p6, p7, p8⟩ := plAt_some h hi
  exact ⟨hg, p1, p2, p3, p4, p5, p6, p7, p8⟩

theorem l05Places_any (n : Int) (w : World) : Calls Tryd.prog 23 #[.int .i64 n] w fun e w' => e = .returned (.bool (inB n 1 60)) ∧ w = w' := by
  go_enter Tryd.func23, Tryd.ntmps23
  go_wp2_with fail
  refine (l00In_any _ _ _ _).mono ?_
  rintro e w' ⟨rfl, rfl⟩
  go_wp2
  go_ret
  exact ⟨rfl, rfl⟩
theorem l01BookAt (b : Bk) (hb : b.Wf) (g o : Nat) (w : World) (h : BkAt w g o b) :
    Calls Tryd.prog 25 #[.pointer (some ⟨g, o, none⟩)] w fun e w' => e = .returned (.bool (bookB b)) ∧ Below w.heap.size w w' := by
  obtain ⟨h0, h1, h2, h3, h4, h5, h6, h7, h8⟩ := h
  exact l01Book_any b hb g o w h1 h2 h3 h4 h5 h6 h7 h8 h0

theorem rk_round {r : Rk} {k : Nat} (hk : k < r.ps.length) (hp : PosTo r.n r.ps k) (hno : NoneTo (bks r.ps) k) :
    inB r.ps[k].p 0 (r.n - 1) = true → bookB r.ps[k].b = true → (∀ m (e : k = m + 1), (r.ps[m]'(by omega)).p < r.ps[k].p ∧ ¬ usual r.ps[k].b (r.ps[m]'(by omega)).b < 0) →
    PosTo r.n r.ps (k + 1) ∧ NoneTo (bks r.ps) (k + 1) := by
  intro h1 h2 h3
  have hi : 0 ≤ r.ps[k].p ∧ r.ps[k].p ≤ r.n - 1 := by unfold inB at h1; simpa using h1
  cases k with
  | zero => exact ⟨hp.succ hk (by rw [lstP_zero]; exact hi.1) hi.2, fun i a b => absurd b (by omega)⟩
  | succ m =>
    obtain ⟨a, b⟩ := h3 m rfl
    refine ⟨hp.succ hk (by rw [lstP_succ (by omega)]; omega) hi.2, hno.succ ?_⟩
    rw [outAt_eq (by rw [bks_length]; exact hk), bks_get, bks_get]
    exact decide_eq_false b

set_option maxHeartbeats 8000000 in
theorem l05Ok_any (r : Rk) (hv : Value) (wf : r.Wf) (g o : Nat) (w : World) (ha : RackAt w g o r hv) (ml : r.ps.length ≤ maxLen) :
    Calls Tryd.prog 12 #[.pointer (some ⟨g, o, none⟩)] w fun e w' => e = .returned (.bool (rkB r)) ∧ Below w.heap.size w w' := by
  have HA := Lib.hid ha
  have WF := Lib.hid wf
  obtain ⟨A, c, rfl, hat⟩ := ha.ps
  have HT := Lib.hid hat
  obtain ⟨bn1, bn2⟩ := wf.n
  have zg := ha.low
  unfold maxLen at ml
  have c0 := ha.n
  have c1 := ha.h
  clear ha wf hat
  cases hn : inB r.n 1 60
  · have E := Lib.hid (rkB_n hn)
    go_enter Tryd.func12, Tryd.ntmps12
    go_wp2_with fail
    refine (l05Places_any _ _).mono ?_
    rintro e w' ⟨rfl, rfl⟩
    rw [hn]
    go_wp2
    go_ret
    exact ⟨by rw [E.out]; rfl, Below.refl _ _⟩
  · have HN := Lib.hid hn
    go_enter Tryd.func12, Tryd.ntmps12
    go_wp2_with fail
    refine (l05Places_any _ _).mono ?_
    rintro e w' ⟨rfl, rfl⟩
    rw [hn]
    clear hn
    go_wp2
    clear c0 c1
    go_loopw [3] (fun i_ wr => ∃ (k : Nat) (x : Int), x = k ∧ k ≤ r.ps.length ∧ i_ = .int .i64 x ∧ PosTo r.n r.ps k ∧ AllTo (bks r.ps) k ∧ NoneTo (bks r.ps) k ∧ Below w.heap.size w wr) (fun i_ _ => r.ps.length - (intOf i_).toNat)
    case atStart => exact ⟨0, 0, rfl, Nat.zero_le _, rfl, posTo_zero _ _, fun i hi h => absurd h (Nat.not_lt_zero _), fun i h1 h2 => absurd h2 (Nat.not_lt_zero _), Below.refl _ _⟩
    case round =>
      obtain ⟨k, x, hx, hk, rfl, hp, hal, hno, hb⟩ := hrel
      have HP := Lib.hid hp
      have HL := Lib.hid hal
      have HO := Lib.hid hno
      have HB := Lib.hid hb
      have c0 := (HA.out.below hb).n
      have c1 := (HA.out.below hb).h
      have zw := hb.size
      clear hp hal hno hb
      by_cases hlt : k < r.ps.length
      · have hlt' := hlt
        have hltx : x < (r.ps.length : Int) := by omega
        have hx0 : 0 ≤ x := by omega
        obtain ⟨ga, oa, rfl, hga, hat⟩ := HT.out (by omega)
        have AT := Lib.hid (hat.below HB.out hga)
        have zga := Nat.lt_of_lt_of_le hga zw
        obtain ⟨p0, -⟩ := plAt_some AT.out hlt
        have wk := WF.out.ps _ (List.getElem_mem hlt)
        obtain ⟨wp1, wp2⟩ := wk.p
        have WB := Lib.hid wk.b
        have BA := Lib.hid (plBk AT.out zga hlt)
        clear hat wk
        have xn : x.toNat = k := by omega
        cases h1 : inB r.ps[k].p 0 (r.n - 1)
        · have E := Lib.hid (rkB_spec_bad_at hlt HP.out h1)
          subst hx
          go_wp2_with fail
          refine (l00In_any _ _ _ _).mono ?_
          rintro e w' ⟨rfl, rfl⟩
          rw [h1]
          clear h1
          go_wp2
          go_ret
          exact ⟨by rw [E.out]; rfl, HB.out⟩
        · have H1 := Lib.hid h1
          subst hx
          go_wp2_with fail
          refine (l00In_any _ _ _ _).mono ?_
          rintro e w' ⟨rfl, rfl⟩
          rw [h1]
          clear h1
          go_wp2_with fail
          refine (l01BookAt _ WB.out _ _ _ BA.out).mono ?_
          rintro e w1 ⟨rfl, g1⟩
          cases h2 : bookB r.ps[k].b
          · have E := Lib.hid (rkB_spec_bad_book hlt h2)
            clear h2
            go_wp2
            go_ret
            exact ⟨by rw [E.out]; rfl, bnext HB.out g1⟩
          · have H2 := Lib.hid h2
            clear h2
            clear p0
            have c0 := (HA.out.below (bnext HB.out g1)).n
            have c1 := (HA.out.below (bnext HB.out g1)).h
            have AT1 := Lib.hid (AT.out.below g1 zga)
            have zga1 : ga < w1.heap.size := Nat.lt_of_lt_of_le zga g1.size
            have zg1 : g < w1.heap.size := Nat.lt_of_lt_of_le zg (Nat.le_trans zw g1.size)
            have HB1 := Lib.hid (bnext HB.out g1)
            have c1 := belowBy_cell zg1 c1
            rcases Nat.eq_zero_or_pos k with hk0 | hk0
            · have RR := Lib.hid (rk_round hlt HP.out HO.out H1.out H2.out (fun m e => absurd e (by omega)))
              have d0 : decide ((0 : Int) < (k : Int)) = false := by simp; omega
              have d1 : ¬ (0 : Int) < (k : Int) := by omega
              have d3 : decide (0 < k) = false := by simp; omega
              have d4 : ¬ 0 < k := by omega
              clear hk0 c0
              go_wp2
              refine wp_region_below (by kernel_rfl) (by kernel_rfl) ?_
              repeat (first | go_big_quiet_step (fail) | quiet_step (fail))
              refine wpQuiet_nil ?_
              rintro wq ⟨⟨_, hq⟩, rfl⟩
              go_wp2
              go_roundw
              case rel => exact ⟨k + 1, (k : Int) + 1, by omega, by omega, by go_num, RR.out.1, HL.out.succ (by rw [bks_length]; exact hlt) (by rw [bks_get]; exact H2.out), RR.out.2, bnext HB1.out hq⟩
              case measure => simp [intOf]; omega
            · obtain ⟨m, hm⟩ : ∃ m, k = m + 1 := ⟨k - 1, by omega⟩
              have hml : m < r.ps.length := by omega
              have HM := Lib.hid hm
              have d0 : decide ((0 : Int) < (k : Int)) = true := by simp; omega
              have d1 : (0 : Int) < (k : Int) := by omega
              have d3 : decide (0 < k) = true := by simp; omega
              have d4 : 0 < k := by omega
              have n1 : IntKind.i64.wrap ((k : Int) - 1) = (m : Int) := by rw [show (k : Int) - 1 = (m : Int) by omega]; exact IntWalk.i64_in _ (by omega)
              have n2 : (k : Int) - 1 = (m : Int) := by omega
              have m0 : (0 : Int) ≤ (m : Int) := by omega
              have m1 : (m : Int) < (r.ps.length : Int) := by omega
              have wm := WF.out.ps _ (List.getElem_mem hml)
              obtain ⟨wq1, wq2⟩ := wm.p
              have WM := Lib.hid wm.b
              obtain ⟨q0, -⟩ := plAt_some AT1.out hml
              have q0 := belowBy_cell zga1 q0
              have BK := Lib.hid (plBk AT1.out zga1 hlt)
              have BM := Lib.hid (plBk AT1.out zga1 hml)
              clear hk0 hm c0 wm
              by_cases hle : r.ps[k].p ≤ r.ps[m].p
              · have E := Lib.hid (show rkB r = false by
                  have := HM.out
                  subst this
                  exact rkB_spec_bad_le hlt hle)
                have d2 : decide (r.ps[k].p ≤ r.ps[m].p) = true := by simpa using hle
                go_wp2
                refine wp_region_below (by kernel_rfl) (by kernel_rfl) ?_
                repeat (first | go_big_quiet_step (fail) | quiet_step (fail))
                refine wpQuiet_nil ?_
                rintro wq ⟨⟨_, hq⟩, rfl⟩
                clear q0 c1
                go_wp2
                go_ret
                exact ⟨by rw [E.out]; rfl, bnext HB1.out hq⟩
              · have d2 : decide (r.ps[k].p ≤ r.ps[m].p) = false := by simpa using hle
                have HU := Lib.hid (fun (p : BelowBy w1) => l01Usual_any r.ps[k].b r.ps[m].b WB.out WM.out ga (oa + k * 9 + 1) ga (oa + m * 9 + 1) p.W (BK.out.next p.h) (BM.out.next p.h))
                by_cases hu : usual r.ps[k].b r.ps[m].b < 0
                · have E := Lib.hid (show rkB r = false by
                    have := HM.out
                    subst this
                    exact rkB_spec_bad_out hlt HO.out (by rw [outAt_eq (by rw [bks_length]; exact hlt), bks_get, bks_get]; exact decide_eq_true hu))
                  generalize usual r.ps[k].b r.ps[m].b = z at HU hu
                  go_wp2
                  refine wp_region_below (by kernel_rfl) (by kernel_rfl) ?_
                  repeat (first | go_big_quiet_step ((go_at_call 13; exact calls_below (HU.out _))) | quiet_step ((go_at_call 13; exact calls_below (HU.out _))))
                  refine wpQuiet_nil ?_
                  rintro wq ⟨⟨_, hq⟩, rfl⟩
                  clear q0 c1
                  go_wp2
                  go_ret
                  exact ⟨by rw [E.out]; rfl, bnext HB1.out hq⟩
                · have RR := Lib.hid (rk_round hlt HP.out HO.out H1.out H2.out (fun m' e => by
                    have e2 : m' = m := by have := HM.out; omega
                    subst e2
                    exact ⟨by omega, hu⟩))
                  have hu' : 0 ≤ usual r.ps[k].b r.ps[m].b := by omega
                  generalize usual r.ps[k].b r.ps[m].b = z at HU hu hu'
                  go_wp2
                  refine wp_region_below (by kernel_rfl) (by kernel_rfl) ?_
                  repeat (first | go_big_quiet_step ((go_at_call 13; exact calls_below (HU.out _))) | quiet_step ((go_at_call 13; exact calls_below (HU.out _))))
                  refine wpQuiet_nil ?_
                  rintro wq ⟨⟨_, hq⟩, rfl⟩
                  clear q0 c1
                  go_wp2
                  go_roundw
                  case rel => exact ⟨k + 1, (k : Int) + 1, by omega, by omega, by go_num, RR.out.1, HL.out.succ (by rw [bks_length]; exact hlt) (by rw [bks_get]; exact H2.out), RR.out.2, bnext HB1.out hq⟩
                  case measure => simp [intOf]; omega
      · obtain rfl : k = r.ps.length := by omega
        have E := Lib.hid (rkB_spec_all HN.out HP.out HL.out HO.out)
        subst hx
        go_wp2
        go_ret
        exact ⟨by rw [E.out]; rfl, HB.out⟩
end Go.Proofs.YtgmipobohnagnaaDoor
