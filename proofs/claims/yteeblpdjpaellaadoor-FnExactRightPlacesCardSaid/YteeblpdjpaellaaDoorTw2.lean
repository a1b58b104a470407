/- Where each book should stand, by the model: a contract. Condition: lists no longer than 1048576, whose numbers lie within their kinds. -/
import Derived.Test.YteeblpdjpaellaaDoorTw1
import Derived.Test.YteeblpdjpaellaaDoorHas
namespace Go.Proofs.YteeblpdjpaellaaDoor
set_option linter.unusedSimpArgs false
set_option linter.unusedVariables false
set_option maxRecDepth 100000
open Go.RowKit

set_option maxHeartbeats 8000000 in
theorem specRightPlaces_any (b0 o0 c0 : Nat) (v1 : Value) (xs ys : List Bk) (wf : ∀ b ∈ xs, b.Wf) (wfy : ∀ b ∈ ys, b.Wf) (w : World) (hs : SliceOf w (.slice (some ⟨b0, o0, none⟩) xs.length c0) xs) (hs1 : SliceOf w v1 ys) (hc0 : xs.length ≤ c0) (hn : xs.length ≤ 1048576) (hny : ys.length ≤ 1048576) :
    Calls Tryd.prog 7 #[.slice (some ⟨b0, o0, none⟩) xs.length c0, v1] w fun e w' => ∃ u, e = .returned (.tuple #[u, .int .i64 (saC xs ys)]) ∧ w'.ownsRow w.heap.size 2 1 u (rpL xs ys).length ((rpL xs ys).map (Value.int .i64)) ∧ Below w.heap.size w w' := by
  have LC := Lib.hid (fun W (h : SliceOf W (.slice (some ⟨b0, o0, none⟩) xs.length c0) xs) (h1 : SliceOf W v1 ys) => l07Same_any b0 o0 c0 v1 xs ys wf wfy W h h1 hc0 hn hny)
  have LH := Lib.hid (fun W v q n (h : IntsOf .i64 W v q) (hq : q.length ≤ maxLen) => l00Has_any v q n W h hq)
  have S0 := Lib.hid hs
  have S1 := Lib.hid hs1
  have HS := Lib.hid hs
  obtain ⟨A1, c1, rfl, hat1⟩ := hs1
  have HW := Lib.hid hat1
  obtain ⟨i0, hi0, hz0, hz1, hz2⟩ := info_parts infoInt64
  clear hs hat1 wf wfy
  rcases rp_cases xs ys with ⟨hq, e1⟩ | ⟨hq, e1, htk, x60, y60⟩
  · rw [e1]
    clear e1
    generalize saC xs ys = q at *
    have d2 : (q != 0) = true := by simpa using hq
    go_enter Tryd.func7, Tryd.ntmps7
    go_wp2_with fail
    refine (LC.out _ S0.out S1.out).mono ?_
    rintro e w1 ⟨rfl, h1⟩
    have O1 := Lib.hid (own_emptyI w1 w.heap.size h1.size)
    go_wp2
    go_ret2
    exact ⟨_, rfl, O1.out, h1.alloc h1.size _⟩
  · have TK := Lib.hid htk
    have E := Lib.hid e1
    rw [hq] at LC ⊢
    clear htk e1 hq
    go_enter Tryd.func7, Tryd.ntmps7
    go_wp2_with fail
    refine (LC.out _ S0.out S1.out).mono ?_
    rintro e w1 ⟨rfl, h1⟩
    have O1 := Lib.hid (show (w1.alloc (.cells #[] 2)).ownsRow w.heap.size 2 1 (.slice (some ⟨w1.heap.size, 0, none⟩) 0 0) (tkW xs ys 0).length ((tkW xs ys 0).map (Value.int .i64)) from own_emptyI w1 w.heap.size h1.size)
    have B1 := Lib.hid (h1.alloc h1.size (.cells #[] 2))
    clear h1
    go_wp2
    go_loopw [7, 8] (fun v_ i_ wr => ∃ (v : Value) (j : Nat), v = v_ ∧ j ≤ ys.length ∧ i_ = .int .i64 (j : Int) ∧ wr.ownsRow w.heap.size 2 1 v (tkW xs ys j).length ((tkW xs ys j).map (Value.int .i64)) ∧ Below w.heap.size w wr) (fun _ i_ _ => ys.length - (intOf i_).toNat)
    case atStart => exact ⟨_, 0, rfl, Nat.zero_le _, rfl, O1.out, B1.out⟩
    case round =>
      clear O1 B1
      obtain ⟨v, j, rfl, hj, rfl, hown, hb⟩ := hrel
      have OA := Lib.hid hown
      have HB := Lib.hid hb
      have TL := tkW_len xs ys j
      clear hown hb
      by_cases hlt : j < ys.length
      · obtain ⟨gb, ob, rfl, hgb, hatw⟩ := HW.out (by omega)
        have HAW := Lib.hid hatw
        have GJ := Lib.hid (getD_nth hlt)
        have HSx := Lib.hid (show ∀ W : World, Below w.heap.size w W → 0 < xs.length → b0 < W.heap.size ∧ BooksAt W b0 o0 xs from fun W hW h0 => by
          obtain ⟨A0, cc0, E0, H0⟩ := HS.out
          cases E0
          obtain ⟨g0, q0, r0, hg0, ha0⟩ := H0 h0
          cases r0
          exact ⟨Nat.lt_of_lt_of_le hg0 hW.size, ha0.below hW hg0⟩)
        obtain ⟨t, ht, hte, htn, hts, htk⟩ := tk_next hlt (fun i hi => TK.out i (by omega))
        have HTS := Lib.hid (show ∀ b, b < t → xs.getD b default = ys.getD j default → b ∈ tkTo whl xs ys j from hts)
        have HTN := Lib.hid htn
        have HTE := Lib.hid (show xs.getD t default = ys.getD j default from hte)
        have HTK := Lib.hid (show tkW xs ys (j + 1) = tkW xs ys j ++ [(t : Int)] by unfold tkW; rw [htk, List.map_append]; rfl)
        clear hatw htn hte htk hts
        go_wp2
        go_loopw [9] (fun k_ wr => ∃ (k : Nat), k ≤ t ∧ k_ = .int .i64 (k : Int) ∧ wr.ownsRow w.heap.size 2 1 v (tkW xs ys j).length ((tkW xs ys j).map (Value.int .i64)) ∧ Below w.heap.size w wr) (fun k_ _ => xs.length - (intOf k_).toNat)
        case atStart => exact ⟨0, Nat.zero_le _, rfl, OA.out, HB.out⟩
        case round =>
          clear OA HB
          obtain ⟨k, hk, rfl, hown, hb⟩ := hrel
          have OA := Lib.hid hown
          have HB := Lib.hid hb
          clear hown hb
          have hkx : k < xs.length := by omega
          obtain ⟨z0, A0⟩ := HSx.out _ HB.out (by omega)
          have zb := Nat.lt_of_lt_of_le hgb HB.out.size
          have GK := Lib.hid (getD_nth hkx)
          obtain ⟨p0, p1, p2, p3, p4, p5, p6, p7⟩ := booksAt_some (HAW.out.below HB.out hgb) hlt
          obtain ⟨x0, x1, x2, x3, x4, x5, x6, x7⟩ := booksAt_some A0 hkx
          replace p0 := belowBy_cell zb p0; replace p1 := belowBy_cell zb p1; replace p2 := belowBy_cell zb p2; replace p3 := belowBy_cell zb p3
          replace p4 := belowBy_cell zb p4; replace p5 := belowBy_cell zb p5; replace p6 := belowBy_cell zb p6; replace p7 := belowBy_cell zb p7
          replace x0 := belowBy_cell z0 x0; replace x1 := belowBy_cell z0 x1; replace x2 := belowBy_cell z0 x2; replace x3 := belowBy_cell z0 x3
          replace x4 := belowBy_cell z0 x4; replace x5 := belowBy_cell z0 x5; replace x6 := belowBy_cell z0 x6; replace x7 := belowBy_cell z0 x7
          clear A0
          have NB := fun (W : World) => neqBook xs[k] ys[j] W
          have HI := Lib.hid (fun (p : BelowBy wr) => show Calls Tryd.prog 26 #[v, .int .i64 (k : Int)] p.W fun e w' => e = .returned (.bool (decide (k ∈ tkTo whl xs ys j))) ∧ Below p.W.heap.size p.W w' by rw [← tkW_mem]; exact LH.out p.W v (tkW xs ys j) (k : Int) ((ownInts OA.out).below p.h) (by rw [TL]; unfold maxLen; omega))
          by_cases hkt : k = t
          · subst hkt
            have he : xs[k] = ys[j] := by have := HTE.out; rw [GK.out, GJ.out] at this; exact this
            simp only [decide_eq_true he, Bool.not_true] at NB
            rw [decide_eq_false HTN.out] at HI
            clear he
            generalize xs[k] = xk at *
            generalize ys[j] = wj at *
            go_wp2
            refine wp_region_below (by kernel_rfl) (by kernel_rfl) ?_
            repeat (first | go_big_quiet_step ((go_at_call 26; exact calls_below (HI.out _))) | quiet_step ((go_at_call 26; exact calls_below (HI.out _))))
            refine wpQuiet_nil ?_
            rintro wq ⟨⟨_, hq⟩, rfl⟩
            have B7 := Lib.hid (HB.out.trans (hq.mono HB.out.size))
            have O7 := Lib.hid (ownBelow OA.out hq)
            clear hq p0 p1 p2 p3 p4 p5 p6 p7 x0 x1 x2 x3 x4 x5 x6 x7 NB
            have z7 := B7.out.size
            go_wp2_with (at_builtin; refine wpList_append_own _ rfl (.tmp 40) (.tmp 42) _ rfl w.heap.size 2 i0 (.int .i64 0) 1 8 Tryd.underlying24 hi0 hz0 hz1 hz2 rfl (by decide) _ _ _ rfl (O7.out.alloc _) ⟨wq.heap.size, 0, none⟩ 1 1 [.int .i64 (k : Int)] rfl rfl ?c1 ?c2 ?c3 ?c4 ?c5 ?_)
            case c1 => exact cell_one_new _ _ _
            case c2 => (intro u hu; simp at hu; subst hu; rfl)
            case c3 => (unfold maxLen; omega)
            case c4 => omega
            case c5 => (simp; omega)
            intro v' w4 hown' hgrow' _
            have OC := Lib.hid (show w4.ownsRow w.heap.size 2 1 v' (tkW xs ys (j + 1)).length ((tkW xs ys (j + 1)).map (Value.int .i64)) by rw [HTK.out, List.length_append, List.map_append, TL]; exact hown')
            have B9 := Lib.hid ((B7.out.alloc z7 _).grown hgrow' (by simp; omega) (fun k hk => (O7.out.lt k hk).1))
            clear hown' hgrow'
            go_wp2
            go_roundw
            case rel => exact ⟨_, j + 1, rfl, by omega, by go_num, OC.out, B9.out⟩
            case measure => simp [intOf]; omega
          · by_cases he : xs[k] = ys[j]
            · simp only [decide_eq_true he, Bool.not_true] at NB
              rw [decide_eq_true (HTS.out k (by omega) (by rw [GK.out, GJ.out]; exact he))] at HI
              clear he
              generalize xs[k] = xk at *
              generalize ys[j] = wj at *
              go_wp2
              refine wp_region_below (by kernel_rfl) (by kernel_rfl) ?_
              repeat (first | go_big_quiet_step ((go_at_call 26; exact calls_below (HI.out _))) | quiet_step ((go_at_call 26; exact calls_below (HI.out _))))
              refine wpQuiet_nil ?_
              rintro wq ⟨⟨_, hq⟩, rfl⟩
              have B7 := Lib.hid (HB.out.trans (hq.mono HB.out.size))
              have O7 := Lib.hid (ownBelow OA.out hq)
              clear hq p0 p1 p2 p3 p4 p5 p6 p7 x0 x1 x2 x3 x4 x5 x6 x7 NB
              go_wp2
              go_roundw
              case rel => exact ⟨k + 1, by omega, by go_num, O7.out, B7.out⟩
              case measure => simp [intOf]; omega
            · simp only [decide_eq_false he, Bool.not_false] at NB
              clear he
              generalize xs[k] = xk at *
              generalize ys[j] = wj at *
              go_wp2
              refine wp_region_below (by kernel_rfl) (by kernel_rfl) ?_
              repeat (first | go_big_quiet_step ((go_at_call 26; exact calls_below (HI.out _))) | quiet_step ((go_at_call 26; exact calls_below (HI.out _))))
              refine wpQuiet_nil ?_
              rintro wq ⟨⟨_, hq⟩, rfl⟩
              have B7 := Lib.hid (HB.out.trans (hq.mono HB.out.size))
              have O7 := Lib.hid (ownBelow OA.out hq)
              clear hq p0 p1 p2 p3 p4 p5 p6 p7 x0 x1 x2 x3 x4 x5 x6 x7 NB
              go_wp2
              go_roundw
              case rel => exact ⟨k + 1, by omega, by go_num, O7.out, B7.out⟩
              case measure => simp [intOf]; omega
      · obtain rfl : j = ys.length := by omega
        go_wp2
        go_ret2
        exact ⟨_, rfl, by rw [E.out]; exact OA.out, HB.out⟩
end Go.Proofs.YteeblpdjpaellaaDoor
