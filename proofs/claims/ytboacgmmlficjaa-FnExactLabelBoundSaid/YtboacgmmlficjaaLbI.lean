/- The bound of labels, by the program: a contract. Condition: lists no longer than can be, whose numbers lie within their kinds. -/
import Derived.Test.YtboacgmmlficjaaLbM
import Derived.Test.YtboacgmmlficjaaLbS
import Derived.RegionTactic
import Derived.Deep.Cut
import Derived.BigRegion
namespace Go.Proofs.Ytboacgmmlficjaa
set_option linter.unusedSimpArgs false
set_option linter.unusedVariables false
set_option maxRecDepth 100000
open Go.RowKit Go.MapKept

theorem upd_last {xs : List Bk} {ls : List Int} {i : Nat} : updL (lastT xs ls i) (ls.getD i 0) (xs.getD i default) = lastT xs ls (i + 1) := rfl
set_option maxHeartbeats 8000000 in
theorem labelBound_any (v0 v1 : Value) (xs : List Bk) (ls : List Int) (wf : ∀ b ∈ xs, b.Wf) (wl : ∀ z ∈ ls, (Lit.int .i64 z).wf = true) (w : World) (hs : SliceOf w v0 xs) (hz : IntsOf .i64 w v1 ls) (hm : xs.length ≤ maxLen) (hml : ls.length ≤ maxLen) :
    Calls Try.prog 8 #[v0, v1] w fun e w' => e = .returned (.tuple #[.int .i64 (lbV xs ls), .int .i64 (lbC xs ls)]) ∧ Below w.heap.size w w' := by
  have hmm := @run_makeMap Try.prog
  have SL := Lib.hid hs
  have WF := Lib.hid wf
  have WL := Lib.hid wl
  obtain ⟨A, c, rfl, hat⟩ := hs
  have HS := Lib.hid hat
  obtain ⟨A1, c1, rfl, hat1⟩ := hz
  have HZ := Lib.hid hat1
  unfold maxLen at hml
  clear hat hat1 wf wl
  cases hok : okB xs
  · obtain ⟨e1, e2⟩ := lb_invalid (ls := ls) hok
    rw [e1, e2]
    go_enter Try.func8, Try.ntmps8
    go_wp2_with fail
    refine (validBooks_any _ xs _ SL.out hm).mono ?_
    rintro e w1 ⟨rfl, h1⟩
    rw [hok]
    go_wp2
    go_ret2
    exact ⟨rfl, h1⟩
  · have h60 : xs.length ≤ 60 := by have h := hok; unfold okB at h; simp at h; exact h.2
    have OK := Lib.hid hok
    by_cases hl : ls.length = xs.length
    · have HL := Lib.hid hl
      have hle : (ls.length : Int) = (xs.length : Int) := by omega
      go_enter Try.func8, Try.ntmps8
      go_wp2_with fail
      refine (validBooks_any _ xs _ SL.out hm).mono ?_
      rintro e w1 ⟨rfl, h1⟩
      rw [hok]
      have zw := h1.size
      have M0 := Lib.hid (show Lbm (w1.alloc (.map #[] 0)) w1.heap.size (dnT ls 0) (lastT xs ls 0) from Lbm.made w1)
      have B0 := Lib.hid (show Below w.heap.size w (w1.alloc (.map #[] 0)) from h1.alloc h1.size _)
      clear h1 hok
      go_wp2
      go_loopw [22] (fun i_ wr => ∃ (i : Nat), i ≤ ls.length ∧ i_ = .int .i64 (i : Int) ∧ Lbm wr w1.heap.size (dnT ls i) (lastT xs ls i) ∧ NoBad xs ls i ∧ Below w.heap.size w wr) (fun i_ _ => ls.length - (intOf i_).toNat)
      case atStart => exact ⟨0, Nat.zero_le _, rfl, M0.out, fun j hj => absurd hj (Nat.not_lt_zero _), B0.out⟩
      case round =>
        clear M0 B0 hmm
        obtain ⟨i, hi, rfl, hmp, hno, hb⟩ := hrel
        have HM := Lib.hid hmp
        have HN := Lib.hid hno
        have HB := Lib.hid hb
        clear hmp hno hb
        by_cases hlt : i < ls.length
        · have hlx : i < xs.length := by omega
          obtain ⟨g1, o1, rfl, hg1, hat1⟩ := HZ.out (by omega)
          obtain ⟨ga, oa, rfl, hga, hat⟩ := HS.out (by omega)
          have p0 := hat1.below HB.out hg1 i hlt
          have HAT := Lib.hid hat
          have BL := Lib.hid (bad_last WF.out hlx HL.out HN.out)
          have DN := Lib.hid (dn_last (xs := xs) hlt)
          have UL := Lib.hid (show updL (lastT xs ls i) (ls.getD i 0) (xs.getD i default) = lastT xs ls (i + 1) from rfl)
          have WX := Lib.hid (WF.out _ (List.getElem_mem hlx))
          have WZ := Lib.hid (WL.out _ (List.getElem_mem hlt))
          have GI := Lib.hid (getD_int hlt)
          have GX := Lib.hid (getD_nth hlx)
          have BB := Lib.hid (fun (W : World) (h : Below w.heap.size w W) => booksAt_some (HAT.out.below h hga) hlx)
          rw [GI.out, GX.out] at UL BL
          rw [GI.out] at DN
          clear hat hat1
          obtain ⟨wo, rfl⟩ : ∃ wo : World, wo = wr := ⟨_, rfl⟩
          have hlook := HM.out.look ls[i] WZ.out
          generalize xs[i] = xi at *
          generalize ls[i] = zi at *
          have hmlt := HM.out.lt
          cases hlast : lastT xs ls i zi with
          | none =>
            rw [hlast] at hlook BL DN
            have NB := Lib.hid (noBad_succ HN.out BL.out)
            have DN2 := Lib.hid (show dnT ls (i + 1) = dnT ls i + 1 from DN.out)
            unfold bkO bkV at hlook
            have hlook : (Instr.lookup 43 (.map (some w1.heap.size)) (.int .i64 zi) true).run Try.prog wo = .ok (.tuple #[.agg #[.int .i16 0, .int .u8 0, .int .u8 0, .int .u8 0, .int .i16 0, .int .i16 0, .int .i16 0, .int .i16 0], .bool false]) wo := hlook
            have GA := Lib.hid (show Below wo.heap.size wo (wo.alloc (.cells #[.int .i16 0, .int .u8 0, .int .u8 0, .int .u8 0, .int .i16 0, .int .i16 0, .int .i16 0, .int .i16 0] 40)) from (Below.refl _ _).alloc (Nat.le_refl _) _)
            go_upto_region 10 with (fail)
            generalize World.alloc wo _ = W3 at GA ⊢
            clear hlook
            have B3 := Lib.hid (bnext HB.out GA.out)
            have M3 := Lib.hid (HM.out.below GA.out)
            go_wp2
            refine wp_region_below (by kernel_rfl) (by kernel_rfl) ?_
            repeat (first | go_big_quiet_step (fail) | quiet_step (fail))
            refine wpQuiet_nil ?_
            rintro wq ⟨⟨_, hq⟩, rfl⟩
            have B4 := Lib.hid (bnext B3.out hq)
            obtain ⟨w5, hput, hm5, hg5⟩ := (M3.out.below hq).put zi WZ.out xi
            have M5 := Lib.hid hm5
            have G5 := Lib.hid hg5
            obtain ⟨r0, r1, r2, r3, r4, r5, r6, r7⟩ := BB.out _ B4.out
            clear hm5 hg5 hq
            unfold bkV at hput
            go_wp2
            have M6 := Lib.hid (show Lbm w5 w1.heap.size (dnT ls (i + 1)) (lastT xs ls (i + 1)) by rw [← UL.out, DN2.out]; have := M5.out; rw [hlast] at this; exact this)
            have B6 := Lib.hid (B4.out.grown G5.out B4.out.size (fun k hk => by injection hk with hk; omega))
            clear r0 r1 r2 r3 r4 r5 r6 r7 hput
            go_wp2
            go_roundw
            case rel => exact ⟨i + 1, by omega, by go_num, M6.out, NB.out, B6.out⟩
            case measure => simp [intOf]; omega
          | some x =>
            rw [hlast] at hlook BL DN
            have WXX : x.Wf := by
              obtain ⟨k, h1, _, rfl, _⟩ := last_some hlast
              rw [getD_nth (show k < xs.length by omega)]
              exact WF.out _ (List.getElem_mem _)
            have WX2 := Lib.hid WXX
            have DN2 := Lib.hid (show dnT ls (i + 1) = dnT ls i + 0 from DN.out)
            have BL2 := Lib.hid (show badTo xs ls i i = decide (0 ≤ usual xi x) from BL.out)
            clear WXX
            unfold bkO bkV at hlook
            have hlook : (Instr.lookup 43 (.map (some w1.heap.size)) (.int .i64 zi) true).run Try.prog wo = .ok (.tuple #[.agg #[.int .i16 x.c, .int .u8 x.m0, .int .u8 x.m1, .int .u8 x.m2, .int .i16 x.v, .int .i16 x.wi, .int .i16 x.hi, .int .i16 x.we], .bool true]) wo := hlook
            have GA := Lib.hid (show Below wo.heap.size wo (wo.alloc (.cells #[.int .i16 x.c, .int .u8 x.m0, .int .u8 x.m1, .int .u8 x.m2, .int .i16 x.v, .int .i16 x.wi, .int .i16 x.hi, .int .i16 x.we] 40)) from (Below.refl _ _).alloc (Nat.le_refl _) _)
            have XA := Lib.hid (heap_alloc_new wo (.cells #[.int .i16 x.c, .int .u8 x.m0, .int .u8 x.m1, .int .u8 x.m2, .int .i16 x.v, .int .i16 x.wi, .int .i16 x.hi, .int .i16 x.we] 40))
            have LC := Lib.hid (fun W => compareBooks_any xi x WX.out WX2.out W)
            go_upto_region 10 with (fail)
            generalize World.alloc wo _ = W3 at GA XA ⊢
            clear hlook
            have B3 := Lib.hid (bnext HB.out GA.out)
            have M3 := Lib.hid (HM.out.below GA.out)
            have hx3 : wo.heap.size < W3.heap.size := (Array.getElem?_eq_some_iff.1 XA.out).1
            have hg3 : ga < W3.heap.size := Nat.lt_of_lt_of_le hga B3.out.size
            obtain ⟨r0, r1, r2, r3, r4, r5, r6, r7⟩ := BB.out _ B3.out
            have y0 : W3.cell? ⟨wo.heap.size, 0, none⟩ = some (.int .i16 x.c) := cell_of_row W3 _ 0 _ _ _ XA.out
            have y1 : W3.cell? ⟨wo.heap.size, 1, none⟩ = some (.int .u8 x.m0) := cell_of_row W3 _ 1 _ _ _ XA.out
            have y2 : W3.cell? ⟨wo.heap.size, 2, none⟩ = some (.int .u8 x.m1) := cell_of_row W3 _ 2 _ _ _ XA.out
            have y3 : W3.cell? ⟨wo.heap.size, 3, none⟩ = some (.int .u8 x.m2) := cell_of_row W3 _ 3 _ _ _ XA.out
            have y4 : W3.cell? ⟨wo.heap.size, 4, none⟩ = some (.int .i16 x.v) := cell_of_row W3 _ 4 _ _ _ XA.out
            have y5 : W3.cell? ⟨wo.heap.size, 5, none⟩ = some (.int .i16 x.wi) := cell_of_row W3 _ 5 _ _ _ XA.out
            have y6 : W3.cell? ⟨wo.heap.size, 6, none⟩ = some (.int .i16 x.hi) := cell_of_row W3 _ 6 _ _ _ XA.out
            have y7 : W3.cell? ⟨wo.heap.size, 7, none⟩ = some (.int .i16 x.we) := cell_of_row W3 _ 7 _ _ _ XA.out
            have br0 := belowBy_cell hg3 r0
            have br1 := belowBy_cell hg3 r1
            have br2 := belowBy_cell hg3 r2
            have br3 := belowBy_cell hg3 r3
            have br4 := belowBy_cell hg3 r4
            have br5 := belowBy_cell hg3 r5
            have br6 := belowBy_cell hg3 r6
            have br7 := belowBy_cell hg3 r7
            have by0 := belowBy_cell hx3 y0
            have by1 := belowBy_cell hx3 y1
            have by2 := belowBy_cell hx3 y2
            have by3 := belowBy_cell hx3 y3
            have by4 := belowBy_cell hx3 y4
            have by5 := belowBy_cell hx3 y5
            have by6 := belowBy_cell hx3 y6
            have by7 := belowBy_cell hx3 y7
            clear r0 r1 r2 r3 r4 r5 r6 r7 y0 y1 y2 y3 y4 y5 y6 y7
            go_wp2
            refine wp_region_below (by kernel_rfl) (by kernel_rfl) ?_
            repeat (first | go_big_quiet_step ((go_at_call 16; exact calls_below (LC.out _))) | quiet_step ((go_at_call 16; exact calls_below (LC.out _))))
            refine wpQuiet_nil ?_
            rintro wq ⟨⟨_, hq⟩, rfl⟩
            have B4 := Lib.hid (bnext B3.out hq)
            have M4 := Lib.hid (M3.out.below hq)
            clear hq br0 br1 br2 br3 br4 br5 br6 br7 by0 by1 by2 by3 by4 by5 by6 by7
            by_cases hu : 0 ≤ usual xi x
            · rw [decide_eq_true hu] at BL2
              obtain ⟨e1, e2⟩ := lb_proof OK.out HL.out (any_yes hlx BL2.out)
              have E := Lib.hid (And.intro e1 e2)
              clear e1 e2
              generalize usual xi x = r at *
              go_wp2
              go_ret2
              exact ⟨by rw [E.out.1, E.out.2]; rfl, B4.out⟩
            · rw [decide_eq_false hu] at BL2
              have NB := Lib.hid (noBad_succ HN.out BL2.out)
              generalize usual xi x = r at *
              obtain ⟨w5, hput, hm5, hg5⟩ := M4.out.put zi WZ.out xi
              have M5 := Lib.hid hm5
              have G5 := Lib.hid hg5
              obtain ⟨r0, r1, r2, r3, r4, r5, r6, r7⟩ := BB.out _ B4.out
              clear hm5 hg5
              unfold bkV at hput
              go_wp2
              have M6 := Lib.hid (show Lbm w5 w1.heap.size (dnT ls (i + 1)) (lastT xs ls (i + 1)) by rw [← UL.out, DN2.out]; have := M5.out; rw [hlast] at this; exact this)
              have B6 := Lib.hid (B4.out.grown G5.out B4.out.size (fun k hk => by injection hk with hk; omega))
              clear r0 r1 r2 r3 r4 r5 r6 r7 hput
              go_wp2
              go_roundw
              case rel => exact ⟨i + 1, by omega, by go_num, M6.out, NB.out, B6.out⟩
              case measure => simp [intOf]; omega
        · obtain rfl : i = ls.length := by omega
          obtain ⟨e1, e2⟩ := lb_good OK.out HL.out (any_no (HL.out ▸ HN.out))
          have E := Lib.hid (show lbC xs ls = 0 ∧ lbV xs ls = (xs.length : Int) - (dnT ls xs.length : Int) from ⟨e1, e2⟩)
          clear e1 e2
          have dle := dn_le ls ls.length
          have dle2 := dn_le ls xs.length
          obtain ⟨es, clock, hbm, _, hsz, _⟩ := HM.out
          have hlen := fun ty => run_len_map (P := Try.prog) (w := wr) 43 ty w1.heap.size es clock (by kernel_rfl) hbm
          rw [hsz] at hlen
          go_wp2
          go_ret2
          exact ⟨by rw [E.out.1, E.out.2]; rfl, HB.out⟩
    · obtain ⟨e1, e2⟩ := lb_range OK.out hl
      rw [e1, e2]
      have hl2 : ¬ (ls.length : Int) = (xs.length : Int) := by omega
      have hl3 : ((ls.length : Int) != (xs.length : Int)) = true := by simpa using hl2
      go_enter Try.func8, Try.ntmps8
      go_wp2_with fail
      refine (validBooks_any _ xs _ SL.out hm).mono ?_
      rintro e w1 ⟨rfl, h1⟩
      rw [hok]
      go_wp2
      go_ret2
      exact ⟨rfl, h1⟩
end Go.Proofs.Ytboacgmmlficjaa
