/- What one list has more often than another one, by the model: contracts. Condition: no longer than slices can be. -/
import Derived.Test.YtgfffbnodinkcabDoorStk
import Derived.Test.YtgfffbnodinkcabDoorEqB
import Derived.Test.YtgfffbnodinkcabDoorFlB
import Derived.Deep.Cut
import Derived.Deep.CutRange
namespace Go.Proofs.YtgfffbnodinkcabDoor
set_option linter.unusedSimpArgs false
set_option linter.unusedVariables false
set_option maxRecDepth 100000
open Go.RowKit Go.Sort

theorem elemBooksS : Tryd.prog.underlying 24 = some (.slice (Tryd.prog.elem 24)) := by kernel_rfl
theorem sizeBookS (w : World) : (sizeOf (Tryd.prog.elem 24)).run Tryd.prog w = .ok 8 w := by kernel_rfl
theorem run_to (g o n c k : Nat) (hk : k ≤ c) (h0 : 0 < c) (w : World) :
    (Instr.slice 24 (.slice (some ⟨g, o, none⟩) n c) none (some (.int .i64 (k : Int))) none).run Tryd.prog w = .ok (.slice (some ⟨g, o, none⟩) k c) w := by
  rw [run_slice_h w _ _ _ _ elemBooksS _ _ (by omega) (by omega), sizeBookS]
  have e : ¬ c = 0 := by omega
  simp [Result.andThen, sliced, e, Addr.add]
theorem BooksAt.take {w : World} {g o : Nat} {xs : List Bk} (h : BooksAt w g o xs) (k : Nat) : BooksAt w g o (xs.take k) := by
  intro i hi j v hv
  rw [List.getElem_take] at hv
  exact h i (by rw [List.length_take] at hi; omega) j v hv

set_option maxHeartbeats 4000000 in
theorem l07Count_any (v : Value) (xs : List Bk) (b : Bk) (w : World) (hs : SliceOf w v xs) (hn : xs.length ≤ 1048576) :
    Calls Tryd.prog 55 #[v, .agg #[.int .i16 b.c, .int .u8 b.m0, .int .u8 b.m1, .int .u8 b.m2, .int .i16 b.v, .int .i16 b.wi, .int .i16 b.hi, .int .i16 b.we]] w fun e w' => e = .returned (.int .i64 ((xs.count b : Nat) : Int)) ∧ Below w.heap.size w w' := by
  obtain ⟨A, c, rfl, hs⟩ := hs
  have HS := Lib.hid hs
  have GX := Lib.hid (show Below w.heap.size w (w.alloc (.cells #[.int .i16 b.c, .int .u8 b.m0, .int .u8 b.m1, .int .u8 b.m2, .int .i16 b.v, .int .i16 b.wi, .int .i16 b.hi, .int .i16 b.we] 50)) from (Below.refl _ _).alloc (Nat.le_refl _) _)
  have BX := Lib.hid (heap_alloc_new w (.cells #[.int .i16 b.c, .int .u8 b.m0, .int .u8 b.m1, .int .u8 b.m2, .int .i16 b.v, .int .i16 b.wi, .int .i16 b.hi, .int .i16 b.we] 50))
  have YX := Lib.hid (show w.heap.size < (w.alloc (.cells #[.int .i16 b.c, .int .u8 b.m0, .int .u8 b.m1, .int .u8 b.m2, .int .i16 b.v, .int .i16 b.wi, .int .i16 b.hi, .int .i16 b.we] 50)).heap.size by simp)
  clear hs
  go_enter Tryd.func55, Tryd.ntmps55
  go_upto_region 1 with (fail)
  generalize World.alloc w _ = W1 at GX BX YX ⊢
  go_wp2
  go_loopw [5, 6] (fun n_ i_ wr => ∃ (k m : Nat), k ≤ xs.length ∧ m ≤ k ∧ i_ = .int .i64 (k : Int) ∧ n_ = .int .i64 (m : Int) ∧ m = (xs.take k).count b ∧ Below W1.heap.size W1 wr) (fun _ i_ _ => xs.length - (intOf i_).toNat)
  case atStart => exact ⟨0, 0, Nat.zero_le _, Nat.le_refl _, rfl, rfl, by simp, Below.refl _ _⟩
  case round =>
    obtain ⟨k, m, hk, hmk, rfl, rfl, hm, hb⟩ := hrel
    have HM := Lib.hid hm
    have HB := Lib.hid hb
    clear hm hb
    by_cases hlt : k < xs.length
    · obtain ⟨ga, oa, rfl, hga, hat⟩ := HS.out (by omega)
      obtain ⟨p0, p1, p2, p3, p4, p5, p6, p7⟩ := booksAt_some (hat.below (bnext GX.out HB.out) hga) hlt
      have hbx := (HB.out.block _ YX.out).trans BX.out
      have q0 : wr.cell? ⟨w.heap.size, 0, none⟩ = some (.int .i16 b.c) := cell_of_row wr _ 0 _ _ _ hbx
      have q1 : wr.cell? ⟨w.heap.size, 1, none⟩ = some (.int .u8 b.m0) := cell_of_row wr _ 1 _ _ _ hbx
      have q2 : wr.cell? ⟨w.heap.size, 2, none⟩ = some (.int .u8 b.m1) := cell_of_row wr _ 2 _ _ _ hbx
      have q3 : wr.cell? ⟨w.heap.size, 3, none⟩ = some (.int .u8 b.m2) := cell_of_row wr _ 3 _ _ _ hbx
      have q4 : wr.cell? ⟨w.heap.size, 4, none⟩ = some (.int .i16 b.v) := cell_of_row wr _ 4 _ _ _ hbx
      have q5 : wr.cell? ⟨w.heap.size, 5, none⟩ = some (.int .i16 b.wi) := cell_of_row wr _ 5 _ _ _ hbx
      have q6 : wr.cell? ⟨w.heap.size, 6, none⟩ = some (.int .i16 b.hi) := cell_of_row wr _ 6 _ _ _ hbx
      have q7 : wr.cell? ⟨w.heap.size, 7, none⟩ = some (.int .i16 b.we) := cell_of_row wr _ 7 _ _ _ hbx
      have TC := Lib.hid (take_count hlt b)
      have EQ := eqlBook xs[k] b
      clear hat hbx
      by_cases he : xs[k] = b
      · rw [decide_eq_true he] at EQ
        have TC2 := Lib.hid (show (xs.take (k + 1)).count b = m + 1 by rw [TC.out, if_pos he, HM.out])
        clear he
        go_wp2
        go_quiet (fail)
        clear p0 p1 p2 p3 p4 p5 p6 p7 q0 q1 q2 q3 q4 q5 q6 q7 EQ
        go_wp2
        go_roundw
        case rel => exact ⟨k + 1, m + 1, by omega, by omega, by go_num, by go_num, TC2.out.symm, below_drewN HB.out _⟩
        case measure => simp [intOf]; omega
      · rw [decide_eq_false he] at EQ
        have TC2 := Lib.hid (show (xs.take (k + 1)).count b = m by rw [TC.out, if_neg he, HM.out]; rfl)
        clear he
        go_wp2
        go_quiet (fail)
        clear p0 p1 p2 p3 p4 p5 p6 p7 q0 q1 q2 q3 q4 q5 q6 q7 EQ
        go_wp2
        go_roundw
        case rel => exact ⟨k + 1, m, by omega, by omega, by go_num, rfl, TC2.out.symm, below_drewN HB.out _⟩
        case measure => simp [intOf]; omega
    · obtain rfl : k = xs.length := by omega
      have E := Lib.hid (show m = xs.count b by rw [HM.out, List.take_length])
      go_wp2
      go_ret
      exact ⟨by rw [E.out]; rfl, bnext GX.out HB.out⟩

set_option maxHeartbeats 8000000 in
theorem l07More_any (b0 o0 c0 : Nat) (v1 : Value) (xs ys : List Bk) (w : World) (hs : SliceOf w (.slice (some ⟨b0, o0, none⟩) xs.length c0) xs) (hcap : xs.length ≤ c0) (hs1 : SliceOf w v1 ys) (hn : xs.length ≤ 1048576) (hny : ys.length ≤ 1048576) :
    Calls Tryd.prog 34 #[.slice (some ⟨b0, o0, none⟩) xs.length c0, v1] w fun e w' => ∃ u, e = .returned u ∧ ResB w' w.heap.size u (more xs ys) ∧ Below w.heap.size w w' := by
  have S1 := Lib.hid hs1
  have HS := Lib.hid (fun (h : 0 < xs.length) => show b0 < w.heap.size ∧ BooksAt w b0 o0 xs by
    obtain ⟨A', c', e, h2⟩ := hs
    obtain ⟨g, o, e2, h3, h4⟩ := h2 h
    injection e with e3 _ _
    rw [e2] at e3
    injection e3 with e3
    injection e3 with e4 e5
    subst e4 e5
    exact ⟨h3, h4⟩)
  obtain ⟨i0, hi0, hz0, hz1, hz2⟩ := info_parts infoBook
  have O0 := Lib.hid (show (w.alloc (.cells #[] 50)).ownsRow w.heap.size 50 8 (.slice (some ⟨w.heap.size, 0, none⟩) 0 0) (moreTo xs ys 0).length (flB (moreTo xs ys 0)) from ResB.own1 w _ (Nat.le_refl _))
  have B0 := Lib.hid (show Below w.heap.size w (w.alloc (.cells #[] 50)) from (Below.refl _ _).alloc (Nat.le_refl _) _)
  clear hs hs1
  go_enter Tryd.func34, Tryd.ntmps34
  go_wp2
  go_loopw [5, 6] (fun v_ i_ wr => ∃ (v : Value) (k : Nat), v = v_ ∧ k ≤ xs.length ∧ i_ = .int .i64 (k : Int) ∧ wr.ownsRow w.heap.size 50 8 v (moreTo xs ys k).length (flB (moreTo xs ys k)) ∧ Below w.heap.size w wr) (fun _ i_ _ => xs.length - (intOf i_).toNat)
  case atStart => exact ⟨_, 0, rfl, Nat.zero_le _, rfl, O0.out, B0.out⟩
  case round =>
    obtain ⟨v, k, rfl, hk, rfl, hown, hb⟩ := hrel
    have OA := Lib.hid hown
    have HB := Lib.hid hb
    have hsz := hb.size
    have L1 := moreTo_len xs ys k
    clear hown hb
    by_cases hlt : k < xs.length
    · obtain ⟨hga, hat⟩ := HS.out (by omega)
      have MY := Lib.hid (fun h => more_yes (ys := ys) hlt h)
      have MN := Lib.hid (fun h => more_no (ys := ys) hlt h)
      have AT := Lib.hid (hat.below HB.out hga)
      obtain ⟨p0, p1, p2, p3, p4, p5, p6, p7⟩ := booksAt_some AT.out hlt
      have hgw := Nat.lt_of_lt_of_le hga hsz
      have p0 := belowBy_cell hgw p0; have p1 := belowBy_cell hgw p1; have p2 := belowBy_cell hgw p2; have p3 := belowBy_cell hgw p3
      have p4 := belowBy_cell hgw p4; have p5 := belowBy_cell hgw p5; have p6 := belowBy_cell hgw p6; have p7 := belowBy_cell hgw p7
      have RT := run_to b0 o0 xs.length c0 k (by omega) (by omega)
      have C1 := Lib.hid (fun (p : BelowBy wr) (b : Bk) => l07Count_any (.slice (some ⟨b0, o0, none⟩) k c0) (xs.take k) b p.W (⟨_, c0, by rw [List.length_take, Nat.min_eq_left (by omega)], fun _ => ⟨b0, o0, rfl, Nat.lt_of_lt_of_le hgw p.h.size, (AT.out.take k).below p.h hgw⟩⟩) (by rw [List.length_take]; omega))
      have C2 := Lib.hid (fun (p : BelowBy wr) (b : Bk) => l07Count_any v1 ys b p.W ((S1.out.below HB.out).below p.h) hny)
      clear hat
      generalize hb0 : xs[k] = b at *
      generalize hc1 : (xs.take k).count b = m1 at *
      generalize hc2 : ys.count b = m2 at *
      have C1b := Lib.hid (fun p => hc1 ▸ C1.out p b)
      have C2b := Lib.hid (fun p => hc2 ▸ C2.out p b)
      clear C1 C2 hc1 hc2
      have HB0 := Lib.hid hb0
      clear hb0
      go_wp2
      refine wp_region_below (by kernel_rfl) (by kernel_rfl) ?_
      iterate 15 (first | go_big_quiet_step ((go_at_call 55; first | (with_reducible exact calls_below (C1b.out _)) | (with_reducible exact calls_below (C2b.out _)))) | quiet_step ((go_at_call 55; first | (with_reducible exact calls_below (C1b.out _)) | (with_reducible exact calls_below (C2b.out _)))))
      refine wpQuiet_nil ?_
      rintro w2 ⟨⟨_, hq⟩, rfl⟩
      have B2 := Lib.hid (HB.out.trans (hq.mono hsz))
      have O2 := Lib.hid (ownBelow OA.out hq)
      have z2 := B2.out.size
      clear p0 p1 p2 p3 p4 p5 p6 p7 RT C1b C2b
      by_cases hc : m2 ≤ m1
      · have M0 := Lib.hid (MY.out hc)
        obtain ⟨p0, p1, p2, p3, p4, p5, p6, p7⟩ := booksAt_some (AT.out.below hq hgw) hlt
        rw [HB0.out] at p0 p1 p2 p3 p4 p5 p6 p7
        clear MY MN hq
        go_wp2_with (at_builtin; refine wpList_append_own _ rfl (.tmp 29) (.tmp 34) _ rfl w.heap.size 50 i0 (.agg #[.int .i16 0, .int .u8 0, .int .u8 0, .int .u8 0, .int .i16 0, .int .i16 0, .int .i16 0, .int .i16 0]) 8 14 Tryd.underlying24 hi0 hz0 hz1 hz2 rfl (by decide) _ _ _ rfl (O2.out.alloc _) ⟨w2.heap.size, 0, none⟩ 1 1 [.int .i16 b.c, .int .u8 b.m0, .int .u8 b.m1, .int .u8 b.m2, .int .i16 b.v, .int .i16 b.wi, .int .i16 b.hi, .int .i16 b.we] rfl rfl (cell8_new _ _ _ _ _ _ _ _ _ _) (one8 b) (by unfold maxLen; omega) (by omega) (by simp; omega) ?_)
        intro v' w4 hown' hgrow' _
        have OC := Lib.hid (show w4.ownsRow w.heap.size 50 8 v' (moreTo xs ys (k + 1)).length (flB (moreTo xs ys (k + 1))) by rw [M0.out, flB_snoc, List.length_append]; exact hown')
        have B4 := Lib.hid ((B2.out.alloc z2 _).grown hgrow' (by simp; omega) (fun k hk => (O2.out.lt k hk).1))
        clear hown' hgrow'
        go_wp2
        go_roundw
        case rel => exact ⟨_, k + 1, rfl, by omega, by go_num, OC.out, B4.out⟩
        case measure => simp [intOf]; omega
      · have M0 := Lib.hid (MN.out hc)
        have hc2 : m1 < m2 := by omega
        clear MY MN hq
        go_wp2
        go_roundw
        case rel => exact ⟨_, k + 1, rfl, by omega, by go_num, by rw [M0.out]; exact O2.out, B2.out⟩
        case measure => simp [intOf]; omega
    · obtain rfl : k = xs.length := by omega
      go_wp2
      go_ret
      exact ⟨_, rfl, ResB.ofL OA.out rfl, HB.out⟩
end Go.Proofs.YtgfffbnodinkcabDoor
