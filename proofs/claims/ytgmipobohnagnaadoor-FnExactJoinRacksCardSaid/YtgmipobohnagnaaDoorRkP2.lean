/- The program's places: the books in them: contracts. Condition: at most 60 places. -/
import Derived.Test.YtgmipobohnagnaaDoorRkP
import Derived.Test.YtgmipobohnagnaaDoorFlB
namespace Go.Proofs.YtgmipobohnagnaaDoor
set_option linter.unusedSimpArgs false
set_option linter.unusedVariables false
set_option maxRecDepth 100000
open Go.RowKit Go.Sort

theorem bkq_take {q : List Pc} {k j : Nat} (h : k < (whr true q).length) (e : (whr true q)[k] = (j : Int)) (hj : j < q.length) : (bkq q).take (k + 1) = (bkq q).take k ++ [q[j].b] := by
  unfold bkq
  rw [map_take_succ _ _ _ h, e, Int.toNat_natCast, getD_pc (List.getElem?_eq_getElem hj)]
theorem plq_take {q : List Pc} {k j : Nat} (h : k < (whr true q).length) (e : (whr true q)[k] = (j : Int)) (hj : j < q.length) : (plq q).take (k + 1) = (plq q).take k ++ [⟨(j : Int), q[j].b⟩] := by
  unfold plq
  rw [map_take_succ _ _ _ h, e, Int.toNat_natCast, getD_pc (List.getElem?_eq_getElem hj)]

set_option maxHeartbeats 8000000 in
theorem booksM_any (v0 : Value) (q : List Pc) (w : World) (hs : PcsOf w v0 q) (hn : q.length ≤ 200) :
    Calls Tryd.prog 18 #[v0] w fun e w' => ∃ u, e = .returned u ∧ ResB w' w.heap.size u (bkq q) ∧ Below w.heap.size w w' := by
  have HQ := Lib.hid hs
  obtain ⟨A, c, rfl, hs⟩ := hs
  have HS := Lib.hid hs
  obtain ⟨i0, hi0, hz0, hz1, hz2⟩ := info_parts infoBook
  clear hs
  go_enter Tryd.func18, Tryd.ntmps18
  go_wp2_with fail
  refine (whereM_any _ q true _ HQ.out hn).mono ?_
  rintro e w1 ⟨v1, rfl, ho1, h1⟩
  have hwl := whr_length true q
  have WM := Lib.hid (fun z hz => whr_mem (t := true) (q := q) (z := z) hz)
  have BL := Lib.hid (bkq_length q)
  have z1 := h1.size
  obtain ⟨A1, c1, rfl, hi1⟩ := ownsInts ho1
  have HI := Lib.hid hi1
  have H1 := Lib.hid h1
  have O0 := Lib.hid (show w1.ownsRow w1.heap.size 43 8 (.slice none 0 0) ((bkq q).take 0).length (flB ((bkq q).take 0)) from by simpa using ResB.own0 w1 w1.heap.size)
  clear ho1 hi1 h1
  go_wp2
  go_loopw [3, 9] (fun v_ i_ wr => ∃ (v : Value) (k : Nat), v = v_ ∧ k ≤ (whr true q).length ∧ i_ = .int .i64 (k : Int) ∧ wr.ownsRow w1.heap.size 43 8 v ((bkq q).take k).length (flB ((bkq q).take k)) ∧ Below w1.heap.size w1 wr) (fun _ i_ _ => (whr true q).length - (intOf i_).toNat)
  case atStart => exact ⟨_, 0, rfl, Nat.zero_le _, rfl, O0.out, Below.refl _ _⟩
  case round =>
    obtain ⟨v, k, rfl, hk, rfl, ho, hb⟩ := hrel
    have OW := Lib.hid ho
    have HB := Lib.hid hb
    have zw := hb.size
    have kl : ((bkq q).take k).length ≤ 200 := by rw [List.length_take]; omega
    have KL := Lib.hid (show ((bkq q).take k).length = k by rw [List.length_take, BL.out]; omega)
    clear ho hb
    by_cases hlt : k < (whr true q).length
    · have hlt' := hlt
      obtain ⟨gl, ol, rfl, hgl, hat⟩ := HI.out (by omega)
      have cl := (HB.out.cell (p := ⟨gl, ol + k, none⟩) hgl).trans (hat k hlt)
      obtain ⟨m1, m2⟩ := WM.out _ (List.getElem_mem hlt)
      obtain ⟨j, hj⟩ : ∃ j : Nat, (whr true q)[k] = (j : Int) := ⟨((whr true q)[k]).toNat, by omega⟩
      have hjq : j < q.length := by omega
      have BT := Lib.hid (bkq_take hlt hj hjq)
      rw [hj] at cl
      obtain ⟨ga, oa, rfl, hga, hqa⟩ := HS.out (by omega)
      obtain ⟨-, p1, p2, p3, p4, p5, p6, p7, p8⟩ := pcAt_some (hqa.below (bnext H1.out HB.out) hga) hjq
      have hj1 : (0 : Int) ≤ (j : Int) := by omega
      have hj2 : (j : Int) < (q.length : Int) := by omega
      clear hat hqa hj m1 m2
      generalize q[j].b = b at BT p1 p2 p3 p4 p5 p6 p7 p8
      go_wp2_with (at_builtin; refine wpList_append_own _ rfl (.tmp 13) (.tmp 19) _ rfl w1.heap.size 43 i0 (.agg #[.int .i16 0, .int .u8 0, .int .u8 0, .int .u8 0, .int .i16 0, .int .i16 0, .int .i16 0, .int .i16 0]) 8 14 Tryd.underlying56 hi0 hz0 hz1 hz2 rfl (by decide) _ _ _ rfl (OW.out.alloc _) ⟨wr.heap.size, 0, none⟩ 1 1 [.int .i16 b.c, .int .u8 b.m0, .int .u8 b.m1, .int .u8 b.m2, .int .i16 b.v, .int .i16 b.wi, .int .i16 b.hi, .int .i16 b.we] rfl rfl (cell8_new _ _ _ _ _ _ _ _ _ _) (one8 b) (by unfold maxLen; omega) (by omega) (by simp; omega) ?_)
      intro v' w4 hown' hgrow' _
      have OW2 := Lib.hid (show w4.ownsRow w1.heap.size 43 8 v' ((bkq q).take (k + 1)).length (flB ((bkq q).take (k + 1))) by rw [BT.out, flB_snoc, List.length_append, KL.out]; first | exact hown' | (rw [show min k (bkq q).length = k by rw [BL.out]; omega] at hown'; exact hown'))
      have HB2 := Lib.hid ((HB.out.alloc zw (.cells #[.int .i16 b.c, .int .u8 b.m0, .int .u8 b.m1, .int .u8 b.m2, .int .i16 b.v, .int .i16 b.wi, .int .i16 b.hi, .int .i16 b.we] 43)).grown hgrow' (by simp; omega) (fun k hk => (OW.out.lt k hk).1))
      clear hown' hgrow'
      go_wp2
      go_roundw
      case rel => exact ⟨_, k + 1, rfl, by omega, by go_num, OW2.out, HB2.out⟩
      case measure => simp [intOf]; omega
    · obtain rfl : k = (whr true q).length := by omega
      have OE := Lib.hid (show wr.ownsRow w1.heap.size 43 8 v (bkq q).length (flB (bkq q)) by have := OW.out; rwa [List.take_of_length_le (by rw [BL.out]; omega)] at this)
      go_wp2
      go_ret
      exact ⟨_, rfl, (ResB.ofL OE.out rfl).mono z1, bnext H1.out HB.out⟩
theorem books_any (v0 : Value) (q : List Pc) (w : World) (hs : PcsOf w v0 q) (hn : q.length ≤ 60) :
    Calls Tryd.prog 18 #[v0] w fun e w' => ∃ u, e = .returned u ∧ ResB w' w.heap.size u (bkq q) ∧ Below w.heap.size w w' :=
  booksM_any v0 q w hs (by omega)
end Go.Proofs.YtgmipobohnagnaaDoor
