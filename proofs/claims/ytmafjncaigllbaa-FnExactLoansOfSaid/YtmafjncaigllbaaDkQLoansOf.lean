/- LoansOf: the list by the model and by the program: contracts. Condition: no longer than slices can be, numbers within their kinds. -/
import Derived.Test.YtmafjncaigllbaaDkQ
namespace Go.Proofs.Ytmafjncaigllbaa
set_option linter.unusedSimpArgs false
set_option linter.unusedVariables false
set_option maxRecDepth 100000
open Go.RowKit

set_option maxHeartbeats 8000000 in
theorem specLoansOf_any (d : Dk) (hv : Value) (wf : d.Wf ∧ ∀ c ∈ d.cs, c.q.length ≤ maxLen) (who : Int) (w : World) (hs : CpsOf w hv d.cs) (hn : d.cs.length ≤ maxLen) :
    Calls Try.prog 26 #[.agg #[.int .i16 d.day, hv], .int .i64 who] w fun e w' => ∃ v, e = .returned (.tuple #[v, .int .i64 (cnC d who)]) ∧ w'.ownsRow w.heap.size 2 1 v (wh (cnCs d who) (lentTo who)).length ((wh (cnCs d who) (lentTo who)).map (Value.int .i64)) ∧ Below w.heap.size w w' := by
  have HD := Lib.hid (DkAt.new (t := 30) hs)
  have WF := Lib.hid wf
  have OK := Lib.hid (fun W (h : DkAt W w.heap.size d hv) => l06Ok_any d hv wf w.heap.size W h hn)
  obtain ⟨A, c, rfl, -⟩ := hs
  have G0 := Lib.hid (show Below w.heap.size w (w.alloc (.cells #[.int .i16 d.day, .slice A d.cs.length c] 30)) from (Below.refl _ _).alloc (Nat.le_refl _) _)
  obtain ⟨y1, y2⟩ := wf.1.day
  clear wf
  rcases cn_cases d who with ⟨h1, h2, -, h4⟩ | ⟨h1, hp, h2, -, h4⟩ | ⟨h1, hp, h2, -, h4⟩
  · rw [h2, h4, wh_nil]
    rw [h1] at OK
    clear h1 h2 h4
    go_enter Try.func26, Try.ntmps26
    go_wp2_with fail
    generalize World.alloc w _ = W at HD G0 ⊢
    refine (OK.out _ HD.out).mono ?_
    rintro e w1 ⟨rfl, g1⟩
    have G1 := Lib.hid (bnext G0.out g1)
    go_wp2
    go_ret2
    exact ⟨_, rfl, emptyOwn _ _ G1.out.size, G1.out.alloc G1.out.size _⟩
  · rw [h2, h4, wh_nil]
    rw [h1] at OK
    clear h1 h2 h4
    go_enter Try.func26, Try.ntmps26
    go_wp2_with fail
    generalize World.alloc w _ = W at HD G0 ⊢
    refine (OK.out _ HD.out).mono ?_
    rintro e w1 ⟨rfl, g1⟩
    have G1 := Lib.hid (bnext G0.out g1)
    go_wp2_with fail
    refine (l06Person_any _ _).mono ?_
    rintro e w' ⟨rfl, rfl⟩
    rw [hp]
    go_wp2
    go_ret2
    exact ⟨_, rfl, emptyOwn _ _ G1.out.size, G1.out.alloc G1.out.size _⟩
  · rw [h2, h4]
    rw [h1] at OK
    have h60 := dk_60 h1
    clear h1 h2 h4
    go_enter Try.func26, Try.ntmps26
    go_wp2_with fail
    generalize World.alloc w _ = W at HD G0 ⊢
    refine (OK.out _ HD.out).mono ?_
    rintro e w1 ⟨rfl, g1⟩
    have G1 := Lib.hid (bnext G0.out g1)
    go_wp2_with fail
    refine (l06Person_any _ _).mono ?_
    rintro e w' ⟨rfl, rfl⟩
    rw [hp]
    go_wp2_with fail
    refine (l06Loans_any d _ WF.out.1 who _ _ (HD.out.below g1) (by omega)).mono ?_
    rintro e w2 ⟨v, rfl, ho, g2⟩
    have HO := Lib.hid ho
    obtain ⟨A3, c3, rfl⟩ := vlen_own1 ho
    have G2 := Lib.hid (bnext G1.out g2)
    clear ho g2
    go_wp2
    go_ret2
    exact ⟨_, rfl, ownMono HO.out (by have := G1.out.size; omega), G2.out⟩

set_option maxHeartbeats 4000000 in
theorem closLoansOf_any (x : Cp) (who : Int) (A4 : Option Addr) (c4 : Nat) (u : Value) (hu : u = .slice A4 x.q.length c4) (B : Nat) (w : World) (hc : w.cell? ⟨B, 0, none⟩ = some (.int .i64 who)) (hB : B < w.heap.size) :
    Calls Try.prog 65 #[.agg #[.int .i64 x.st, .int .i64 x.who, .int .i64 x.due, .int .i64 x.ren, u], .pointer (some ⟨B, 0, none⟩)] w fun e w' => e = .returned (.bool (lentTo who x)) ∧ Below w.heap.size w w' := by
  subst hu
  have A0 := Lib.hid (show Below w.heap.size w (w.alloc (.cells #[.int .i64 x.st, .int .i64 x.who, .int .i64 x.due, .int .i64 x.ren, .slice A4 x.q.length c4] 84)) from (Below.refl _ _).alloc (Nat.le_refl _) _)
  have hc' := (A0.out.cell (p := ⟨B, 0, none⟩) hB).trans hc
  go_enter Try.func65, Try.ntmps65
  go_wp2_with fail
  refine (lentTo_any x who _).mono ?_
  rintro e w1 ⟨rfl, k1⟩
  have G1 := Lib.hid (bnext A0.out k1)
  clear k1 hc'
  go_wp2
  go_ret
  exact ⟨rfl, G1.out⟩

set_option maxHeartbeats 8000000 in
theorem whereLoansOf_any (xs : List Cp) (wfx : ∀ c ∈ xs, c.Wf) (qmx : ∀ c ∈ xs, c.q.length ≤ maxLen) (day0 : Int) (who : Int) (v : Value) (base : Nat) (B : Nat) (w : World) (hit : ItsOf w base v xs) (h60 : xs.length ≤ 60) (hc : w.cell? ⟨B, 0, none⟩ = some (.int .i64 who)) (hB : B < w.heap.size) :
    Calls Try.prog 64 #[.agg #[.int .i64 day0, v, .int .i64 0], .func (.func 65) #[] #[.pointer (some ⟨B, 0, none⟩)]] w fun e w' => ∃ u, e = .returned u ∧ w'.ownsRow w.heap.size 2 1 u (wh xs (lentTo who)).length ((wh xs (lentTo who)).map (Value.int .i64)) ∧ Below w.heap.size w w' := by
  have IT := Lib.hid hit
  obtain ⟨A, c, rfl⟩ := hit.form
  have WX := Lib.hid wfx
  have QX := Lib.hid qmx
  obtain ⟨i0, hi0, hz0, hz1, hz2⟩ := info_parts infoI64d
  have H0 := Lib.hid (show (w.alloc (.cells #[.int .i64 day0, .slice A xs.length c, .int .i64 0] 77)).ownsRow w.heap.size 2 1 (.slice none 0 0) (whTo xs (lentTo who) 0).length ((whTo xs (lentTo who) 0).map (Value.int .i64)) from nilOwn _ _)
  have G0 := Lib.hid (show Below w.heap.size w (w.alloc (.cells #[.int .i64 day0, .slice A xs.length c, .int .i64 0] 77)) from (Below.refl _ _).alloc (Nat.le_refl _) _)
  clear hit wfx qmx
  go_enter Try.func64, Try.ntmps64
  go_wp2
  generalize World.alloc w _ = W at H0 G0 ⊢
  go_loopw [5, 11] (fun v_ i_ wr => ∃ i : Nat, i ≤ xs.length ∧ i_ = .int .i64 (i : Int) ∧ wr.ownsRow w.heap.size 2 1 v_ (whTo xs (lentTo who) i).length ((whTo xs (lentTo who) i).map (Value.int .i64)) ∧ Below w.heap.size w wr) (fun _ i_ _ => xs.length - (intOf i_).toNat)
  case atStart => exact ⟨0, Nat.zero_le _, rfl, H0.out, G0.out⟩
  case round =>
    obtain ⟨i, hi, rfl, hown, hb⟩ := hrel
    have OW := Lib.hid hown
    obtain ⟨A3, c3, rfl⟩ := vlen_own1 hown
    have WL := Lib.hid (whTo_len xs (lentTo who) i)
    have HB := Lib.hid hb
    have hsz := hb.size
    clear hown hb
    by_cases hlt : i < xs.length
    · obtain ⟨ga, rfl, -, hga, p0, p1, p2, p3, u, p4, hq⟩ := (IT.out.below HB.out).at_ hlt
      have HQ := Lib.hid hq.ints
      obtain ⟨A4, c4, rfl⟩ := hq.form
      have WK := Lib.hid (WX.out _ (List.getElem_mem hlt))
      have QM := Lib.hid (QX.out _ (List.getElem_mem hlt))
      have WY := Lib.hid (fun h => whTo_yes (p := lentTo who) hlt h)
      have WN := Lib.hid (fun h => whTo_no (p := lentTo who) hlt h)
      clear hq
      obtain ⟨x, hx⟩ : ∃ x, x = xs[i] := ⟨_, rfl⟩
      rw [← hx] at p0 p1 p2 p3 p4 HQ WK QM WY WN
      clear hx
      have A5 := Lib.hid (show Below wr.heap.size wr (wr.alloc (.cells #[.int .i64 x.st, .int .i64 x.who, .int .i64 x.due, .int .i64 x.ren, .slice A4 x.q.length c4] 84)) from (Below.refl _ _).alloc (Nat.le_refl _) _)
      go_wp2_with fail
      generalize World.alloc wr _ = W5 at A5 ⊢
      refine (closLoansOf_any x who A4 c4 _ rfl B W5 ((bnext HB.out A5.out).cell (p := ⟨B, 0, none⟩) hB |>.trans hc) (Nat.lt_of_lt_of_le hB (bnext HB.out A5.out).size)).mono ?_
      rintro e w6 ⟨rfl, k6⟩
      have B6 := Lib.hid (bnext HB.out (bnext A5.out k6))
      have O6 := Lib.hid (ownBelow OW.out (bnext A5.out k6))
      have z6 := B6.out.size
      clear k6 p0 p1 p2 p3 p4
      generalize hr : lentTo who x = r at WY WN ⊢
      clear hr
      cases r
      · have NN := Lib.hid (WN.out rfl)
        clear WY WN
        go_wp2
        go_roundw
        case rel => exact ⟨i + 1, by omega, by go_num, by rw [NN.out]; exact O6.out, B6.out⟩
        case measure => simp [intOf]; omega
      · have YS := Lib.hid (WY.out rfl)
        have hml := WL.out
        clear WY WN
        generalize whTo xs (lentTo who) i = L at O6 YS hml ⊢
        go_wp2_with (at_builtin; refine wpList_append_own _ rfl (.tmp 19) (.tmp 21) _ rfl w.heap.size 2 i0 (.int .i64 0) 1 8 Try.underlying39 hi0 hz0 hz1 hz2 rfl (by decide) _ _ _ rfl (O6.out.alloc _) ⟨w6.heap.size, 0, none⟩ 1 1 [.int .i64 (i : Int)] rfl rfl ?c1 ?c2 ?c3 ?c4 ?c5 ?_)
        case c1 => exact cell_one_new _ _ _
        case c2 => (intro u hu; simp at hu; subst hu; rfl)
        case c3 => (unfold maxLen; omega)
        case c4 => omega
        case c5 => (simp; omega)
        intro v' w4 hown' hgrow' _
        have OW' := Lib.hid hown'
        have g4 : Below w.heap.size w w4 := (B6.out.alloc z6 _).grown hgrow' (by simp; omega) (fun k hk => (O6.out.lt k hk).1)
        clear hown' hgrow'
        go_wp2
        go_roundw
        case rel => exact ⟨i + 1, by omega, by go_num, by rw [YS.out]; simpa using OW'.out, g4⟩
        case measure => simp [intOf]; omega
    · obtain rfl : i = xs.length := by omega
      go_wp2
      go_ret
      exact ⟨_, rfl, OW.out, HB.out⟩

set_option maxHeartbeats 8000000 in
theorem implLoansOf_any (d : Dk) (wf : d.Wf ∧ ∀ c ∈ d.cs, c.q.length ≤ maxLen) (who : Int) (g : Nat) (w : World) (hs : CRowK w g g d.cs d.cs.length d.cs.length) (hn : d.cs.length ≤ maxLen) :
    Calls Try.prog 27 #[.agg #[.int .i16 d.day, .slice (some ⟨g, 0, none⟩) d.cs.length d.cs.length], .int .i64 who] w fun e w' => ∃ v, e = .returned (.tuple #[v, .int .i64 (cnC d who)]) ∧ w'.ownsRow w.heap.size 2 1 v (wh (cnCs d who) (lentTo who)).length ((wh (cnCs d who) (lentTo who)).map (Value.int .i64)) ∧ Below w.heap.size w w' := by
  have CO := Lib.hid (fun W (h : Below w.heap.size w W) => counterOf_any d wf who g W (hs.below h) hn)
  have XW := Lib.hid (show (∀ c ∈ cnCs d who, c.Wf) ∧ (∀ c ∈ cnCs d who, c.q.length ≤ maxLen) ∧ (cnCs d who).length ≤ 60 ∧ (cnCs d who = [] ∨ cnDay d who = d.day) by
    rcases cn_cases d who with ⟨_, _, _, h⟩ | ⟨_, _, _, _, h⟩ | ⟨h1, _, _, hd, h⟩
    · rw [h]; simp
    · rw [h]; simp
    · rw [h]; exact ⟨wf.1.cs, wf.2, dk_60 h1, .inr hd⟩)
  have DI := Lib.hid (show -32768 ≤ cnDay d who ∧ cnDay d who ≤ 32767 by
    unfold cnDay
    split
    · exact wf.1.day
    · omega)
  obtain ⟨y1, y2⟩ := wf.1.day
  clear wf hs
  generalize cnC d who = k at *
  generalize cnDay d who = dy at *
  generalize cnCs d who = xs at *

  go_enter Try.func27, Try.ntmps27
  go_wp2_with fail
  generalize hW : World.alloc (World.alloc w _) _ = W2
  have D1 := Lib.hid (show W2.heap[w.heap.size + 1]? = some (.cells #[.int .i64 who] 2 (0, 0)) by rw [← hW]; exact (alloc2 w _ _).2)
  have G0 := Lib.hid (show Below w.heap.size w W2 by rw [← hW]; exact ((Below.refl _ _).alloc (Nat.le_refl _) _).alloc (by simp) _)
  have Z0 := Lib.hid (show w.heap.size + 1 < W2.heap.size by rw [← hW]; simp)
  clear hW

  refine (CO.out _ G0.out).mono ?_
  rintro e w1 ⟨v, rfl, hit, k1⟩
  obtain ⟨A3, c3, rfl⟩ := hit.form
  have HIT := Lib.hid hit
  have G1 := Lib.hid (bnext G0.out k1)
  have R1 := Lib.hid ((k1.block (w.heap.size + 1) Z0.out).trans D1.out)
  have Z1 := Lib.hid (Nat.lt_of_lt_of_le Z0.out k1.size)
  have z1 := Z1.out
  have AX := Lib.hid (show Below w1.heap.size w1 (w1.alloc (.cells #[.int .i64 dy, .slice A3 xs.length c3, .int .i64 0] 77)) from (Below.refl _ _).alloc (Nat.le_refl _) _)
  have X1 := Lib.hid (heap_alloc_new w1 (.cells #[.int .i64 dy, .slice A3 xs.length c3, .int .i64 0] 77))
  have S1 := Lib.hid (show w1.heap.size < (w1.alloc (.cells #[.int .i64 dy, .slice A3 xs.length c3, .int .i64 0] 77)).heap.size by simp)
  clear hit k1
  go_wp2_with fail
  generalize World.alloc w1 _ = W4 at AX X1 S1 ⊢
  refine (whereLoansOf_any xs XW.out.1 XW.out.2.1 dy who _ _ (w.heap.size + 1) _ (HIT.out.below AX.out) XW.out.2.2.1 ((AX.out.cell (p := ⟨w.heap.size + 1, 0, none⟩) Z1.out).trans (cell_of_row w1 _ 0 _ _ _ R1.out)) (Nat.lt_of_lt_of_le Z1.out AX.out.size)).mono ?_
  rintro e w5 ⟨u, rfl, ho, k5⟩
  have HO := Lib.hid ho
  obtain ⟨A6, c6, rfl⟩ := vlen_own1 ho
  have G5 := Lib.hid (bnext (bnext G1.out AX.out) k5)
  clear ho k5
  go_wp2
  go_ret2
  exact ⟨_, rfl, ownMono HO.out (by have := (bnext G1.out AX.out).size; omega), G5.out⟩
end Go.Proofs.Ytmafjncaigllbaa
