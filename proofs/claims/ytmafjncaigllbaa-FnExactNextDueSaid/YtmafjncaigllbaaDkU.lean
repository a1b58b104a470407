/- NextDue, by the program: contracts. Condition: no longer than slices can be, numbers within their kinds. -/
import Derived.Test.YtmafjncaigllbaaDkT
namespace Go.Proofs.Ytmafjncaigllbaa
set_option linter.unusedSimpArgs false
set_option linter.unusedVariables false
set_option maxRecDepth 100000
open Go.RowKit

def cmpZ (x y : Int) : Int := if x < y then -1 else if y < x then 1 else 0
set_option maxHeartbeats 400000 in
theorem isNaN64_any (x : Int) (w : World) :
    Calls Try.prog 98 #[.int .i64 x] w fun e w' => e = .returned (.bool false) ∧ w = w' := by
  go_enter Try.func98, Try.ntmps98
  go_wp2
  go_ret
  exact ⟨rfl, rfl⟩
set_option maxHeartbeats 400000 in
theorem cmp64_any (x y : Int) (w : World) :
    Calls Try.prog 81 #[.int .i64 x, .int .i64 y] w fun e w' => e = .returned (.int .i64 (cmpZ x y)) ∧ w = w' := by
  by_cases h1 : x < y
  · have E := Lib.hid (show cmpZ x y = -1 by unfold cmpZ; rw [if_pos h1])
    go_enter Try.func81, Try.ntmps81
    go_wp2_with (go_at_call 98; refine (isNaN64_any _ _).mono ?_; rintro e w' ⟨rfl, rfl⟩)
    go_ret
    exact ⟨by rw [E.out]; rfl, rfl⟩
  · by_cases h2 : y < x
    · have E := Lib.hid (show cmpZ x y = 1 by unfold cmpZ; rw [if_neg h1, if_pos h2])
      go_enter Try.func81, Try.ntmps81
      go_wp2_with (go_at_call 98; refine (isNaN64_any _ _).mono ?_; rintro e w' ⟨rfl, rfl⟩)
      go_ret
      exact ⟨by rw [E.out]; rfl, rfl⟩
    · have E := Lib.hid (show cmpZ x y = 0 by unfold cmpZ; rw [if_neg h1, if_neg h2])
      go_enter Try.func81, Try.ntmps81
      go_wp2_with (go_at_call 98; refine (isNaN64_any _ _).mono ?_; rintro e w' ⟨rfl, rfl⟩)
      go_ret
      exact ⟨by rw [E.out]; rfl, rfl⟩

set_option maxHeartbeats 4000000 in
theorem closNextDue_any (x : Cp) (A4 : Option Addr) (c4 : Nat) (u : Value) (hu : u = .slice A4 x.q.length c4) (w : World) :
    Calls Try.prog 78 #[.agg #[.int .i64 x.st, .int .i64 x.who, .int .i64 x.due, .int .i64 x.ren, u]] w fun e w' => e = .returned (.bool (lentB x)) ∧ Below w.heap.size w w' := by
  subst hu
  obtain ⟨st, wh, due, ren, q⟩ := x
  dsimp only at *
  by_cases h : st = 1
  · subst h
    have E := Lib.hid (show lentB ⟨1, wh, due, ren, q⟩ = true by simp [lentB])
    go_enter Try.func78, Try.ntmps78
    go_wp2
    go_ret
    exact ⟨by rw [E.out]; first | rfl | simp, by go_grown⟩
  · have E := Lib.hid (show lentB ⟨st, wh, due, ren, q⟩ = false by simp [lentB, h])
    have hb : (st == 1) = false := by simpa using h
    go_enter Try.func78, Try.ntmps78
    go_wp2
    go_ret
    exact ⟨by rw [E.out]; first | rfl | simp [h], by go_grown⟩

set_option maxHeartbeats 4000000 in
theorem closDue_any (xs : List Cp) (v : Value) (base : Nat) (i j : Nat) (hi : i < xs.length) (hj : j < xs.length) (B : Nat) (w : World) (hit : ItsOf w base v xs) (hc : w.cell? ⟨B, 1, none⟩ = some v) (hB : B < w.heap.size) :
    Calls Try.prog 80 #[.int .i64 (i : Int), .int .i64 (j : Int), .pointer (some ⟨B, 0, none⟩)] w fun e w' => e = .returned (.int .i64 (cmpZ xs[i].due xs[j].due)) ∧ Below w.heap.size w w' := by
  obtain ⟨A, c, rfl⟩ := hit.form
  have IT := Lib.hid hit
  obtain ⟨ga, rfl, -, hga, -, -, p2, -, -⟩ := hit.at_ hi
  obtain ⟨ga', e', -, -, -, -, q2, -, -⟩ := IT.out.at_ hj
  cases e'
  generalize xs[i].due = x at *
  generalize xs[j].due = y at *
  have CM := Lib.hid (fun (p : BelowBy w) => cmp64_any x y p.W)
  have p2 := belowBy_cell hga p2
  have q2 := belowBy_cell hga q2
  have hc := belowBy_cell hB hc
  clear hit
  go_enter Try.func80, Try.ntmps80
  go_wp2_with fail
  refine wp_region_below (by kernel_rfl) (by kernel_rfl) ?_
  iterate 16 (first | go_big_quiet_step ((go_at_call 81; with_reducible exact calls_same_below (CM.out _))) | quiet_step ((go_at_call 81; with_reducible exact calls_same_below (CM.out _))))
  refine wpQuiet_nil ?_
  rintro wq ⟨⟨_, hq⟩, rfl⟩
  clear p2 q2 hc
  go_wp2
  go_ret
  exact ⟨rfl, hq⟩

set_option maxHeartbeats 8000000 in
theorem whereNextDue_any (xs : List Cp) (wfx : ∀ c ∈ xs, c.Wf) (qmx : ∀ c ∈ xs, c.q.length ≤ maxLen) (day0 : Int) (v : Value) (base : Nat) (w : World) (hit : ItsOf w base v xs) (h60 : xs.length ≤ 60) :
    Calls Try.prog 64 #[.agg #[.int .i64 day0, v, .int .i64 0], .func (.func 78) #[] #[]] w fun e w' => ∃ u, e = .returned u ∧ w'.ownsRow w.heap.size 2 1 u (wh xs (lentB)).length ((wh xs (lentB)).map (Value.int .i64)) ∧ Below w.heap.size w w' := by
  have IT := Lib.hid hit
  obtain ⟨A, c, rfl⟩ := hit.form
  have WX := Lib.hid wfx
  have QX := Lib.hid qmx
  obtain ⟨i0, hi0, hz0, hz1, hz2⟩ := info_parts infoI64d
  have H0 := Lib.hid (show (w.alloc (.cells #[.int .i64 day0, .slice A xs.length c, .int .i64 0] 77)).ownsRow w.heap.size 2 1 (.slice none 0 0) (whTo xs (lentB) 0).length ((whTo xs (lentB) 0).map (Value.int .i64)) from nilOwn _ _)
  have G0 := Lib.hid (show Below w.heap.size w (w.alloc (.cells #[.int .i64 day0, .slice A xs.length c, .int .i64 0] 77)) from (Below.refl _ _).alloc (Nat.le_refl _) _)
  clear hit wfx qmx
  go_enter Try.func64, Try.ntmps64
  go_wp2
  generalize World.alloc w _ = W at H0 G0 ⊢
  go_loopw [5, 11] (fun v_ i_ wr => ∃ i : Nat, i ≤ xs.length ∧ i_ = .int .i64 (i : Int) ∧ wr.ownsRow w.heap.size 2 1 v_ (whTo xs (lentB) i).length ((whTo xs (lentB) i).map (Value.int .i64)) ∧ Below w.heap.size w wr) (fun _ i_ _ => xs.length - (intOf i_).toNat)
  case atStart => exact ⟨0, Nat.zero_le _, rfl, H0.out, G0.out⟩
  case round =>
    obtain ⟨i, hi, rfl, hown, hb⟩ := hrel
    have OW := Lib.hid hown
    obtain ⟨A3, c3, rfl⟩ := vlen_own1 hown
    have WL := Lib.hid (whTo_len xs (lentB) i)
    have HB := Lib.hid hb
    have hsz := hb.size
    clear hown hb
    by_cases hlt : i < xs.length
    · obtain ⟨ga, rfl, -, hga, p0, p1, p2, p3, u, p4, hq⟩ := (IT.out.below HB.out).at_ hlt
      have HQ := Lib.hid hq.ints
      obtain ⟨A4, c4, rfl⟩ := hq.form
      have WK := Lib.hid (WX.out _ (List.getElem_mem hlt))
      have QM := Lib.hid (QX.out _ (List.getElem_mem hlt))
      have WY := Lib.hid (fun h => whTo_yes (p := lentB) hlt h)
      have WN := Lib.hid (fun h => whTo_no (p := lentB) hlt h)
      clear hq
      obtain ⟨x, hx⟩ : ∃ x, x = xs[i] := ⟨_, rfl⟩
      rw [← hx] at p0 p1 p2 p3 p4 HQ WK QM WY WN
      clear hx
      have A5 := Lib.hid (show Below wr.heap.size wr (wr.alloc (.cells #[.int .i64 x.st, .int .i64 x.who, .int .i64 x.due, .int .i64 x.ren, .slice A4 x.q.length c4] 84)) from (Below.refl _ _).alloc (Nat.le_refl _) _)
      go_wp2_with fail
      generalize World.alloc wr _ = W5 at A5 ⊢
      refine (closNextDue_any x A4 c4 _ rfl W5).mono ?_
      rintro e w6 ⟨rfl, k6⟩
      have B6 := Lib.hid (bnext HB.out (bnext A5.out k6))
      have O6 := Lib.hid (ownBelow OW.out (bnext A5.out k6))
      have z6 := B6.out.size
      clear k6 p0 p1 p2 p3 p4
      generalize hr : lentB x = r at WY WN ⊢
      clear hr
      cases r
      · have NN := Lib.hid (WN.out rfl)
        clear WY WN
        go_wp2
        go_roundw
        case rel => exact ⟨i + 1, by omega, by go_num, by rw [NN.out]; exact O6.out, B6.out⟩
        case measure => simp [intOf]; omega
      · have YS := Lib.hid (WY.out rfl)
        have hml := WL.out
        clear WY WN
        generalize whTo xs (lentB) i = L at O6 YS hml ⊢
        go_wp2_with (at_builtin; refine wpList_append_own _ rfl (.tmp 19) (.tmp 21) _ rfl w.heap.size 2 i0 (.int .i64 0) 1 8 Try.underlying39 hi0 hz0 hz1 hz2 rfl (by decide) _ _ _ rfl (O6.out.alloc _) ⟨w6.heap.size, 0, none⟩ 1 1 [.int .i64 (i : Int)] rfl rfl ?c1 ?c2 ?c3 ?c4 ?c5 ?_)
        case c1 => exact cell_one_new _ _ _
        case c2 => (intro u hu; simp at hu; subst hu; rfl)
        case c3 => (unfold maxLen; omega)
        case c4 => omega
        case c5 => (simp; omega)
        intro v' w4 hown' hgrow' _
        have OW' := Lib.hid hown'
        have g4 : Below w.heap.size w w4 := (B6.out.alloc z6 _).grown hgrow' (by simp; omega) (fun k hk => (O6.out.lt k hk).1)
        clear hown' hgrow'
        go_wp2
        go_roundw
        case rel => exact ⟨i + 1, by omega, by go_num, by rw [YS.out]; simpa using OW'.out, g4⟩
        case measure => simp [intOf]; omega
    · obtain rfl : i = xs.length := by omega
      go_wp2
      go_ret
      exact ⟨_, rfl, OW.out, HB.out⟩


set_option maxHeartbeats 8000000 in
theorem minDue_any (xs : List Cp) (v : Value) (base B : Nat) (w : World) (hit : ItsOf w base v xs) (hc : w.cell? ⟨B, 1, none⟩ = some v) (hB : B < w.heap.size) (u : Value) (L : List Int) (hl : IntsOf .i64 w u L) (h0 : L ≠ []) (hm : ∀ x ∈ L, ∃ i : Nat, i < xs.length ∧ x = (i : Int)) (hn : L.length ≤ maxLen) :
    Calls Try.prog 79 #[u, .func (.func 80) #[] #[.pointer (some ⟨B, 0, none⟩)]] w fun e w' => e = .returned (.int .i64 (nMin xs L)) ∧ Below w.heap.size w w' := by
  have IT := Lib.hid hit
  obtain ⟨A, c, rfl, hat⟩ := hl
  have pos : 0 < L.length := List.length_pos_iff.2 h0
  unfold maxLen at hn
  have HM := Lib.hid hm
  obtain ⟨g, o, rfl, hg, hcells⟩ := hat pos
  have HC := Lib.hid hcells
  have M1 := Lib.hid (show nMin xs (L.take 1) = L[0] by rw [List.take_succ_eq_append_getElem pos, nMin_snoc]; exact nStep_new (by rw [List.take_zero, nMin_nil]; decide))
  have p0 := hcells 0 pos
  simp only [Nat.add_zero] at p0
  have hge : ¬ (L.length : Int) < 1 := by omega
  clear hat hcells h0 hm hit
  go_enter Try.func79, Try.ntmps79
  go_wp2
  go_loopw [5, 6] (fun m_ i_ wr => ∃ i : Nat, 1 ≤ i ∧ i ≤ L.length ∧ i_ = .int .i64 (i : Int) ∧ m_ = .int .i64 (nMin xs (L.take i)) ∧ Below w.heap.size w wr) (fun _ i_ _ => L.length - (intOf i_).toNat)
  case atStart => exact ⟨1, Nat.le_refl _, pos, rfl, by rw [M1.out], Below.refl _ _⟩
  case round =>
    obtain ⟨i, h1, hi, rfl, rfl, hb⟩ := hrel
    have HB := Lib.hid hb
    clear hb p0
    by_cases hlt : i < L.length
    · have p0 := (HB.out.cell (p := ⟨g, o + i, none⟩) hg).trans (HC.out i hlt)
      have S := Lib.hid (show nMin xs (L.take (i + 1)) = nStep xs (nMin xs (L.take i)) L[i] by rw [List.take_succ_eq_append_getElem hlt, nMin_snoc])
      have hne : L.take i ≠ [] := fun e => by have := congrArg List.length e; rw [List.length_take, List.length_nil] at this; omega
      obtain ⟨b, hbl, be⟩ := HM.out _ (List.mem_of_mem_take (nMin_mem xs hne))
      obtain ⟨a, hal, ae⟩ := HM.out _ (List.getElem_mem hlt)
      rw [be] at S
      rw [ae] at S p0
      rw [be]
      clear be ae hne
      have CL := Lib.hid (closDue_any xs v base a b hal hbl B wr (IT.out.below HB.out) ((HB.out.cell (p := ⟨B, 1, none⟩) hB).trans hc) (Nat.lt_of_lt_of_le hB HB.out.size))
      have DX := dueAt_nat hal
      have DY := dueAt_nat hbl
      go_wp2_with fail
      refine CL.out.mono ?_
      rintro e w6 ⟨rfl, k6⟩
      have p1 := (k6.cell (p := ⟨g, o + i, none⟩) (Nat.lt_of_lt_of_le hg HB.out.size)).trans p0
      have B6 := Lib.hid (bnext HB.out k6)
      clear k6 p0
      by_cases hlq : xs[a].due < xs[b].due
      · have E := Lib.hid (S.out.trans (nStep_less (by rw [DX, DY]; exact hlq)))
        have Z : cmpZ xs[a].due xs[b].due = -1 := by unfold cmpZ; rw [if_pos hlq]
        rw [Z]
        clear Z DX DY hlq S
        go_wp2
        go_roundw
        case rel => exact ⟨i + 1, by omega, by omega, by go_num, by rw [E.out], B6.out⟩
        case measure => simp [intOf]; omega
      · have E := Lib.hid (S.out.trans (nStep_old (by omega) (by rw [DX, DY]; exact hlq)))
        have Z : ¬ cmpZ xs[a].due xs[b].due < 0 := by unfold cmpZ; rw [if_neg hlq]; split <;> omega
        generalize cmpZ xs[a].due xs[b].due = z at Z ⊢
        clear DX DY hlq S
        go_wp2
        go_roundw
        case rel => exact ⟨i + 1, by omega, by omega, by go_num, by rw [E.out], B6.out⟩
        case measure => simp [intOf]; omega
    · obtain rfl : i = L.length := by omega
      rw [List.take_length]
      go_wp2
      go_ret
      exact ⟨rfl, HB.out⟩
end Go.Proofs.Ytmafjncaigllbaa
