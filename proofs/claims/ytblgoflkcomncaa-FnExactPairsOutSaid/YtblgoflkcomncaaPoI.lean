/- How many pairs of a list are out of order, by the program: a contract. Condition: lists no longer than can be, whose numbers lie within their kinds. -/
import Derived.Test.YtblgoflkcomncaaPoM
import Derived.RegionTactic
import Derived.BigRegion
import Derived.Deep.Cut
namespace Go.Proofs.Ytblgoflkcomncaa
set_option linter.unusedSimpArgs false
set_option linter.unusedVariables false
set_option maxRecDepth 100000
open Go.RowKit Go.MapKept Go.ChangeMaps

/-- The same world, or that with a draw told. -/
def OrDrew (w w1 : World) : Prop := w1 = w ∨ w1 = w.drew
section
variable {P : Program} (w : World) {ops : Array Oper} {rest : List Oper} {o : Oper} {a : Act} {Q : Exit → Act → World → Prop}
/-- A range's step over a map's entries as they lie. -/
theorem wpList_next_raw (hg : o.guard = none) (it : Operand) (hop : o.op = Op.next it false) (r bm since c0 : Nat) (seen : Array Nat) (es : Array MapEntry) (clock : Nat) (hit : a.eval it = .pointer (some ⟨r, 0, none⟩))
    (hr : w.heap[r]? = some (.mapIter (some bm) since seen c0)) (hb : w.heap[bm]? = some (.map es clock)) (hold : ∀ x ∈ es.toList, x.born < since) (hsc : since ≤ c0)
    (hDone : (leftOf es seen).size = 0 → wpList P ops Q rest (a.put o.dst (.tuple #[.bool false])) w)
    (hMore : ∀ e, e ∈ (leftOf es seen).toList → ∀ w1 : World, OrDrew w w1 → wpList P ops Q rest (a.put o.dst (.tuple #[.bool true, e.key, e.val])) (setBlock w1 r (.mapIter (some bm) since (seen.push e.born) clock))) :
    wpList P ops Q (o :: rest) a w := by
  refine wpList_plain hg fun K' hK' => ?_
  unfold Oper.wp
  rcases run_next_at (P := P) w o.type r bm since c0 seen es clock hr hb hold hsc with ⟨h0, hrun⟩ | ⟨e, he, w1, hal, hrun⟩
  · simp [execOp, hop, hit, hrun, Result.andThen]
    exact hK' _ _ (hDone h0)
  · simp [execOp, hop, hit, hrun, Result.andThen]
    exact hK' _ _ (hMore e he w1 hal)
end
theorem setBlock_grown {w w1 : World} (hw : OrDrew w w1) {r : Nat} {o : Obj} (h : w.heap[r]? = some o) (o' : Obj) : w.grownBy (setBlock w1 r o') (some r) := by
  have h1 : w1.heap[r]? = some o := by rcases hw with rfl | rfl <;> exact h
  have hset := heap_set (o' := o') h1
  rcases hw with rfl | rfl <;> exact ⟨rfl, rfl, rfl, by simp [setBlock], fun i _ hi => hset.2 i (fun e1 => hi (by rw [e1]))⟩
theorem setBlock_at {w w1 : World} (hw : OrDrew w w1) {r : Nat} {o : Obj} (h : w.heap[r]? = some o) (o' : Obj) : (setBlock w1 r o').heap[r]? = some o' := by
  have h1 : w1.heap[r]? = some o := by rcases hw with rfl | rfl <;> exact h
  exact (heap_set (o' := o') h1).1

theorem range_left {w : World} {b r : Nat} {es : Array MapEntry} {clock since c0 : Nat} {seen : Array Nat} (hb : w.heap[b]? = some (.map es clock)) (hr : w.heap[r]? = some (.mapIter (some b) since seen c0)) : w.rangeLeft b r = (leftOf es seen).size := by
  simp only [World.rangeLeft, hb, hr]
set_option maxHeartbeats 16000000 in
theorem pairsOut_any (v : Value) (xs : List Bk) (wf : ∀ b ∈ xs, b.Wf) (w : World) (hs : SliceOf w v xs) (hm : xs.length ≤ maxLen) :
    Calls Try.prog 27 #[v] w fun e w' => e = .returned (.tuple #[.int .i64 (poV xs), .int .i64 (poC xs)]) ∧ Below w.heap.size w w' := by
  have HS := Lib.hid hs
  have WF := Lib.hid wf
  obtain ⟨A, c, rfl, hat⟩ := hs
  have HA := Lib.hid (show 0 < xs.length → ∃ g o, A = some ⟨g, o, none⟩ ∧ g < w.heap.size ∧ BooksAt w g o xs from hat)
  have hmm := @run_makeMap Try.prog
  clear wf hat
  cases h1 : okB xs
  · have E := Lib.hid (show poC xs = 1 by unfold poC; rw [h1]; rfl)
    have E2 := Lib.hid (show poV xs = 0 by unfold poV; rw [h1]; rfl)
    go_enter Try.func27, Try.ntmps27
    go_wp2_with fail
    refine (validBooks_any _ xs _ HS.out hm).mono ?_
    rintro e w1 ⟨rfl, g1⟩
    rw [h1]
    go_wp2
    go_ret2
    exact ⟨by rw [E.out, E2.out]; rfl, g1⟩
  · have E := Lib.hid (show poC xs = 0 by unfold poC; rw [h1]; rfl)
    have E2 := Lib.hid (show poV xs = ((prTo xs xs.length : Nat) : Int) by unfold poV; rw [h1]; rfl)
    have h60 : xs.length ≤ 60 := by unfold okB at h1; simp at h1; exact h1.2
    go_enter Try.func27, Try.ntmps27
    go_wp2_with fail
    refine (validBooks_any _ xs _ HS.out hm).mono ?_
    rintro e w1 ⟨rfl, g1⟩
    rw [h1]
    have zw := g1.size
    have S0 := Lib.hid (show Stk (w1.alloc (.map #[] 0)) w1.heap.size 0 (fun x => (xs.take 0).count x) from Stk.made w1)
    have B0 := Lib.hid (show Below w.heap.size w (w1.alloc (.map #[] 0)) from g1.alloc g1.size _)
    clear h1 g1
    go_wp2
    go_loopw [5, 16] (fun p_ i_ wr => ∃ (i n : Nat), i ≤ xs.length ∧ i_ = .int .i64 (i : Int) ∧ p_ = .int .i64 (n : Int) ∧ prTo xs i = n ∧ Stk wr w1.heap.size i (fun x => (xs.take i).count x) ∧ Below w.heap.size w wr) (fun _ i_ _ => xs.length - (intOf i_).toNat)
    case atStart => exact ⟨0, 0, Nat.zero_le _, rfl, rfl, rfl, S0.out, B0.out⟩
    case round =>
      clear S0 B0
      obtain ⟨i, n, hi, rfl, rfl, hn, hst, hb⟩ := hrel
      have HN := Lib.hid hn
      have nb : n ≤ 3600 := by rw [← hn]; have := prTo_le xs i (by omega); omega
      have HB := Lib.hid hb
      have SK := Lib.hid hst
      clear hn hb hst
      by_cases hlt : i < xs.length
      · obtain ⟨ga, oa, rfl, hga, hat⟩ := HA.out (by omega)
        obtain ⟨p0, p1, p2, p3, p4, p5, p6, p7⟩ := booksAt_some (hat.below HB.out hga) hlt
        have WB := Lib.hid (WF.out _ (List.getElem_mem hlt))
        have TC := Lib.hid (fun y => take_countP hlt y)
        have PS := Lib.hid (prTo_succ hlt)
        have WT := Lib.hid (show ∀ b ∈ xs.take i, b.Wf from fun b hb => WF.out b (List.mem_of_mem_take hb))
        clear hat
        generalize xs[i] = b at *
        have GX := Lib.hid (show Below wr.heap.size wr (wr.alloc (.cells #[.int .i16 b.c, .int .u8 b.m0, .int .u8 b.m1, .int .u8 b.m2, .int .i16 b.v, .int .i16 b.wi, .int .i16 b.hi, .int .i16 b.we] 114)) from (Below.refl _ _).alloc (Nat.le_refl _) _)
        have BX := Lib.hid (heap_alloc_new wr (.cells #[.int .i16 b.c, .int .u8 b.m0, .int .u8 b.m1, .int .u8 b.m2, .int .i16 b.v, .int .i16 b.wi, .int .i16 b.hi, .int .i16 b.we] 114))
        obtain ⟨wo, rfl⟩ : ∃ wo : World, wo = wr := ⟨_, rfl⟩
        go_upto_region 8 with (fail)
        generalize World.alloc wo _ = W1 at GX BX ⊢
        clear p0 p1 p2 p3 p4 p5 p6 p7
        have SX := Lib.hid (SK.out.below GX.out)
        have BW := Lib.hid (bnext HB.out GX.out)
        have lbx : wo.heap.size < W1.heap.size := (Array.getElem?_eq_some_iff.1 BX.out).1
        obtain ⟨es, clock, hbm, hstm, hsz, hent, hnone⟩ := SX.out
        have hrg := run_range_map (P := Try.prog) W1 117 _ _ w1.heap.size es clock Try.underlying117 hbm
        have M2 := Lib.hid (show (W1.alloc (.mapIter (some w1.heap.size) clock #[] clock)).heap[w1.heap.size]? = some (.map es clock) from (Below.heap_alloc W1 _ _ (Array.getElem?_eq_some_iff.1 hbm).1).trans hbm)
        have R2 := Lib.hid (heap_alloc_new W1 (.mapIter (some w1.heap.size) clock #[] clock))
        have X2 := Lib.hid ((Below.heap_alloc W1 (.mapIter (some w1.heap.size) clock #[] clock) _ lbx).trans BX.out)
        have B2 := Lib.hid (show Below w.heap.size w (W1.alloc (.mapIter (some w1.heap.size) clock #[] clock)) from BW.out.alloc BW.out.size _)
        have SE := Lib.hid (sum_entries (outP b) (xs.take i) WT.out es.toList hstm.2.2 (fun e he => by obtain ⟨x, h1, h2, _⟩ := hent e he; exact ⟨x, h1, h2⟩) (fun x hx hk => hnone x hx hk))
        have HST := Lib.hid hstm
        have HENT := Lib.hid hent
        have HNO := Lib.hid hnone
        have HSZ := Lib.hid hsz
        have CP := Lib.hid (show (xs.take i).countP (outP b) ≤ 60 from Nat.le_trans List.countP_le_length (by rw [List.length_take]; omega))
        have mlt : w1.heap.size < W1.heap.size := (Array.getElem?_eq_some_iff.1 hbm).1
        have hbb := GX.out.size
        have hww := B2.out.size
        have hbw := BW.out.size
        have hoo := HB.out.size
        clear hbm hstm hsz hent hnone
        go_wp2
        go_loopw [5] (fun p_ wr => ∃ (m : Nat) (seen : Array Nat) (c0 : Nat), p_ = .int .i64 (m : Int) ∧ m = n + sumD es.toList seen (fE (outP b) (xs.take i)) ∧ wr.heap[w1.heap.size]? = some (.map es clock) ∧ wr.heap[W1.heap.size]? = some (.mapIter (some w1.heap.size) clock seen c0) ∧ clock ≤ c0 ∧ wr.heap[wo.heap.size]? = some (.cells #[.int .i16 b.c, .int .u8 b.m0, .int .u8 b.m1, .int .u8 b.m2, .int .i16 b.v, .int .i16 b.wi, .int .i16 b.hi, .int .i16 b.we] 114 (0, 0)) ∧ Below w.heap.size w wr) (fun _ wr => wr.rangeLeft w1.heap.size W1.heap.size)
        case atStart => exact ⟨n, #[], clock, rfl, by rw [sumD_none]; rfl, M2.out, R2.out, Nat.le_refl _, X2.out, B2.out⟩
        case round =>
          obtain ⟨m, seen, c0, rfl, hm, hM, hR, hc0, hX, hb⟩ := hrel
          have HM := Lib.hid hm
          have KM := Lib.hid hM
          have KR := Lib.hid hR
          have KX := Lib.hid hX
          have KB := Lib.hid hb
          clear hm hM hR hX hb M2 R2 X2 B2
          go_wp2_with (at_next; refine wpList_next_raw _ rfl _ rfl W1.heap.size w1.heap.size clock c0 seen es clock rfl KR.out KM.out HST.out.1 hc0 ?_ ?_)
          · intro h0
            have PS2 := Lib.hid (show prTo xs (i + 1) = m by rw [PS.out, HM.out, HN.out, sumD_all _ _ _ (all_seen es seen (by rw [h0]; rfl)), SE.out])
            have SK2 := Lib.hid (show Stk wr w1.heap.size i (fun x => (xs.take i).count x) from ⟨es, clock, KM.out, HST.out, HSZ.out, HENT.out, HNO.out⟩)
            have cl : (xs.take i).count b ≤ 60 := Nat.le_trans List.count_le_length (by rw [List.length_take]; omega)
            have SX := Lib.hid (Stk.drew SK2.out)
            have hL := SX.out.look b WB.out
            obtain ⟨v0, st, w3, hE, hL3, g3, hS⟩ := SX.out.entry b WB.out
            obtain ⟨w4, hS4, hk4, g4⟩ := hS ((xs.take i).count b + 1)
            have HK4 := Lib.hid hk4
            have HG4 := Lib.hid g4
            have BD := Lib.hid (KB.out.drew)
            have q0 : wr.cell? ⟨wo.heap.size, 0, none⟩ = some (.int .i16 b.c) := cell_of_row wr _ 0 _ _ _ KX.out
            have q1 : wr.cell? ⟨wo.heap.size, 1, none⟩ = some (.int .u8 b.m0) := cell_of_row wr _ 1 _ _ _ KX.out
            have q2 : wr.cell? ⟨wo.heap.size, 2, none⟩ = some (.int .u8 b.m1) := cell_of_row wr _ 2 _ _ _ KX.out
            have q3 : wr.cell? ⟨wo.heap.size, 3, none⟩ = some (.int .u8 b.m2) := cell_of_row wr _ 3 _ _ _ KX.out
            have q4 : wr.cell? ⟨wo.heap.size, 4, none⟩ = some (.int .i16 b.v) := cell_of_row wr _ 4 _ _ _ KX.out
            have q5 : wr.cell? ⟨wo.heap.size, 5, none⟩ = some (.int .i16 b.wi) := cell_of_row wr _ 5 _ _ _ KX.out
            have q6 : wr.cell? ⟨wo.heap.size, 6, none⟩ = some (.int .i16 b.hi) := cell_of_row wr _ 6 _ _ _ KX.out
            have q7 : wr.cell? ⟨wo.heap.size, 7, none⟩ = some (.int .i16 b.we) := cell_of_row wr _ 7 _ _ _ KX.out
            clear hk4 g4 g3 hS
            unfold bkV at hL hL3 hE
            push_cast at hS4
            generalize hmm : (xs.take i).count b = mm at *
            have HMM := Lib.hid hmm
            clear hmm hrg
            go_wp2
            go_region
            all_goals
              have B4 := Lib.hid (BD.out.grown HG4.out BD.out.size (fun k hk => by injection hk with hk; omega))
              have S4 := Lib.hid (show Stk w4 w1.heap.size (i + 1) (fun x => (xs.take (i + 1)).count x) by
                have e : (fun x => (xs.take (i + 1)).count x) = upd (fun x => (xs.take i).count x) b (mm + 1) := by
                  funext y
                  rw [TC.out y]
                  by_cases q : y = b
                  · subst q; rw [upd_same, if_pos rfl, HMM.out]
                  · rw [upd_other _ _ q, if_neg (fun r => q r.symm)]; rfl
                rw [e]
                exact HK4.out)
              clear q0 q1 q2 q3 q4 q5 q6 q7 hL hL3 hE hS4
              go_wp2
              go_roundw
              case rel => exact ⟨i + 1, m, by omega, by go_num, rfl, PS2.out, S4.out, B4.out⟩
              case measure => simp [intOf]; omega
          · intro e he w2 hw2
            have he : e ∈ (leftOf es seen).toList := by simpa using he
            obtain ⟨hem, hes⟩ := mem_left he
            obtain ⟨x, wx, ek, ev⟩ := HENT.out e hem
            have R3 := Lib.hid (setBlock_at hw2 KR.out (.mapIter (some w1.heap.size) clock (seen.push e.born) clock))
            have GS := Lib.hid (setBlock_grown hw2 KR.out (.mapIter (some w1.heap.size) clock (seen.push e.born) clock))
            have M3 := Lib.hid ((GS.out.block w1.heap.size (Array.getElem?_eq_some_iff.1 KM.out).1 (fun h => by injection h with h; omega)).trans KM.out)
            have X3 := Lib.hid ((GS.out.block wo.heap.size (Array.getElem?_eq_some_iff.1 KX.out).1 (fun h => by injection h with h; omega)).trans KX.out)
            have B3 := Lib.hid (KB.out.grown GS.out KB.out.size (fun k hk => by injection hk with hk; omega))
            have hen := run_entry_at (P := Try.prog) _ W1.heap.size w1.heap.size clock seen es clock e R3.out M3.out hem HST.out.2.1
            have SP := Lib.hid (sumD_push (fE (outP b) (xs.take i)) seen e hes es.toList HST.out.2.1 hem)
            have FE := Lib.hid (fE_at (outP b) (xs.take i) e x ek)
            have LS := Lib.hid (left_shrinks es seen e he)
            have mle : m + fE (outP b) (xs.take i) e ≤ n + 60 := by
              have h1 := sumD_le (fE (outP b) (xs.take i)) (seen.push e.born) es.toList
              have h2 := SP.out
              have h3 := SE.out
              have h4 := CP.out
              have h5 := HM.out
              omega
            rw [FE.out] at mle SP
            rw [ek, ev] at hen ⊢
            clear ek ev FE
            generalize setBlock w2 _ _ = W3 at R3 GS M3 X3 B3 hen ⊢
            unfold bkV at hen ⊢
            go_upto_region 11 with (fail)
            have GY := Lib.hid (show Below W3.heap.size W3 (W3.alloc (.cells #[.int .i16 x.c, .int .u8 x.m0, .int .u8 x.m1, .int .u8 x.m2, .int .i16 x.v, .int .i16 x.wi, .int .i16 x.hi, .int .i16 x.we] 114)) from (Below.refl _ _).alloc (Nat.le_refl _) _)
            have Y4 := Lib.hid (heap_alloc_new W3 (.cells #[.int .i16 x.c, .int .u8 x.m0, .int .u8 x.m1, .int .u8 x.m2, .int .i16 x.v, .int .i16 x.wi, .int .i16 x.hi, .int .i16 x.we] 114))
            have Y3 := Lib.hid (Array.getElem?_eq_some_iff.1 X3.out).1
            generalize World.alloc W3 _ = W4 at GY Y4 ⊢
            have X4 := Lib.hid ((GY.out.block _ Y3.out).trans X3.out)
            have M4 := Lib.hid ((GY.out.block _ (Array.getElem?_eq_some_iff.1 M3.out).1).trans M3.out)
            have R4 := Lib.hid ((GY.out.block _ (Array.getElem?_eq_some_iff.1 R3.out).1).trans R3.out)
            have B4 := Lib.hid (bnext B3.out GY.out)
            have q0 : W4.cell? ⟨wo.heap.size, 0, none⟩ = some (.int .i16 b.c) := cell_of_row W4 _ 0 _ _ _ X4.out
            have q1 : W4.cell? ⟨wo.heap.size, 1, none⟩ = some (.int .u8 b.m0) := cell_of_row W4 _ 1 _ _ _ X4.out
            have q2 : W4.cell? ⟨wo.heap.size, 2, none⟩ = some (.int .u8 b.m1) := cell_of_row W4 _ 2 _ _ _ X4.out
            have q3 : W4.cell? ⟨wo.heap.size, 3, none⟩ = some (.int .u8 b.m2) := cell_of_row W4 _ 3 _ _ _ X4.out
            have q4 : W4.cell? ⟨wo.heap.size, 4, none⟩ = some (.int .i16 b.v) := cell_of_row W4 _ 4 _ _ _ X4.out
            have q5 : W4.cell? ⟨wo.heap.size, 5, none⟩ = some (.int .i16 b.wi) := cell_of_row W4 _ 5 _ _ _ X4.out
            have q6 : W4.cell? ⟨wo.heap.size, 6, none⟩ = some (.int .i16 b.hi) := cell_of_row W4 _ 6 _ _ _ X4.out
            have q7 : W4.cell? ⟨wo.heap.size, 7, none⟩ = some (.int .i16 b.we) := cell_of_row W4 _ 7 _ _ _ X4.out
            have y0 : W4.cell? ⟨W3.heap.size, 0, none⟩ = some (.int .i16 x.c) := cell_of_row W4 _ 0 _ _ _ Y4.out
            have y1 : W4.cell? ⟨W3.heap.size, 1, none⟩ = some (.int .u8 x.m0) := cell_of_row W4 _ 1 _ _ _ Y4.out
            have y2 : W4.cell? ⟨W3.heap.size, 2, none⟩ = some (.int .u8 x.m1) := cell_of_row W4 _ 2 _ _ _ Y4.out
            have y3 : W4.cell? ⟨W3.heap.size, 3, none⟩ = some (.int .u8 x.m2) := cell_of_row W4 _ 3 _ _ _ Y4.out
            have y4 : W4.cell? ⟨W3.heap.size, 4, none⟩ = some (.int .i16 x.v) := cell_of_row W4 _ 4 _ _ _ Y4.out
            have y5 : W4.cell? ⟨W3.heap.size, 5, none⟩ = some (.int .i16 x.wi) := cell_of_row W4 _ 5 _ _ _ Y4.out
            have y6 : W4.cell? ⟨W3.heap.size, 6, none⟩ = some (.int .i16 x.hi) := cell_of_row W4 _ 6 _ _ _ Y4.out
            have y7 : W4.cell? ⟨W3.heap.size, 7, none⟩ = some (.int .i16 x.we) := cell_of_row W4 _ 7 _ _ _ Y4.out
            clear hen
            go_wp2_with fail
            refine (compareBooks_any b x WB.out wx _).mono ?_
            rintro e6 w6 ⟨rfl, g6⟩
            have X6 := Lib.hid ((g6.block _ (Array.getElem?_eq_some_iff.1 X4.out).1).trans X4.out)
            have M6 := Lib.hid ((g6.block _ (Array.getElem?_eq_some_iff.1 M4.out).1).trans M4.out)
            have R6 := Lib.hid ((g6.block _ (Array.getElem?_eq_some_iff.1 R4.out).1).trans R4.out)
            have B6 := Lib.hid (bnext B4.out g6)
            clear q0 q1 q2 q3 q4 q5 q6 q7 y0 y1 y2 y3 y4 y5 y6 y7
            by_cases hu : usual b x < 0
            · have ho : outP b x = true := by unfold outP; simpa using hu
              rw [ho] at mle SP
              generalize usual b x = u at hu ⊢
              generalize (xs.take i).count x = cc at mle SP ⊢
              have mle : m + cc ≤ n + 60 := mle
              have MS := Lib.hid (show m + cc = n + sumD es.toList (seen.push e.born) (fE (outP b) (xs.take i)) by have := SP.out; have := HM.out; simp at *; omega)
              clear ho SP
              go_wp2
              go_roundw
              case rel => exact ⟨m + cc, seen.push e.born, clock, by go_num, MS.out, M6.out, R6.out, Nat.le_refl _, X6.out, B6.out⟩
              case measure => rw [range_left M6.out R6.out, range_left KM.out KR.out]; exact LS.out
            · have ho : outP b x = false := by unfold outP; simpa using hu
              rw [ho] at mle SP
              generalize usual b x = u at hu ⊢
              have MS := Lib.hid (show m = n + sumD es.toList (seen.push e.born) (fE (outP b) (xs.take i)) by have := SP.out; have := HM.out; simp at *; omega)
              clear ho SP mle
              go_wp2
              go_roundw
              case rel => exact ⟨m, seen.push e.born, clock, rfl, MS.out, M6.out, R6.out, Nat.le_refl _, X6.out, B6.out⟩
              case measure => rw [range_left M6.out R6.out, range_left KM.out KR.out]; exact LS.out
      · obtain rfl : i = xs.length := by omega
        go_wp2
        go_ret2
        exact ⟨by rw [E.out, E2.out, HN.out]; rfl, HB.out⟩
end Go.Proofs.Ytblgoflkcomncaa
