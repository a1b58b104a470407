/- WhereIs, by the model and by the program: contracts. Condition: lists no longer than the law tests. -/
import Derived.Test.YtdkdchhkfachmaaWhere2
namespace Go.Proofs.Ytdkdchhkfachmaa
set_option linter.unusedSimpArgs false
set_option linter.unusedVariables false
set_option maxRecDepth 100000
open Go.RowKit

set_option maxHeartbeats 8000000 in
theorem specWhereIs_any (c : Cs) (hv : Value) (A : Option Addr) (m : Nat) (v : Value) (xs : List Bk) (es : List Int) (a : Int) (wc : c.Wf) (wf : ∀ b ∈ xs, b.Wf) (w : World) (sc : IntsOf .i16 w hv c.hs) (mc : c.hs.length ≤ maxLen) (sl : SliceOf w (.slice A xs.length m) xs) (hm : xs.length ≤ m) (ml : xs.length ≤ maxLen) (se : IntsOf .i64 w v es) (me : es.length ≤ maxLen) (ha1 : -9223372036854775808 ≤ a) (ha2 : a ≤ 9223372036854775807) :
    Calls Try.prog 45 #[.agg #[.int .i16 c.wi, .int .i32 c.lo, hv], .slice A xs.length m, v, .int .i64 a] w fun e w' => e = .returned (.tuple #[.int .i64 (whR c xs es a).1, .int .i64 (whR c xs es a).2.1, .int .i64 (whR c xs es a).2.2]) ∧ Below w.heap.size w w' := by
  have G0 := Lib.hid (show Below w.heap.size w (w.alloc (.cells #[.int .i16 c.wi, .int .i32 c.lo, hv] 28)) by go_grown)
  have HB := Lib.hid (CaseAt.new (t := 28) sc)
  have HC := Lib.hid (sc.below G0.out)
  have SL := Lib.hid (sl.below G0.out)
  have SE := Lib.hid (se.below G0.out)
  have WC := Lib.hid wc
  have WF := Lib.hid wf
  have MC := Lib.hid mc
  have ME := Lib.hid me
  have mx : xs.length ≤ 9223372036854775807 := by unfold maxLen at ml; omega
  obtain ⟨H, qh, rfl, -⟩ := sc
  obtain ⟨Ev, qe, rfl, -⟩ := se
  clear sl wc wf mc me
  rcases wh_cases c xs es a with ⟨h, e⟩ | ⟨h, e⟩ | ⟨h, a1, a2, hl, ⟨hr, e⟩ | ⟨b, s, i, k, rfl, hbn, hr, hsh, hse, hs, hi, hk, hib, hbk, hkn, h0, h12, ⟨hll, hlast⟩, e⟩⟩
  · have EQ := Lib.hid h
    have E := Lib.hid e
    clear h e
    go_enter Try.func45, Try.ntmps45
    go_wp2_with fail
    generalize World.alloc _ _ = W0 at G0 HB HC SL SE ⊢
    refine (l02Laid_any c _ A m _ xs es WC.out WF.out _ _ HB.out MC.out SL.out hm ml SE.out ME.out).mono ?_
    rintro e w1 ⟨rfl, g1⟩
    rw [EQ.out]
    go_wp2
    go_ret3
    exact ⟨by rw [E.out]; rfl, bnext G0.out g1⟩
  · have EQ := Lib.hid h
    have E := Lib.hid e
    clear h e
    go_enter Try.func45, Try.ntmps45
    go_wp2_with fail
    generalize World.alloc _ _ = W0 at G0 HB HC SL SE ⊢
    refine (l02Laid_any c _ A m _ xs es WC.out WF.out _ _ HB.out MC.out SL.out hm ml SE.out ME.out).mono ?_
    rintro e w1 ⟨rfl, g1⟩
    rw [EQ.out]
    go_wp2
    go_ret3
    exact ⟨by rw [E.out]; rfl, bnext G0.out g1⟩
  · have EQ := Lib.hid h
    have E := Lib.hid e
    clear a1 a2 hl
    clear h e
    go_enter Try.func45, Try.ntmps45
    go_wp2_with fail
    generalize World.alloc _ _ = W0 at G0 HB HC SL SE ⊢
    refine (l02Laid_any c _ A m _ xs es WC.out WF.out _ _ HB.out MC.out SL.out hm ml SE.out ME.out).mono ?_
    rintro e w1 ⟨rfl, g1⟩
    rw [EQ.out]
    go_wp2_with (go_at_call 61; refine (l00In_any _ _ _ _).mono ?_; rintro e w' ⟨rfl, rfl⟩)
    go_ret3
    exact ⟨by rw [E.out]; rfl, bnext G0.out g1⟩
  · have EQ := Lib.hid h
    have E := Lib.hid e
    have HSH := Lib.hid hsh
    have HI := Lib.hid hi
    have HK := Lib.hid hk
    have HLL := Lib.hid hlast
    have L60 := okB_len a2
    have LB := Lib.hid hl
    have A1 := Lib.hid a1
    have A2 := Lib.hid a2
    clear hsh hi hk hlast a1 a2 hl
    clear h e
    go_enter Try.func45, Try.ntmps45
    go_wp2_with fail
    generalize World.alloc _ _ = W0 at G0 HB HC SL SE ⊢
    refine (l02Laid_any c _ A m _ xs es WC.out WF.out _ _ HB.out MC.out SL.out hm ml SE.out ME.out).mono ?_
    rintro e w1 ⟨rfl, g1⟩
    rw [EQ.out]
    go_wp2_with (go_at_call 61; refine (l00In_any _ _ _ _).mono ?_; rintro e w' ⟨rfl, rfl⟩)
    go_wp2_with fail
    refine (l02Shelf_any _ es _ _ (SE.out.below g1) h0 h12 HLL.out).mono ?_
    rintro e w' ⟨rfl, rfl⟩
    rw [HSH.out]
    go_wp2_with fail
    refine (l02From_any _ es s _ (SE.out.below g1) (by omega) (by omega)).mono ?_
    rintro e w' ⟨rfl, rfl⟩
    rw [HI.out]
    go_wp2
    go_loopw [13, 14] (fun at_ d_ wr => ∃ (d : Nat) (x : Int), x = wT xs i d ∧ i ≤ d ∧ d ≤ b ∧ at_ = .int .i64 x ∧ d_ = .int .i64 (d : Int) ∧ Below w1.heap.size w1 wr) (fun _ d_ _ => b - (intOf d_).toNat)
    case atStart => exact ⟨i, 0, (wT_start xs i).symm, Nat.le_refl _, hib, rfl, rfl, Below.refl _ _⟩
    case round =>
      obtain ⟨d, x, hx, hid, hdb, rfl, rfl, hb⟩ := hrel
      have wb := wT_bd xs i WF.out d (by omega)
      have x1 : -70000000000 ≤ x := by omega
      have x2 : x ≤ 70000000000 := by omega
      have HX := Lib.hid hx
      clear wb hx
      by_cases hlt : d < b
      · obtain ⟨Ga, oa, hA, hga, hat⟩ : ∃ g o, A = some ⟨g, o, none⟩ ∧ g < W0.heap.size ∧ BooksAt W0 g o xs := by
          obtain ⟨A', q', e', se⟩ := SL.out
          obtain ⟨rfl, -, rfl⟩ : A = A' ∧ xs.length = xs.length ∧ m = q' := by injection e' with a b d; exact ⟨a, b, d⟩
          exact se (by omega)
        subst hA
        have hdn : d < xs.length := by omega
        have p5 := (booksAt_some (hat.below (bnext g1 hb) hga) hdn).2.2.2.2.2.1
        obtain ⟨bw1, bw2⟩ := (WF.out _ (List.getElem_mem hdn)).wi
        have EW := Lib.hid (wT_lt hid hdn)
        clear hat
        go_wp2
        go_roundw
        case rel => exact ⟨d + 1, x + xs[d].wi, by rw [EW.out, HX.out], by omega, by omega, by first | rfl | (congr 1), by go_num, hb⟩
        case measure => simp [intOf]; omega
      · obtain rfl : d = b := by omega
        go_wp2
        go_ret3
        exact ⟨by rw [E.out, HX.out]; rfl, bnext (bnext G0.out g1) hb⟩


theorem caseAt2 {w : World} {c : Cs} {hv : Value} {t : TypeId} (o : Obj) (h : IntsOf .i16 w hv c.hs) : CaseAt ((w.alloc (.cells #[.int .i16 c.wi, .int .i32 c.lo, hv] t)).alloc o) w.heap.size c hv :=
  (CaseAt.new h).below ((Below.refl _ _).alloc (Nat.le_refl _) _)

set_option maxHeartbeats 8000000 in
theorem whereIs_any (c : Cs) (hv : Value) (A : Option Addr) (m : Nat) (v : Value) (xs : List Bk) (es : List Int) (a : Int) (wc : c.Wf) (wf : ∀ b ∈ xs, b.Wf) (w : World) (sc : IntsOf .i16 w hv c.hs) (mc : c.hs.length ≤ maxLen) (sl : SliceOf w (.slice A xs.length m) xs) (hm : xs.length ≤ m) (ml : xs.length ≤ maxLen) (se : IntsOf .i64 w v es) (me : es.length ≤ maxLen) (ha1 : -9223372036854775808 ≤ a) (ha2 : a ≤ 9223372036854775807) :
    Calls Try.prog 46 #[.agg #[.int .i16 c.wi, .int .i32 c.lo, hv], .slice A xs.length m, v, .int .i64 a] w fun e w' => e = .returned (.tuple #[.int .i64 (whR c xs es a).1, .int .i64 (whR c xs es a).2.1, .int .i64 (whR c xs es a).2.2]) ∧ Below w.heap.size w w' := by
  have G0 := Lib.hid (show Below w.heap.size w ((w.alloc (.cells #[.int .i16 c.wi, .int .i32 c.lo, hv] 28)).alloc (.cells #[.int .i64 a] 2)) by go_grown)
  have HB := Lib.hid (caseAt2 (t := 28) (.cells #[.int .i64 a] 2) sc)
  have HC := Lib.hid (sc.below G0.out)
  have SL := Lib.hid (sl.below G0.out)
  have SE := Lib.hid (se.below G0.out)
  have WC := Lib.hid wc
  have WF := Lib.hid wf
  have MC := Lib.hid mc
  have ME := Lib.hid me
  have mx : xs.length ≤ 9223372036854775807 := by unfold maxLen at ml; omega
  obtain ⟨H, qh, rfl, -⟩ := sc
  obtain ⟨Ev, qe, rfl, -⟩ := se
  clear sl wc wf mc me
  have BX := Lib.hid (show ((w.alloc (.cells #[.int .i16 c.wi, .int .i32 c.lo, .slice H c.hs.length qh] 28)).alloc (.cells #[.int .i64 a] 2)).cell? ⟨w.heap.size + 1, 0, none⟩ = some (.int .i64 a) by go_simp)
  have BZ := Lib.hid (show w.heap.size + 1 < ((w.alloc (.cells #[.int .i16 c.wi, .int .i32 c.lo, .slice H c.hs.length qh] 28)).alloc (.cells #[.int .i64 a] 2)).heap.size by simp)
  rcases wh_cases c xs es a with ⟨h, e⟩ | ⟨h, e⟩ | ⟨h, a1, a2, hl, ⟨hr, e⟩ | ⟨b, s, i, k, rfl, hbn, hr, hsh, hse, hs, hi, hk, hib, hbk, hkn, h0, h12, ⟨hll, hlast⟩, e⟩⟩
  · have EQ := Lib.hid h
    have E := Lib.hid e
    clear h e
    go_enter Try.func46, Try.ntmps46
    go_wp2_with fail
    generalize World.alloc _ _ = W0 at G0 HB HC SL SE BX BZ ⊢
    refine (layoutOf_any c _ A m _ xs es WF.out _ HC.out MC.out SL.out hm ml SE.out ME.out).mono ?_
    rintro e w1 ⟨u, rfl, ho, g1⟩
    rw [EQ.out]
    have bx := (g1.cell (p := ⟨w.heap.size + 1, 0, none⟩) BZ.out).trans BX.out
    have bz := Nat.lt_of_lt_of_le BZ.out g1.size
    clear ho
    go_wp2
    go_ret3
    exact ⟨by rw [E.out]; rfl, bnext G0.out g1⟩
  · have EQ := Lib.hid h
    have E := Lib.hid e
    clear h e
    go_enter Try.func46, Try.ntmps46
    go_wp2_with fail
    generalize World.alloc _ _ = W0 at G0 HB HC SL SE BX BZ ⊢
    refine (layoutOf_any c _ A m _ xs es WF.out _ HC.out MC.out SL.out hm ml SE.out ME.out).mono ?_
    rintro e w1 ⟨u, rfl, ho, g1⟩
    rw [EQ.out]
    have bx := (g1.cell (p := ⟨w.heap.size + 1, 0, none⟩) BZ.out).trans BX.out
    have bz := Nat.lt_of_lt_of_le BZ.out g1.size
    clear ho
    go_wp2
    go_ret3
    exact ⟨by rw [E.out]; rfl, bnext G0.out g1⟩
  · have EQ := Lib.hid h
    have E := Lib.hid e
    clear a1 a2 hl
    clear h e
    go_enter Try.func46, Try.ntmps46
    go_wp2_with fail
    generalize World.alloc _ _ = W0 at G0 HB HC SL SE BX BZ ⊢
    refine (layoutOf_any c _ A m _ xs es WF.out _ HC.out MC.out SL.out hm ml SE.out ME.out).mono ?_
    rintro e w1 ⟨u, rfl, ho, g1⟩
    rw [EQ.out]
    have bx := (g1.cell (p := ⟨w.heap.size + 1, 0, none⟩) BZ.out).trans BX.out
    have bz := Nat.lt_of_lt_of_le BZ.out g1.size
    clear ho
    go_wp2_with (go_at_call 65; refine (within64_any _ _ _ _).mono ?_; rintro e w' ⟨rfl, rfl⟩)
    go_ret3
    exact ⟨by rw [E.out]; rfl, bnext G0.out g1⟩
  · have EQ := Lib.hid h
    have E := Lib.hid e
    have HSH := Lib.hid hsh
    have HI := Lib.hid hi
    have HK := Lib.hid hk
    have HLL := Lib.hid hlast
    have L60 := okB_len a2
    have LB := Lib.hid hl
    have A1 := Lib.hid a1
    have A2 := Lib.hid a2
    clear hsh hi hk hlast a1 a2 hl
    clear h e
    go_enter Try.func46, Try.ntmps46
    go_wp2_with fail
    generalize World.alloc _ _ = W0 at G0 HB HC SL SE BX BZ ⊢
    refine (layoutOf_any c _ A m _ xs es WF.out _ HC.out MC.out SL.out hm ml SE.out ME.out).mono ?_
    rintro e w1 ⟨u, rfl, ho, g1⟩
    rw [EQ.out]
    have bx := (g1.cell (p := ⟨w.heap.size + 1, 0, none⟩) BZ.out).trans BX.out
    have bz := Nat.lt_of_lt_of_le BZ.out g1.size
    have LN : layN c xs es = es.length := by unfold layN; rw [if_pos EQ.out, lay_len LB.out]
    rw [LN] at ho
    clear LN
    obtain ⟨g, cap, rfl⟩ : ∃ g cap, u = .slice (some ⟨g, 0, none⟩) es.length cap := by
      rcases ho.2 with ⟨_, h⟩ | ⟨g, cap, cur, h, _⟩
      · omega
      · exact ⟨g, cap, h⟩
    have HO := Lib.hid ho
    clear ho
    have BX1 := Lib.hid bx
    go_wp2_with (go_at_call 65; refine (within64_any _ _ _ _).mono ?_; rintro e w' ⟨rfl, rfl⟩)
    go_wp2_with fail
    refine (indexRows_any c A xs es (b : Int) _ g cap _ _ LB.out L60 h0 h12 HLL.out HO.out BX1.out bz).mono ?_
    rintro e w2 ⟨rfl, g2⟩
    rw [HSH.out]
    have hes : es[s] = (k : Int) := by have := HK.out; rw [List.getElem?_eq_getElem hse] at this; simpa using this
    have ho2 := ownBelow HO.out g2
    have e0 := (ho2.cellAt (s * 3 + 0) (by omega)).trans (rowsCs_at c A xs es s 0 (by omega) _ hse)
    rw [getD_ints hse, HI.out, hes] at e0
    simp only [rowCs, Int.toNat_natCast, List.getElem?_cons_zero, List.getElem?_cons_succ, Nat.add_zero] at e0
    have bx2 := (g2.cell (p := ⟨w.heap.size + 1, 0, none⟩) bz).trans BX1.out
    have bz2 := Nat.lt_of_lt_of_le bz g2.size
    have gz2 : g < w2.heap.size := (ho2.lt g rfl).2
    have hsl := run_part3 A xs.length m i b hib (by omega)
    have TP := Lib.hid (show totW (part xs i b) (part xs i b).length = wT xs i b by rw [part_length (by omega), totW_part xs i b (by omega) (b - i) (by omega)]; congr 1; omega)
    have TK := Lib.hid (tot_ok (okB_part i b A2.out))
    have SP := Lib.hid ((SL.out.below (bnext g1 g2)).part hib (by omega) (Nat.le_refl b))
    have PM := Lib.hid (show (part xs i b).length ≤ maxLen by rw [part_length (by omega)]; unfold maxLen; omega)
    have hs1 : (s : Int) < (es.length : Int) := by omega
    have hs0 : (0 : Int) ≤ (s : Int) := by omega
    have b0 : Below w2.heap.size w2 w2.drew := (Below.refl _ _).drew
    have HK2 := Lib.hid (show ∀ W1, Below w2.heap.size w2 W1 → (fun W1 => Below w2.heap.size w2 W1 ∧ W1.cell? ⟨g, s * 3, none⟩ = some (.int .i64 (i : Int)) ∧ W1.cell? ⟨w.heap.size + 1, 0, none⟩ = some (.int .i64 (b : Int))) W1 from
      fun W1 hB => ⟨hB, (hB.cell (p := ⟨g, s * 3, none⟩) gz2).trans e0, (hB.cell (p := ⟨w.heap.size + 1, 0, none⟩) bz2).trans bx2⟩)
    have GG := Lib.hid (bnext (bnext G0.out g1) g2)
    clear hes ho2 bx e0 bx2
    go_wp2
    go_region_held3 (fun W1 => Below w2.heap.size w2 W1 ∧ W1.cell? ⟨g, s * 3, none⟩ = some (.int .i64 (i : Int)) ∧ W1.cell? ⟨w.heap.size + 1, 0, none⟩ = some (.int .i64 (b : Int))) (first | exact HK2.out _ b0 | (refine HK2.out _ (bnext ?_ hq); exact And.left (by assumption)) | (refine HK2.out _ ?_; first | exact Below.alloc H9.out H9.out.size _ | exact ((Below.refl _ _).alloc (Nat.le_refl _) _).drew | exact ((H9.out.setCell (p := ⟨_, _, none⟩) (Nat.le_refl _) _).setCell (p := ⟨_, _, none⟩) (Nat.le_refl _) _).setCell (p := ⟨_, _, none⟩) (Nat.le_refl _) _))
      ((go_at_call 82; refine (totals_any _ (part xs i b) (part_wf i b WF.out) _ (SP.out.below (And.left (by assumption))) PM.out).mono ?_; rintro e w9 ⟨rfl, hq⟩; have H9 := Lib.hid (bnext (show Below w2.heap.size w2 _ from And.left (by assumption)) hq); try (have X9 := (hq.block w2.heap.size (by simp)).trans (heap_alloc_new w2 _); have y0 := cell_of_row _ _ 0 _ _ _ X9; have y1 := cell_of_row _ _ 1 _ _ _ X9; have y2 := cell_of_row _ _ 2 _ _ _ X9; have yf := fun j => frozen_of_row _ _ j _ _ X9; simp only [List.getElem?_toArray, List.getElem?_cons_zero, List.getElem?_cons_succ] at y0 y1 y2; have HX9 := Lib.hid X9; clear X9)))
    all_goals
      rw [TK.out.1, TP.out]
      go_wp2
      go_quiet (fail)
      go_wp2
      go_ret3
      refine ⟨by rw [E.out]; rfl, ?_⟩
      refine below_drewN ?_ _
      first | exact (bnext GG.out H9.out).alloc (bnext GG.out H9.out).size _ | exact bnext GG.out (((H9.out.setCell (p := ⟨_, _, none⟩) (Nat.le_refl _) _).setCell (p := ⟨_, _, none⟩) (Nat.le_refl _) _).setCell (p := ⟨_, _, none⟩) (Nat.le_refl _) _)


end Go.Proofs.Ytdkdchhkfachmaa
