/- ShelfOfClass, by the model and by the program: contracts. Condition: lists no longer than the law tests. -/
import Derived.Test.YtdkdchhkfachmaaClass2
namespace Go.Proofs.Ytdkdchhkfachmaa
set_option linter.unusedSimpArgs false
set_option linter.unusedVariables false
set_option maxRecDepth 100000
open Go.RowKit

theorem info64c : (Try.prog.info? 2).map (fun i => (i.zero, i.size, i.bytes)) = some (some (.int .i64 0), 1, 8) := by kernel_rfl

set_option maxHeartbeats 400000 in
theorem l00Min_le (a b : Int) (w : World) (h : a ≤ b) :
    Calls Try.prog 84 #[.int .i64 a, .int .i64 b] w fun e w' => e = .returned (.int .i64 a) ∧ w = w' := by
  by_cases h1 : a < b
  · go_enter Try.func84, Try.ntmps84
    go_wp2
    go_ret
    exact ⟨rfl, rfl⟩
  · obtain rfl : a = b := by omega
    go_enter Try.func84, Try.ntmps84
    go_wp2
    go_ret
    exact ⟨rfl, rfl⟩


set_option maxHeartbeats 8000000 in
theorem specShelfOfClass_any (c : Cs) (hv : Value) (A : Option Addr) (m : Nat) (v : Value) (xs : List Bk) (es : List Int) (a : Int) (wc : c.Wf) (wf : ∀ b ∈ xs, b.Wf) (w : World) (sc : IntsOf .i16 w hv c.hs) (mc : c.hs.length ≤ maxLen) (sl : SliceOf w (.slice A xs.length m) xs) (hm : xs.length ≤ m) (ml : xs.length ≤ maxLen) (se : IntsOf .i64 w v es) (me : es.length ≤ maxLen) :
    Calls Try.prog 49 #[.agg #[.int .i16 c.wi, .int .i32 c.lo, hv], .slice A xs.length m, v, .int .i64 a] w fun e w' => e = .returned (.tuple #[.int .i64 (scR c xs es a).1, .int .i64 (scR c xs es a).2.1, .int .i64 (scR c xs es a).2.2]) ∧ Below w.heap.size w w' := by
  have G0 := Lib.hid (show Below w.heap.size w (w.alloc (.cells #[.int .i16 c.wi, .int .i32 c.lo, hv] 28)) by go_grown)
  have HB := Lib.hid (CaseAt.new (t := 28) sc)
  have HC := Lib.hid (sc.below G0.out)
  have SL := Lib.hid (sl.below G0.out)
  have SE := Lib.hid (se.below G0.out)
  have WC := Lib.hid wc
  have WF := Lib.hid wf
  have MC := Lib.hid mc
  have ME := Lib.hid me
  obtain ⟨H, qh, rfl, -⟩ := sc
  obtain ⟨Ev, qe, rfl, -⟩ := se
  clear sl wc wf mc me
  rcases sc_cases c xs es a with ⟨h, e⟩ | ⟨h, e⟩ | ⟨h, a1, a2, hl, hx⟩
  · have EQ := Lib.hid h
    have E := Lib.hid e
    clear h e
    go_enter Try.func49, Try.ntmps49
    go_wp2_with fail
    generalize World.alloc _ _ = W0 at G0 HB HC SL SE ⊢
    refine (l02Laid_any c _ A m _ xs es WC.out WF.out _ _ HB.out MC.out SL.out hm ml SE.out ME.out).mono ?_
    rintro e w1 ⟨rfl, g1⟩
    rw [EQ.out]
    go_wp2
    go_ret3
    exact ⟨by rw [E.out]; rfl, bnext G0.out g1⟩
  · have EQ := Lib.hid h
    have E := Lib.hid e
    clear h e
    go_enter Try.func49, Try.ntmps49
    go_wp2_with fail
    generalize World.alloc _ _ = W0 at G0 HB HC SL SE ⊢
    refine (l02Laid_any c _ A m _ xs es WC.out WF.out _ _ HB.out MC.out SL.out hm ml SE.out ME.out).mono ?_
    rintro e w1 ⟨rfl, g1⟩
    rw [EQ.out]
    go_wp2
    go_ret3
    exact ⟨by rw [E.out]; rfl, bnext G0.out g1⟩
  · have EQ := Lib.hid h
    have L60 := okB_len a2
    have LB := Lib.hid hl
    have A1 := Lib.hid a1
    have HX := Lib.hid hx
    obtain ⟨cl1, cl2⟩ := caseB_lens a1
    have LE := Lib.hid (lay_len hl)
    have hle0 : 0 < es.length := by have := LE.out; omega
    have hle : es.length ≤ 12 := by have := LE.out; omega
    clear h a1 a2 hl hx
    go_enter Try.func49, Try.ntmps49
    go_wp2_with fail
    generalize World.alloc _ _ = W0 at G0 HB HC SL SE ⊢
    refine (l02Laid_any c _ A m _ xs es WC.out WF.out _ _ HB.out MC.out SL.out hm ml SE.out ME.out).mono ?_
    rintro e w1 ⟨rfl, g1⟩
    rw [EQ.out]
    go_wp2
    go_loopw [12, 13, 14] (fun f_ l_ i_ wr => ∃ (j : Nat) (f l : Int), scF xs es a j = (f, l) ∧ j ≤ xs.length ∧ f_ = .int .i64 f ∧ l_ = .int .i64 l ∧ i_ = .int .i64 (j : Int) ∧ Below w1.heap.size w1 wr) (fun _ _ i_ _ => xs.length - (intOf i_).toNat)
    case atStart => exact ⟨0, -1, -1, rfl, Nat.zero_le _, rfl, rfl, rfl, Below.refl _ _⟩
    case round =>
      obtain ⟨j, f, l, hs, hj, rfl, rfl, rfl, hb⟩ := hrel
      have HS := Lib.hid hs
      clear hs
      by_cases hlt : j < xs.length
      · obtain ⟨Ga, oa, hA, hga, hat⟩ : ∃ g o, A = some ⟨g, o, none⟩ ∧ g < W0.heap.size ∧ BooksAt W0 g o xs := by
          obtain ⟨A', q', e', se⟩ := SL.out
          obtain ⟨rfl, -, rfl⟩ : A = A' ∧ xs.length = xs.length ∧ m = q' := by injection e' with a b d; exact ⟨a, b, d⟩
          exact se (by omega)
        subst hA
        have p0 := (booksAt_some (hat.below (bnext g1 hb) hga) hlt).1
        obtain ⟨bw1, bw2⟩ := (WF.out _ (List.getElem_mem hlt)).c
        clear hat
        cases hc : (xs[j].c == a)
        · have E2 := Lib.hid (show scF xs es a (j + 1) = (f, l) by rw [scF, getD_in_books hlt, if_neg (by simpa using hc), HS.out])
          go_wp2
          go_roundw
          case rel => exact ⟨j + 1, f, l, E2.out, by omega, rfl, rfl, by go_num, hb⟩
          case measure => simp [intOf]; omega
        · obtain ⟨h0, h12, ⟨hll, hlast⟩, -⟩ := lay_book A1.out LB.out hlt
          have HLL := Lib.hid hlast
          clear hlast
          have hsn : (shOf es (j : Int) : Int) ≥ 0 := by omega
          by_cases hf : f < 0
          · have E2 := Lib.hid (show scF xs es a (j + 1) = ((shOf es (j : Int) : Int), (shOf es (j : Int) : Int)) by rw [scF, getD_in_books hlt, if_pos (by simpa using hc), HS.out, if_pos hf])
            go_wp2_with fail
            refine (l02Shelf_any _ es _ _ (SE.out.below (bnext g1 hb)) h0 h12 HLL.out).mono ?_
            rintro e w' ⟨rfl, rfl⟩
            generalize (shOf es (j : Int) : Int) = sh at E2 hsn ⊢
            go_wp2
            go_roundw
            case rel => exact ⟨j + 1, sh, sh, E2.out, by omega, rfl, rfl, by go_num, hb⟩
            case measure => simp [intOf]; omega
          · have E2 := Lib.hid (show scF xs es a (j + 1) = (f, (shOf es (j : Int) : Int)) by rw [scF, getD_in_books hlt, if_pos (by simpa using hc), HS.out, if_neg hf])
            go_wp2_with fail
            refine (l02Shelf_any _ es _ _ (SE.out.below (bnext g1 hb)) h0 h12 HLL.out).mono ?_
            rintro e w' ⟨rfl, rfl⟩
            generalize (shOf es (j : Int) : Int) = sh at E2 hsn ⊢
            go_wp2
            go_roundw
            case rel => exact ⟨j + 1, f, sh, E2.out, by omega, rfl, rfl, by go_num, hb⟩
            case measure => simp [intOf]; omega
      · obtain rfl : j = xs.length := by omega
        rcases HX.out with ⟨-, e1, e2⟩ | ⟨f', l', -, -, -, e1, e3, e4, e5, e2⟩
        · rw [e1] at HS
          obtain ⟨rfl, rfl⟩ : (-1 : Int) = f ∧ (-1 : Int) = l := by have := HS.out; injection this with a b; exact ⟨a, b⟩
          have E := Lib.hid e2
          clear e1 e2
          go_wp2
          go_ret3
          exact ⟨by rw [E.out]; rfl, bnext (bnext G0.out g1) hb⟩
        · rw [e1] at HS
          obtain ⟨rfl, rfl⟩ : f' = f ∧ l' = l := by have := HS.out; injection this with a b; exact ⟨a, b⟩
          have E := Lib.hid e2
          have hl0 : 0 ≤ l' := by omega
          clear e1 e2
          go_wp2_with fail
          refine (l00Min_le _ _ _ e4).mono ?_
          rintro e w' ⟨rfl, rfl⟩
          go_wp2
          go_ret3
          exact ⟨by rw [E.out]; rfl, bnext (bnext G0.out g1) hb⟩


set_option maxHeartbeats 8000000 in
theorem shelfOfClass_any (c : Cs) (hv : Value) (A : Option Addr) (m : Nat) (v : Value) (xs : List Bk) (es : List Int) (a : Int) (wc : c.Wf) (wf : ∀ b ∈ xs, b.Wf) (w : World) (sc : IntsOf .i16 w hv c.hs) (mc : c.hs.length ≤ maxLen) (sl : SliceOf w (.slice A xs.length m) xs) (hm : xs.length ≤ m) (ml : xs.length ≤ maxLen) (se : IntsOf .i64 w v es) (me : es.length ≤ maxLen) :
    Calls Try.prog 50 #[.agg #[.int .i16 c.wi, .int .i32 c.lo, hv], .slice A xs.length m, v, .int .i64 a] w fun e w' => e = .returned (.tuple #[.int .i64 (scR c xs es a).1, .int .i64 (scR c xs es a).2.1, .int .i64 (scR c xs es a).2.2]) ∧ Below w.heap.size w w' := by
  have G0 := Lib.hid (show Below w.heap.size w ((w.alloc (.cells #[.int .i16 c.wi, .int .i32 c.lo, hv] 28)).alloc (.cells #[.int .i64 a] 2)) by go_grown)
  have HB := Lib.hid (caseAt2 (t := 28) (.cells #[.int .i64 a] 2) sc)
  have HC := Lib.hid (sc.below G0.out)
  have SL := Lib.hid (sl.below G0.out)
  have SE := Lib.hid (se.below G0.out)
  have WC := Lib.hid wc
  have WF := Lib.hid wf
  have MC := Lib.hid mc
  have ME := Lib.hid me
  obtain ⟨H, qh, rfl, -⟩ := sc
  obtain ⟨Ev, qe, rfl, -⟩ := se
  clear sl wc wf mc me
  have BX := Lib.hid (show ((w.alloc (.cells #[.int .i16 c.wi, .int .i32 c.lo, .slice H c.hs.length qh] 28)).alloc (.cells #[.int .i64 a] 2)).cell? ⟨w.heap.size + 1, 0, none⟩ = some (.int .i64 a) by go_simp)
  have BZ := Lib.hid (show w.heap.size + 1 < ((w.alloc (.cells #[.int .i16 c.wi, .int .i32 c.lo, .slice H c.hs.length qh] 28)).alloc (.cells #[.int .i64 a] 2)).heap.size by simp)
  rcases sc_cases c xs es a with ⟨h, e⟩ | ⟨h, e⟩ | ⟨h, a1, a2, hl, hx⟩
  · have EQ := Lib.hid h
    have E := Lib.hid e
    clear h e
    go_enter Try.func50, Try.ntmps50
    go_wp2_with fail
    generalize World.alloc _ _ = W0 at G0 HB HC SL SE BX BZ ⊢
    refine (layoutOf_any c _ A m _ xs es WF.out _ HC.out MC.out SL.out hm ml SE.out ME.out).mono ?_
    rintro e w1 ⟨u, rfl, ho, g1⟩
    rw [EQ.out]
    clear ho
    go_wp2
    go_ret3
    exact ⟨by rw [E.out]; rfl, bnext G0.out g1⟩
  · have EQ := Lib.hid h
    have E := Lib.hid e
    clear h e
    go_enter Try.func50, Try.ntmps50
    go_wp2_with fail
    generalize World.alloc _ _ = W0 at G0 HB HC SL SE BX BZ ⊢
    refine (layoutOf_any c _ A m _ xs es WF.out _ HC.out MC.out SL.out hm ml SE.out ME.out).mono ?_
    rintro e w1 ⟨u, rfl, ho, g1⟩
    rw [EQ.out]
    clear ho
    go_wp2
    go_ret3
    exact ⟨by rw [E.out]; rfl, bnext G0.out g1⟩
  · have EQ := Lib.hid h
    have L60 := okB_len a2
    have LB := Lib.hid hl
    have HX := Lib.hid hx
    obtain ⟨cl1, cl2⟩ := caseB_lens a1
    have LE := Lib.hid (lay_len hl)
    have hle0 : 0 < es.length := by have := LE.out; omega
    have hle : es.length ≤ 12 := by have := LE.out; omega
    obtain ⟨i0, hi0, hz0, hz1, hz2⟩ := info_parts info64c
    clear h a1 a2 hl hx
    go_enter Try.func50, Try.ntmps50
    go_wp2_with fail
    generalize World.alloc _ _ = W0 at G0 HB HC SL SE BX BZ ⊢
    refine (layoutOf_any c _ A m _ xs es WF.out _ HC.out MC.out SL.out hm ml SE.out ME.out).mono ?_
    rintro e w1 ⟨u, rfl, ho, g1⟩
    rw [EQ.out]
    have LN : layN c xs es = es.length := by unfold layN; rw [if_pos EQ.out, LE.out]
    rw [LN] at ho
    clear LN
    obtain ⟨g, cap, rfl⟩ : ∃ g cap, u = .slice (some ⟨g, 0, none⟩) es.length cap := by
      rcases ho.2 with ⟨_, h⟩ | ⟨g, cap, cur, h, _⟩
      · omega
      · exact ⟨g, cap, h⟩
    have HO := Lib.hid ho
    have BX1 := Lib.hid ((g1.cell (p := ⟨w.heap.size + 1, 0, none⟩) BZ.out).trans BX.out)
    have BZ1 := Lib.hid (Nat.lt_of_lt_of_le BZ.out g1.size)
    clear ho
    go_wp2
    go_loopw [13, 28] (fun v_ s_ wr => ∃ j : Nat, j ≤ es.length ∧ s_ = .int .i64 (j : Int) ∧ wr.ownsRow w1.heap.size 2 1 v_ (scL xs es a j).length ((scL xs es a j).map (Value.int .i64)) ∧ Below w1.heap.size w1 wr) (fun _ s_ _ => es.length - (intOf s_).toNat)
    case atStart => exact ⟨0, Nat.zero_le _, rfl, ⟨rfl, .inl ⟨rfl, rfl⟩⟩, Below.refl _ _⟩
    case round =>
      obtain ⟨j, hj, rfl, hown, hb⟩ := hrel
      have OW := Lib.hid hown
      clear hown
      by_cases hlt : j < es.length
      · obtain ⟨-, i, k, hi, hk, hik, hkn, -⟩ := lay_at LB.out hlt
        have ho := ownBelow HO.out hb
        have e0 := (ho.cellAt (j * 3 + 0) (by omega)).trans (rowsCs_at c A xs es j 0 (by omega) _ hlt)
        have e1 := (ho.cellAt (j * 3 + 1) (by omega)).trans (rowsCs_at c A xs es j 1 (by omega) _ hlt)
        have e2 := (ho.cellAt (j * 3 + 2) (by omega)).trans (rowsCs_at c A xs es j 2 (by omega) _ hlt)
        have CA := Lib.hid (show clAny xs es a j = (part xs i k).any (fun b => b.c == a) by unfold clAny; rw [hi, getD_ints hlt, hk]; simp)
        rw [getD_ints hlt, hi, hk] at e0 e1 e2
        simp only [rowCs, Int.toNat_natCast, List.getElem?_cons_zero, List.getElem?_cons_succ, Nat.add_zero] at e0 e1 e2
        have bx := Lib.hid ((hb.cell (p := ⟨w.heap.size + 1, 0, none⟩) BZ1.out).trans BX1.out)
        have bz := Nat.lt_of_lt_of_le BZ1.out hb.size
        have SP := Lib.hid ((SL.out.below (bnext g1 hb)).part hik hkn (Nat.le_refl k))
        have PM := Lib.hid (show (part xs i k).length ≤ 60 by rw [part_length hkn]; omega)
        have hLen := scL_len xs es a j
        clear ho hi hk
        generalize freeB c (part xs i k) = fr at *
        have AL := Lib.hid ((Below.refl wr.heap.size wr).alloc (Nat.le_refl _) (.cells #[.int .i64 (i : Int), .slice (subA A i k) (k - i) (k - i), .int .i64 fr] 79))
        have BX2 := Lib.hid ((AL.out.cell (p := ⟨w.heap.size + 1, 0, none⟩) bz).trans bx.out)
        have BZ2 := Lib.hid (Nat.lt_of_lt_of_le bz AL.out.size)
        go_wp2_with fail
        generalize World.alloc _ _ = W3 at AL BX2 BZ2 ⊢
        refine (containsBooks_any _ (part xs i k) a _ (part_wf i k WF.out) _ (SP.out.below AL.out) PM.out BX2.out BZ2.out).mono ?_
        rintro e w3 ⟨rfl, g3⟩
        rw [← CA.out]
        clear e0 e1 e2
        have OW3 := Lib.hid (ownBelow (ownBelow OW.out AL.out) g3)
        have B3 := Lib.hid (bnext hb (bnext AL.out g3))
        have hsz := B3.out.size
        cases hca : clAny xs es a j
        · have E2 := Lib.hid (show scL xs es a (j + 1) = scL xs es a j by rw [scL, hca]; simp)
          clear hca
          go_wp2
          go_roundw
          case rel => exact ⟨j + 1, by omega, by go_num, by rw [E2.out]; exact OW3.out, B3.out⟩
          case measure => simp [intOf]; omega
        · have E2 := Lib.hid (show scL xs es a (j + 1) = scL xs es a j ++ [(j : Int)] by rw [scL, hca]; simp)
          clear hca
          go_wp2_with (at_builtin; refine wpList_append_own _ rfl (.tmp 37) (.tmp 39) _ rfl w1.heap.size 2 i0 (.int .i64 0) 1 8 Try.underlying41 hi0 hz0 hz1 hz2 rfl (by decide) _ _ _ rfl (OW3.out.alloc _) ⟨w3.heap.size, 0, none⟩ 1 1 [.int .i64 (j : Int)] rfl rfl ?c1 ?c2 ?c3 ?c4 ?c5 ?_)
          case c1 => exact cell_one_new _ _ _
          case c2 => (intro u hu; simp at hu; subst hu; rfl)
          case c3 => (unfold maxLen; omega)
          case c4 => omega
          case c5 => (simp; omega)
          intro v' w4 hown' hgrow' _
          have OW' := Lib.hid hown'
          have g4 : Below w1.heap.size w1 w4 := (B3.out.alloc hsz _).grown hgrow' (by simp; omega) (fun k hk => (OW3.out.lt k hk).1)
          clear hown' hgrow'
          go_wp2
          go_roundw
          case rel => exact ⟨j + 1, by omega, by go_num, by rw [E2.out]; simpa using OW'.out, g4⟩
          case measure => simp [intOf]; omega
      · obtain rfl : j = es.length := by omega
        have hLen := scL_len xs es a es.length
        rcases HX.out with ⟨e1, -, e2⟩ | ⟨f', l', e1, e3, e4, -, e5, e6, e7, e2⟩
        · rw [← LE.out] at e1
          have OWX := OW.out
          rw [e1] at OWX
          obtain ⟨X, cp, rfl⟩ : ∃ X cp, u13 = .slice X 0 cp := by
            rcases OWX.2 with ⟨h, _⟩ | ⟨g, cap, cur, h, _⟩
            · exact ⟨_, _, h⟩
            · exact ⟨_, _, h⟩
          have E := Lib.hid e2
          clear e1 e2 OWX
          go_wp2
          go_ret3
          exact ⟨by rw [E.out]; rfl, bnext (bnext G0.out g1) hb⟩
        · rw [← LE.out] at e1 e3 e4
          have hpos : 0 < (scL xs es a es.length).length := List.length_pos_iff.2 e1
          obtain ⟨g5, cp, rfl⟩ : ∃ g cp, u13 = .slice (some ⟨g, 0, none⟩) (scL xs es a es.length).length cp := by
            rcases OW.out.2 with ⟨_, h⟩ | ⟨g, cap, cur, h, _⟩
            · omega
            · exact ⟨g, cap, h⟩
          have d0 := OW.out.cellAt 0 (by omega)
          have d1 := OW.out.cellAt ((scL xs es a es.length).length - 1) (by omega)
          have f0 : ((scL xs es a es.length).map (Value.int .i64))[0]? = some (.int .i64 f') := by
            rw [← e3]; rcases hl : scL xs es a es.length with _ | ⟨z, l⟩
            · exact absurd hl e1
            · simp [hd]
          have f1 : ((scL xs es a es.length).map (Value.int .i64))[(scL xs es a es.length).length - 1]? = some (.int .i64 l') := by
            rw [← e4]; unfold lst
            rw [List.getLastD_eq_getLast?, List.getLast?_eq_getElem?, List.getElem?_map, List.getElem?_eq_getElem (by omega)]
            rfl
          rw [f0] at d0
          rw [f1] at d1
          have E := Lib.hid e2
          have gz : g5 < wr.heap.size := (OW.out.lt g5 rfl).2
          clear e1 e2 e3 e4 f0 f1
          generalize hL : (scL xs es a es.length).length = L at *
          have HL := Lib.hid hL
          clear hL
          have n0 : ((L : Int) == 0) = false := by simp; omega
          have n1 : (0 : Int) < (L : Int) := by omega
          have n2 : (0 : Int) ≤ (L : Int) - 1 := by omega
          have n3 : (L : Int) - 1 < (L : Int) := by omega
          have n4 : ((L : Int) - 1).toNat = L - 1 := by omega
          go_wp2
          go_quiet (fail)
          go_wp2
          go_ret3
          exact ⟨by rw [E.out]; rfl, below_drewN (bnext (bnext G0.out g1) hb) _⟩


end Go.Proofs.Ytdkdchhkfachmaa
