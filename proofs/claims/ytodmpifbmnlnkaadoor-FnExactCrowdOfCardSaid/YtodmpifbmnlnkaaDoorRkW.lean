/- The longest rows of a rack, by the model and by the program: contracts. Condition: at most 1048576 books, whose numbers lie within their kinds; the two error variables hold errors of errors.New's make. -/
import Derived.Test.YtodmpifbmnlnkaaDoorRkF
namespace Go.Proofs.YtodmpifbmnlnkaaDoor
set_option linter.unusedSimpArgs false
set_option linter.unusedVariables false
set_option maxRecDepth 100000
open Go.RowKit Go.Sort

noncomputable def cwC (r : Rk) (t : Bool) : Int := if rkB r then (if (lrow t r.ps r.n.toNat).2.1 = 0 then 6 else 0) else 1
noncomputable def cwA (r : Rk) (t : Bool) : Int := if rkB r then (if (lrow t r.ps r.n.toNat).2.1 = 0 then 0 else (lrow t r.ps r.n.toNat).1) else 0
noncomputable def cwN (r : Rk) (t : Bool) : Int := if rkB r then (if (lrow t r.ps r.n.toNat).2.1 = 0 then 0 else (lrow t r.ps r.n.toNat).2.1) else 0
theorem cw_cases (r : Rk) (t : Bool) : (rkB r = false ∧ cwA r t = 0 ∧ cwN r t = 0 ∧ cwC r t = 1) ∨ (rkB r = true ∧ (lrow t r.ps r.n.toNat).2.1 = 0 ∧ cwA r t = 0 ∧ cwN r t = 0 ∧ cwC r t = 6) ∨ (rkB r = true ∧ ¬ (lrow t r.ps r.n.toNat).2.1 = 0 ∧ cwA r t = (lrow t r.ps r.n.toNat).1 ∧ cwN r t = (lrow t r.ps r.n.toNat).2.1 ∧ cwC r t = 0) := by
  unfold cwA cwN cwC
  cases h1 : rkB r
  · exact .inl ⟨rfl, rfl, rfl, rfl⟩
  · by_cases h2 : (lrow t r.ps r.n.toNat).2.1 = 0
    · exact .inr (.inl ⟨rfl, h2, by simp [h2], by simp [h2], by simp [h2]⟩)
    · exact .inr (.inr ⟨rfl, h2, by simp [h2], by simp [h2], by simp [h2]⟩)

set_option maxHeartbeats 8000000 in
theorem l05Row_any (r : Rk) (hv : Value) (wf : r.Wf) (t : Bool) (g o : Nat) (w : World) (ha : RackAt w g o r hv) (hk : rkB r = true) :
    Calls Tryd.prog 64 #[.pointer (some ⟨g, o, none⟩), .bool t] w fun e w' => e = .returned (.tuple #[.int .i64 (lrow t r.ps r.n.toNat).1, .int .i64 (lrow t r.ps r.n.toNat).2.1]) ∧ Below w.heap.size w w' := by
  have HA := Lib.hid ha
  have C := Lib.hid (l05Taken_any r hv wf g o w ha hk)
  obtain ⟨en, en1, en2, e4⟩ := rk_nat hk
  obtain ⟨n, hn⟩ : ∃ n, r.n.toNat = n := ⟨_, rfl⟩
  rw [hn] at en en1 en2 ⊢
  have zg := ha.low
  have c0 := ha.n
  rw [en] at c0
  have C0 := Lib.hid c0
  clear ha wf hk e4 hn en c0
  go_enter Tryd.func64, Tryd.ntmps64
  go_wp2_with fail
  refine C.out.mono ?_
  rintro e w2 ⟨rfl, h2⟩
  have B2 := Lib.hid h2
  have zz2 := h2.size
  clear h2
  go_upto_region 1 with (fail)
  have B3 := Lib.hid (show Below w2.heap.size w2 (World.alloc w2 (.cells (tkL [] 0).toArray 84)) from (Below.refl _ _).alloc (Nat.le_refl _) _)
  have T3 := Lib.hid (there_new w2 (tkL [] 0).toArray 84 rfl)
  change Oper.upon _ _ _ _ _ (Result.andThen (Sem.run _ _ (World.alloc w2 (.cells (tkL [] 0).toArray 84))) _)
  generalize World.alloc w2 _ = w3 at B3 T3 ⊢
  rw [stTk r.ps r.ps.length w2.heap.size w3 T3.out]
  have K4 := Lib.hid (show TkAt (w3.setCells w2.heap.size 0 (tkL r.ps r.ps.length)) w2.heap.size r.ps r.ps.length from ⟨World.rangeAt_setCells_same w3 w2.heap.size 0 (tkL r.ps r.ps.length) (by rw [tkL_length]; exact T3.out), World.there_setCells T3.out _ _ _⟩)
  have b4 := setCells_below (g := w2.heap.size) (Nat.le_refl _) (tkL r.ps r.ps.length) 0 w3 B3.out
  have C4 := Lib.hid ((bnext B2.out b4).cell (p := ⟨g, o, none⟩) zg |>.trans C0.out)
  have B4 := Lib.hid (bnext B2.out b4)
  clear b4
  generalize World.setCells w3 _ _ _ = w4 at K4 B4 C4 ⊢
  have L0 := Lib.hid (show lrow t r.ps 0 = (0, 0, 0) from rfl)
  have c4 := C4.out
  have n0 : (n : Int) ≤ 60 := by omega
  go_wp2
  go_loopw [7, 8, 9, 10] (fun b_ m_ f_ k_ wr => ∃ (k : Nat) (b m f : Int), b = (lrow t r.ps k).1 ∧ m = (lrow t r.ps k).2.1 ∧ f = (lrow t r.ps k).2.2 ∧ k ≤ n ∧ k_ = .int .i64 (k : Int) ∧ b_ = .int .i64 b ∧ m_ = .int .i64 m ∧ f_ = .int .i64 f ∧ wr = w4) (fun _ _ _ k_ _ => n - (intOf k_).toNat)
  case atStart => exact ⟨0, 0, 0, 0, rfl, rfl, rfl, Nat.zero_le _, rfl, rfl, rfl, rfl, rfl⟩
  case round =>
    obtain ⟨k, b, m, f, hb, hm, hf, hk, rfl, rfl, rfl, rfl, rfl⟩ := hrel
    have LB := lrow_bd t r.ps k
    rw [← hb, ← hm, ← hf] at LB
    obtain ⟨⟨b0, b1⟩, ⟨m0, m1⟩, ⟨f0, f1⟩⟩ := LB
    have HB := Lib.hid hb
    have HM := Lib.hid hm
    have HF := Lib.hid hf
    clear hb hm hf
    by_cases hlt : k < n
    · have q0 := K4.out.all k (by omega)
      have k6 : (k : Int) < 60 := by omega
      have k0 : (0 : Int) ≤ (k : Int) := by omega
      have kn : (k : Int) < (n : Int) := by omega
      have LO := Lib.hid (fun h => lrow_other (t := t) (ps := r.ps) (j := k) h)
      have LM := Lib.hid (fun h h2 => lrow_more (t := t) (ps := r.ps) (j := k) h h2)
      have LL := Lib.hid (fun h h2 => lrow_less (t := t) (ps := r.ps) (j := k) h h2)
      generalize tkB r.ps k = x at q0 LO LM LL
      have hxy : (x != t) = !(x == t) := rfl
      cases hx : (x != t)
      · have hy : (x == t) = true := by rw [hx] at hxy; simpa using hxy.symm
        clear hxy
        by_cases hmo : m < (k : Int) - f + 1
        · have FE := Lib.hid (LM.out hx (by rw [← HM.out, ← HF.out]; exact hmo))
          go_wp2
          go_roundw
          case rel => exact ⟨k + 1, f, (k : Int) - f + 1, f, by rw [FE.out]; exact HF.out, by rw [FE.out, HF.out], by rw [FE.out]; exact HF.out, by omega, by go_num, rfl, rfl, rfl, by first | rfl | trivial⟩
          case measure => simp [intOf]; omega
        · have FE := Lib.hid (LL.out hx (by rw [← HM.out, ← HF.out]; exact hmo))
          have hmo' : (k : Int) - f + 1 ≤ m := by omega
          go_wp2
          go_roundw
          case rel => exact ⟨k + 1, b, m, f, by rw [FE.out]; exact HB.out, by rw [FE.out]; exact HM.out, by rw [FE.out]; exact HF.out, by omega, by go_num, rfl, rfl, rfl, by first | rfl | trivial⟩
          case measure => simp [intOf]; omega
      · have hy : (x == t) = false := by rw [hx] at hxy; simpa using hxy.symm
        clear hxy
        have FE := Lib.hid (LO.out hx)
        go_wp2
        go_roundw
        case rel => exact ⟨k + 1, b, m, (k : Int) + 1, by rw [FE.out]; exact HB.out, by rw [FE.out]; exact HM.out, by rw [FE.out], by omega, by go_num, rfl, rfl, rfl, by first | rfl | trivial⟩
        case measure => simp [intOf]; omega
    · obtain rfl : k = n := by omega
      go_wp2
      go_ret2
      exact ⟨by rw [← HB.out, ← HM.out]; rfl, B4.out⟩

set_option maxHeartbeats 8000000 in
theorem longestRow_any (r : Rk) (hv : Value) (wf : r.Wf) (t : Bool) (w : World) (s i : Addr) (he : Er2 w s i) (hs : PlsOf w hv r.ps) (hn : r.ps.length ≤ 1048576) :
    Calls Tryd.prog 65 #[.agg #[.int .i16 r.n, hv], .bool t] w fun e w' => e = .returned (.tuple #[.int .i64 (cwA r t), .int .i64 (cwN r t), .int .i64 (cwC r t)]) ∧ Below w.heap.size w w' := by
  have HE := Lib.hid he
  have WF := Lib.hid wf
  have HS := Lib.hid hs
  obtain ⟨A, c, rfl, -⟩ := hs
  have G0 := Lib.hid (show Below w.heap.size w (w.alloc (.cells #[.int .i16 r.n, .slice A r.ps.length c] 30)) by go_grown)
  clear he wf
  have CW := Lib.hid (cw_cases r t)
  cases hk : rkB r
  · have E := Lib.hid (show cwA r t = 0 ∧ cwN r t = 0 ∧ cwC r t = 1 by
      rcases CW.out with ⟨_, e1, e2, e3⟩ | ⟨h, _⟩ | ⟨h, _⟩
      · exact ⟨e1, e2, e3⟩
      · rw [hk] at h; cases h
      · rw [hk] at h; cases h)
    have HC := Lib.hid (show rkC r = 1 by unfold rkC; rw [hk]; rfl)
    clear hk
    go_enter Tryd.func65, Tryd.ntmps65
    go_wp2_with fail
    refine (placesOf_any r _ WF.out _ s i (HE.out.below G0.out) (HS.out.below G0.out) hn).mono ?_
    rintro e w1 ⟨v, rfl, -, g1⟩
    rw [HC.out]
    have B1 := Lib.hid (bnext G0.out g1)
    go_wp2
    go_ret3
    exact ⟨by rw [E.out.1, E.out.2.1, E.out.2.2]; rfl, B1.out⟩
  · have HC := Lib.hid (show rkC r = 0 by unfold rkC; rw [hk]; rfl)
    have HK := Lib.hid hk
    obtain ⟨en, en1, en2, e4⟩ := rk_nat hk
    have TK := Lib.hid (fun (k : Nat) (hk2 : k < (plc r.n.toNat r.ps).length) => show (plc r.n.toNat r.ps)[k].t = tkB r.ps k by
      have := plc_tk e4 (j := k) (by rw [plc_length] at hk2; exact hk2)
      rwa [getD_pc (List.getElem?_eq_getElem hk2)] at this)
    have PLN := Lib.hid (plc_length r.n.toNat r.ps)
    clear hk en e4
    go_enter Tryd.func65, Tryd.ntmps65
    go_wp2_with fail
    refine (placesOf_any r _ WF.out _ s i (HE.out.below G0.out) (HS.out.below G0.out) hn).mono ?_
    rintro e w1 ⟨v, rfl, hpl, g1⟩
    rw [HC.out]
    obtain ⟨gp, rfl, hgp, hr⟩ := hpl.ok HK.out
    have RR := Lib.hid hr
    have B1 := Lib.hid (bnext G0.out g1)
    have zgp := hr.lt
    clear hpl hr
    obtain ⟨n, hn⟩ : ∃ n, r.n.toNat = n := ⟨_, rfl⟩
    rw [hn] at en1 en2 TK PLN RR CW ⊢
    have n0 : (n : Int) ≤ 60 := by omega
    clear hn
    go_wp2
    go_loopw [9, 10, 11, 25] (fun b_ m_ f_ k_ wr => ∃ (k : Nat) (b m f : Int), b = (lrow t r.ps k).1 ∧ m = (lrow t r.ps k).2.1 ∧ f = (lrow t r.ps k).2.2 ∧ k ≤ n ∧ k_ = .int .i64 (k : Int) ∧ b_ = .int .i64 b ∧ m_ = .int .i64 m ∧ f_ = .int .i64 f ∧ Below w1.heap.size w1 wr) (fun _ _ _ k_ _ => n - (intOf k_).toNat)
    case atStart => exact ⟨0, 0, 0, 0, rfl, rfl, rfl, Nat.zero_le _, rfl, rfl, rfl, rfl, Below.refl _ _⟩
    case round =>
      obtain ⟨k, b, m, f, hb, hm, hf, hk, rfl, rfl, rfl, rfl, hbel⟩ := hrel
      have LB := lrow_bd t r.ps k
      rw [← hb, ← hm, ← hf] at LB
      obtain ⟨⟨b0, b1⟩, ⟨m0, m1⟩, ⟨f0, f1⟩⟩ := LB
      have HB := Lib.hid hb
      have HM := Lib.hid hm
      have HF := Lib.hid hf
      have HW := Lib.hid hbel
      have hzw := hbel.size
      clear hb hm hf hbel
      by_cases hlt : k < n
      · have hq : k < (plc n r.ps).length := by rw [PLN.out]; exact hlt
        obtain ⟨p0, p1, p2, p3, p4, p5, p6, p7, p8⟩ := pcAt_some ((RowN.at_ (show RowN Pc.cells 101 wr gp (plc n r.ps) (plc n r.ps).length n by rw [PLN.out]; exact RR.out.below HW.out zgp))) hq
        rw [TK.out k hq] at p0
        have k0 : (0 : Int) ≤ (k : Int) := by omega
        have kn : (k : Int) < (n : Int) := by omega
        have LO := Lib.hid (fun h => lrow_other (t := t) (ps := r.ps) (j := k) h)
        have LM := Lib.hid (fun h h2 => lrow_more (t := t) (ps := r.ps) (j := k) h h2)
        have LL := Lib.hid (fun h h2 => lrow_less (t := t) (ps := r.ps) (j := k) h h2)
        generalize (plc n r.ps)[k] = x at p0 p1 p2 p3 p4 p5 p6 p7 p8
        generalize tkB r.ps k = y at p0 LO LM LL
        rw [Nat.zero_add] at p0 p1 p2 p3 p4 p5 p6 p7 p8
        have D1 := Lib.hid (show Below w1.heap.size w1 (wr.alloc (.cells #[.bool y, .int .i16 x.b.c, .int .u8 x.b.m0, .int .u8 x.b.m1, .int .u8 x.b.m2, .int .i16 x.b.v, .int .i16 x.b.wi, .int .i16 x.b.hi, .int .i16 x.b.we] 101)) from HW.out.alloc hzw _)
        have hxy : (y != t) = !(y == t) := rfl
        cases hx : (y != t)
        · have hy : (y == t) = true := by rw [hx] at hxy; simpa using hxy.symm
          clear hxy
          by_cases hmo : m < (k : Int) - f + 1
          · have FE := Lib.hid (LM.out hx (by rw [← HM.out, ← HF.out]; exact hmo))
            have hmo2 : m < (k : Int) + 1 - f := by omega
            go_wp2
            go_roundw
            case rel => exact ⟨k + 1, f, (k : Int) + 1 - f, f, by rw [FE.out]; exact HF.out, by rw [FE.out, HF.out]; simp only; omega, by rw [FE.out]; exact HF.out, by omega, by go_num, rfl, rfl, rfl, D1.out⟩
            case measure => simp [intOf]; omega
          · have FE := Lib.hid (LL.out hx (by rw [← HM.out, ← HF.out]; exact hmo))
            have hmo2 : (k : Int) + 1 - f ≤ m := by omega
            go_wp2
            go_roundw
            case rel => exact ⟨k + 1, b, m, f, by rw [FE.out]; exact HB.out, by rw [FE.out]; exact HM.out, by rw [FE.out]; exact HF.out, by omega, by go_num, rfl, rfl, rfl, D1.out⟩
            case measure => simp [intOf]; omega
        · have hy : (y == t) = false := by rw [hx] at hxy; simpa using hxy.symm
          clear hxy
          have FE := Lib.hid (LO.out hx)
          have hmo2 : ¬ m < 0 := by omega
          go_wp2
          go_roundw
          case rel => exact ⟨k + 1, b, m, (k : Int) + 1, by rw [FE.out]; exact HB.out, by rw [FE.out]; exact HM.out, by rw [FE.out], by omega, by go_num, rfl, rfl, rfl, D1.out⟩
          case measure => simp [intOf]; omega
      · obtain rfl : k = n := by omega
        have DW := Lib.hid (bnext B1.out HW.out)
        by_cases h0 : m = 0
        · have E := Lib.hid (show cwA r t = 0 ∧ cwN r t = 0 ∧ cwC r t = 6 by
            rcases CW.out with ⟨h, _⟩ | ⟨_, _, e1, e2, e3⟩ | ⟨_, h, _⟩
            · rw [HK.out] at h; cases h
            · exact ⟨e1, e2, e3⟩
            · exact absurd (HM.out.symm.trans h0) h)
          subst h0
          go_wp2
          go_ret3
          exact ⟨by rw [E.out.1, E.out.2.1, E.out.2.2]; rfl, DW.out⟩
        · have E := Lib.hid (show cwA r t = b ∧ cwN r t = m ∧ cwC r t = 0 by
            rcases CW.out with ⟨h, _⟩ | ⟨_, h, _⟩ | ⟨_, _, e1, e2, e3⟩
            · rw [HK.out] at h; cases h
            · exact absurd (HM.out.trans h) h0
            · exact ⟨by rw [e1, HB.out], by rw [e2, HM.out], e3⟩)
          have hz : (m == 0) = false := by simpa using h0
          go_wp2
          go_ret3
          exact ⟨by rw [E.out.1, E.out.2.1, E.out.2.2]; rfl, DW.out⟩
set_option maxHeartbeats 4000000 in
theorem specCrowdOf_any (r : Rk) (hv : Value) (wf : r.Wf) (w : World) (hs : PlsOf w hv r.ps) (ml : r.ps.length ≤ maxLen) :
    Calls Tryd.prog 31 #[.agg #[.int .i16 r.n, hv]] w fun e w' => e = .returned (.tuple #[.int .i64 (cwA r true), .int .i64 (cwN r true), .int .i64 (cwC r true)]) ∧ Below w.heap.size w w' := by
  have RA := Lib.hid (RackAt.new 30 hs)
  have WF := Lib.hid wf
  have G0 := Lib.hid (show Below w.heap.size w (w.alloc (.cells #[.int .i16 r.n, hv] 30)) by go_grown)
  obtain ⟨A, c, rfl, -⟩ := hs
  clear wf
  rcases cw_cases r true with ⟨hk, e1, e2, e3⟩ | ⟨hk, h0, e1, e2, e3⟩ | ⟨hk, h0, e1, e2, e3⟩
  · have E := Lib.hid (And.intro e1 (And.intro e2 e3))
    clear e1 e2 e3
    go_enter Tryd.func31, Tryd.ntmps31
    go_wp2_with fail
    refine (l05Ok_any r _ WF.out _ _ _ RA.out ml).mono ?_
    rintro e w1 ⟨rfl, h1⟩
    rw [hk]
    clear hk
    go_wp2
    go_ret3
    exact ⟨by rw [E.out.1, E.out.2.1, E.out.2.2]; rfl, bnext G0.out h1⟩
  · have E := Lib.hid (And.intro e1 (And.intro e2 e3))
    have HK := Lib.hid hk
    have H0 := Lib.hid h0
    clear e1 e2 e3 h0
    go_enter Tryd.func31, Tryd.ntmps31
    go_wp2_with fail
    refine (l05Ok_any r _ WF.out _ _ _ RA.out ml).mono ?_
    rintro e w1 ⟨rfl, h1⟩
    rw [hk]
    clear hk
    go_wp2_with fail
    refine (l05Row_any r _ WF.out true _ _ _ (RA.out.below h1) HK.out).mono ?_
    rintro e w2 ⟨rfl, h2⟩
    rw [H0.out]
    go_wp2
    go_ret3
    exact ⟨by rw [E.out.1, E.out.2.1, E.out.2.2]; rfl, bnext (bnext G0.out h1) h2⟩
  · have E := Lib.hid (And.intro e1 (And.intro e2 e3))
    have HK := Lib.hid hk
    clear e1 e2 e3
    go_enter Tryd.func31, Tryd.ntmps31
    go_wp2_with fail
    refine (l05Ok_any r _ WF.out _ _ _ RA.out ml).mono ?_
    rintro e w1 ⟨rfl, h1⟩
    rw [hk]
    clear hk
    go_wp2_with fail
    refine (l05Row_any r _ WF.out true _ _ _ (RA.out.below h1) HK.out).mono ?_
    rintro e w2 ⟨rfl, h2⟩
    generalize (lrow true r.ps r.n.toNat).2.1 = z at h0 E ⊢
    generalize (lrow true r.ps r.n.toNat).1 = y at E ⊢
    have hz : (z == 0) = false := by simpa using h0
    have hz2 : ¬ z = 0 := h0
    go_wp2
    go_ret3
    exact ⟨by rw [E.out.1, E.out.2.1, E.out.2.2]; rfl, bnext (bnext G0.out h1) h2⟩
set_option maxHeartbeats 4000000 in
theorem implCrowdOf_any (r : Rk) (hv : Value) (wf : r.Wf) (w : World) (s i : Addr) (he : Er2 w s i) (hs : PlsOf w hv r.ps) (hn : r.ps.length ≤ 1048576) :
    Calls Tryd.prog 32 #[.agg #[.int .i16 r.n, hv]] w fun e w' => e = .returned (.tuple #[.int .i64 (cwA r true), .int .i64 (cwN r true), .int .i64 (cwC r true)]) ∧ Below w.heap.size w w' := by
  have HE := Lib.hid he
  have WF := Lib.hid wf
  have HS := Lib.hid hs
  obtain ⟨A, c, rfl, -⟩ := hs
  have G0 := Lib.hid (show Below w.heap.size w (w.alloc (.cells #[.int .i16 r.n, .slice A r.ps.length c] 30)) by go_grown)
  clear he wf
  go_enter Tryd.func32, Tryd.ntmps32
  go_wp2_with fail
  refine (longestRow_any r _ WF.out true _ s i (HE.out.below G0.out) (HS.out.below G0.out) hn).mono ?_
  rintro e w1 ⟨rfl, h1⟩
  go_wp2
  go_ret3
  exact ⟨rfl, bnext G0.out h1⟩
set_option maxHeartbeats 4000000 in
theorem specWidestGap_any (r : Rk) (hv : Value) (wf : r.Wf) (w : World) (hs : PlsOf w hv r.ps) (ml : r.ps.length ≤ maxLen) :
    Calls Tryd.prog 33 #[.agg #[.int .i16 r.n, hv]] w fun e w' => e = .returned (.tuple #[.int .i64 (cwA r false), .int .i64 (cwN r false), .int .i64 (cwC r false)]) ∧ Below w.heap.size w w' := by
  have RA := Lib.hid (RackAt.new 30 hs)
  have WF := Lib.hid wf
  have G0 := Lib.hid (show Below w.heap.size w (w.alloc (.cells #[.int .i16 r.n, hv] 30)) by go_grown)
  obtain ⟨A, c, rfl, -⟩ := hs
  clear wf
  rcases cw_cases r false with ⟨hk, e1, e2, e3⟩ | ⟨hk, h0, e1, e2, e3⟩ | ⟨hk, h0, e1, e2, e3⟩
  · have E := Lib.hid (And.intro e1 (And.intro e2 e3))
    clear e1 e2 e3
    go_enter Tryd.func33, Tryd.ntmps33
    go_wp2_with fail
    refine (l05Ok_any r _ WF.out _ _ _ RA.out ml).mono ?_
    rintro e w1 ⟨rfl, h1⟩
    rw [hk]
    clear hk
    go_wp2
    go_ret3
    exact ⟨by rw [E.out.1, E.out.2.1, E.out.2.2]; rfl, bnext G0.out h1⟩
  · have E := Lib.hid (And.intro e1 (And.intro e2 e3))
    have HK := Lib.hid hk
    have H0 := Lib.hid h0
    clear e1 e2 e3 h0
    go_enter Tryd.func33, Tryd.ntmps33
    go_wp2_with fail
    refine (l05Ok_any r _ WF.out _ _ _ RA.out ml).mono ?_
    rintro e w1 ⟨rfl, h1⟩
    rw [hk]
    clear hk
    go_wp2_with fail
    refine (l05Row_any r _ WF.out false _ _ _ (RA.out.below h1) HK.out).mono ?_
    rintro e w2 ⟨rfl, h2⟩
    rw [H0.out]
    go_wp2
    go_ret3
    exact ⟨by rw [E.out.1, E.out.2.1, E.out.2.2]; rfl, bnext (bnext G0.out h1) h2⟩
  · have E := Lib.hid (And.intro e1 (And.intro e2 e3))
    have HK := Lib.hid hk
    clear e1 e2 e3
    go_enter Tryd.func33, Tryd.ntmps33
    go_wp2_with fail
    refine (l05Ok_any r _ WF.out _ _ _ RA.out ml).mono ?_
    rintro e w1 ⟨rfl, h1⟩
    rw [hk]
    clear hk
    go_wp2_with fail
    refine (l05Row_any r _ WF.out false _ _ _ (RA.out.below h1) HK.out).mono ?_
    rintro e w2 ⟨rfl, h2⟩
    generalize (lrow false r.ps r.n.toNat).2.1 = z at h0 E ⊢
    generalize (lrow false r.ps r.n.toNat).1 = y at E ⊢
    have hz : (z == 0) = false := by simpa using h0
    have hz2 : ¬ z = 0 := h0
    go_wp2
    go_ret3
    exact ⟨by rw [E.out.1, E.out.2.1, E.out.2.2]; rfl, bnext (bnext G0.out h1) h2⟩
set_option maxHeartbeats 4000000 in
theorem implWidestGap_any (r : Rk) (hv : Value) (wf : r.Wf) (w : World) (s i : Addr) (he : Er2 w s i) (hs : PlsOf w hv r.ps) (hn : r.ps.length ≤ 1048576) :
    Calls Tryd.prog 34 #[.agg #[.int .i16 r.n, hv]] w fun e w' => e = .returned (.tuple #[.int .i64 (cwA r false), .int .i64 (cwN r false), .int .i64 (cwC r false)]) ∧ Below w.heap.size w w' := by
  have HE := Lib.hid he
  have WF := Lib.hid wf
  have HS := Lib.hid hs
  obtain ⟨A, c, rfl, -⟩ := hs
  have G0 := Lib.hid (show Below w.heap.size w (w.alloc (.cells #[.int .i16 r.n, .slice A r.ps.length c] 30)) by go_grown)
  clear he wf
  go_enter Tryd.func34, Tryd.ntmps34
  go_wp2_with fail
  refine (longestRow_any r _ WF.out false _ s i (HE.out.below G0.out) (HS.out.below G0.out) hn).mono ?_
  rintro e w1 ⟨rfl, h1⟩
  go_wp2
  go_ret3
  exact ⟨rfl, bnext G0.out h1⟩
end Go.Proofs.YtodmpifbmnlnkaaDoor
