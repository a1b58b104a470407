/- MoveApart, by the model and by the program: contracts. Condition: at most 1048576 books, whose numbers lie within their kinds; the two error variables hold errors of errors.New's make. -/
import Derived.Test.YtlphpajpjpohmaaDoorRkX
import Derived.Test.YtlphpajpjpohmaaDoorRkZb
import Derived.Test.YtlphpajpjpohmaaDoorSame
import Derived.Test.YtlphpajpjpohmaaDoorMax
namespace Go.Proofs.YtlphpajpjpohmaaDoor
set_option linter.unusedSimpArgs false
set_option linter.unusedVariables false
set_option maxRecDepth 100000
open Go.RowKit Go.Sort

def pos (ps : List Pl) : List Int := ps.map (·.p)
theorem pos_length (ps : List Pl) : (pos ps).length = ps.length := by simp [pos]
theorem pos_bd {n : Int} {ps : List Pl} (h : PosTo n ps ps.length) (hn : n ≤ 60) : ∀ z ∈ pos ps, 0 ≤ z ∧ z < 60 := by
  intro z hz
  obtain ⟨x, hx, rfl⟩ := List.mem_map.1 hz
  have := h.mem x hx
  exact ⟨this.1, by omega⟩
theorem pos_getD {ps : List Pl} {k : Nat} (h : k < ps.length) : (pos ps).getD k 0 = ps[k].p := by
  rw [getD_at (by rw [pos_length]; exact h)]
  simp [pos]
noncomputable def maC (r s : Rk) : Int := if rkB r && rkB s then (if bks r.ps = bks s.ps then 0 else 4) else 1
noncomputable def maV (r s : Rk) : Int := if maC r s = 0 then sD (pos r.ps) (pos s.ps) r.ps.length else 0
theorem ma_cases (r s : Rk) : (rkB r = false ∧ maV r s = 0 ∧ maC r s = 1) ∨ (rkB r = true ∧ rkB s = false ∧ maV r s = 0 ∧ maC r s = 1) ∨
    (rkB r = true ∧ rkB s = true ∧ decide (bks r.ps = bks s.ps) = false ∧ maV r s = 0 ∧ maC r s = 4) ∨ (rkB r = true ∧ rkB s = true ∧ decide (bks r.ps = bks s.ps) = true ∧ maV r s = sD (pos r.ps) (pos s.ps) r.ps.length ∧ maC r s = 0) := by
  unfold maV
  cases h1 : rkB r
  · refine .inl ⟨rfl, ?_⟩
    rw [show maC r s = 1 by unfold maC; rw [h1]; rfl]
    exact ⟨rfl, rfl⟩
  · cases h2 : rkB s
    · refine .inr (.inl ⟨rfl, rfl, ?_⟩)
      rw [show maC r s = 1 by unfold maC; rw [h1, h2]; rfl]
      exact ⟨rfl, rfl⟩
    · by_cases h3 : bks r.ps = bks s.ps
      · refine .inr (.inr (.inr ⟨rfl, rfl, decide_eq_true h3, ?_⟩))
        rw [show maC r s = 0 by unfold maC; rw [h1, h2]; simp [h3]]
        exact ⟨rfl, rfl⟩
      · refine .inr (.inr (.inl ⟨rfl, rfl, decide_eq_false h3, ?_⟩))
        rw [show maC r s = 4 by unfold maC; rw [h1, h2]; simp [h3]]
        exact ⟨rfl, rfl⟩

set_option maxHeartbeats 16000000 in
theorem specMoveApart_any (r s : Rk) (hv1 hv2 : Value) (wf1 : r.Wf) (wf2 : s.Wf) (w : World) (hs1 : PlsOf w hv1 r.ps) (hs2 : PlsOf w hv2 s.ps) (ml1 : r.ps.length ≤ maxLen) (ml2 : s.ps.length ≤ maxLen) :
    Calls Tryd.prog 51 #[.agg #[.int .i16 r.n, hv1], .agg #[.int .i16 s.n, hv2]] w fun e w' => e = .returned (.tuple #[.int .i64 (maV r s), .int .i64 (maC r s)]) ∧ Below w.heap.size w w' := by
  have WF1 := Lib.hid wf1
  have WF2 := Lib.hid wf2
  have G0 := Lib.hid (show Below w.heap.size w ((w.alloc (.cells #[.int .i16 r.n, hv1] 30)).alloc (.cells #[.int .i16 s.n, hv2] 30)) by go_grown)
  have a1 : Below (w.alloc (.cells #[.int .i16 r.n, hv1] 30)).heap.size (w.alloc (.cells #[.int .i16 r.n, hv1] 30)) ((w.alloc (.cells #[.int .i16 r.n, hv1] 30)).alloc (.cells #[.int .i16 s.n, hv2] 30)) := (Below.refl _ _).alloc (Nat.le_refl _) _
  have a2 : Below w.heap.size w (w.alloc (.cells #[.int .i16 r.n, hv1] 30)) := (Below.refl _ _).alloc (Nat.le_refl _) _
  have RA := Lib.hid ((RackAt.new 30 hs1).below a1)
  have RB := Lib.hid (RackAt.new (w := w.alloc (.cells #[.int .i16 r.n, hv1] 30)) 30 (hs2.below a2))
  rw [World.size_alloc] at RB
  clear a1 a2
  obtain ⟨A1, k1, rfl, hat1⟩ := hs1
  obtain ⟨A2, k2, rfl, hat2⟩ := hs2
  have T1 := Lib.hid hat1
  have T2 := Lib.hid hat2
  have TC := Lib.hid (ma_cases r s)
  clear wf1 wf2 hat1 hat2
  go_enter Tryd.func51, Tryd.ntmps51
  go_wp2_with fail
  generalize (w.alloc _).alloc _ = w0 at RA RB G0 ⊢
  refine (l05Ok_any r _ WF1.out _ _ _ RA.out ml1).mono ?_
  rintro e w1 ⟨rfl, g1⟩
  have B1 := Lib.hid (bnext G0.out g1)
  have RA1 := Lib.hid (RA.out.below g1)
  have RB1 := Lib.hid (RB.out.below g1)
  clear g1
  rcases TC.out with ⟨hk, e1, e2⟩ | ⟨hk, hk2, e1, e2⟩ | ⟨hk, hk2, hb, e1, e2⟩ | ⟨hk, hk2, hb, e1, e2⟩
  · have E := Lib.hid (And.intro e1 e2)
    rw [hk]
    clear e1 e2 hk
    go_wp2
    go_ret2
    exact ⟨by rw [E.out.1, E.out.2]; rfl, B1.out⟩
  all_goals
    have E := Lib.hid (And.intro e1 e2)
    rw [hk]
    clear e1 e2
    go_wp2_with fail
    refine (l05Ok_any s _ WF2.out _ _ _ RB1.out ml2).mono ?_
    rintro e w2 ⟨rfl, g2⟩
    have B2 := Lib.hid (bnext B1.out g2)
    have RA2 := Lib.hid (RA1.out.below g2)
    have RB2 := Lib.hid (RB1.out.below g2)
    clear g2
    rw [hk2]
  · clear hk hk2
    go_wp2
    go_ret2
    exact ⟨by rw [E.out.1, E.out.2]; rfl, B2.out⟩
  all_goals
    have n1 := rkB_len hk
    have n2 := rkB_len hk2
    go_wp2_with fail
    refine (l05Books_any r _ _ _ _ RA2.out n1).mono ?_
    rintro e w3 ⟨u1, rfl, hu1, g3⟩
    have B3 := Lib.hid (bnext B2.out g3)
    have RA3 := Lib.hid (RA2.out.below g3)
    have RB3 := Lib.hid (RB2.out.below g3)
    have U1 := Lib.hid hu1
    obtain ⟨Au1, cu1, rfl, -⟩ := hu1.slice
    clear g3 hu1
    go_wp2_with fail
    refine (l05Books_any s _ _ _ _ RB3.out n2).mono ?_
    rintro e w4 ⟨u2, rfl, hu2, g4⟩
    have B4 := Lib.hid (bnext B3.out g4)
    have RA4 := Lib.hid (RA3.out.below g4)
    have RB4 := Lib.hid (RB3.out.below g4)
    have U2 := Lib.hid hu2
    obtain ⟨Au2, cu2, rfl, -⟩ := hu2.slice
    go_wp2_with fail
    refine (l01Same_any _ _ (bks r.ps) (bks s.ps) _ (U1.out.slice.below g4) U2.out.slice (by rw [bks_length]; exact ml1) (by rw [bks_length]; exact ml2)).mono ?_
    rintro e w5 ⟨rfl, g5⟩
    have B5 := Lib.hid (bnext B4.out g5)
    have RA5 := Lib.hid (RA4.out.below g5)
    have RB5 := Lib.hid (RB4.out.below g5)
    rw [hb]
    clear g4 g5 hu2
  · clear hk hk2 hb
    go_wp2
    go_ret2
    exact ⟨by rw [E.out.1, E.out.2]; rfl, B5.out⟩
  · have hll : r.ps.length = s.ps.length := by have := of_decide_eq_true hb; rw [← bks_length r.ps, this, bks_length]
    have P1 := Lib.hid (pos_bd (rkB_of hk).2.1 (rkB_of hk).1.2)
    have P2 := Lib.hid (pos_bd (rkB_of hk2).2.1 (rkB_of hk2).1.2)
    have HL := Lib.hid hll
    have SB := Lib.hid (sD_bd P1.out P2.out)
    have DB := Lib.hid (dA_bd P1.out P2.out)
    clear hk hk2 hb
    go_wp2
    go_loopw [6, 7] (fun s_ i_ wr => ∃ k : Nat, k ≤ r.ps.length ∧ i_ = .int .i64 (k : Int) ∧ s_ = .int .i64 (sD (pos r.ps) (pos s.ps) k) ∧ Below w5.heap.size w5 wr) (fun _ i_ _ => r.ps.length - (intOf i_).toNat)
    case atStart => exact ⟨0, Nat.zero_le _, rfl, rfl, Below.refl _ _⟩
    case round =>
      obtain ⟨k, hk, rfl, rfl, hb⟩ := hrel
      have HB := Lib.hid hb
      have c1 := (RA5.out.below hb).h
      have c2 := (RB5.out.below hb).h
      have RA6 := Lib.hid (RA5.out.below hb)
      have RB6 := Lib.hid (RB5.out.below hb)
      have S0 := SB.out k
      clear hb
      by_cases hlt : k < r.ps.length
      · have hlt2 : k < s.ps.length := by omega
        obtain ⟨ga, oa, rfl, hga, hat⟩ := T1.out (by omega)
        obtain ⟨gb, ob, rfl, hgb, hbt⟩ := T2.out (by omega)
        have p0 := (plAt_some (hat.below (bnext B5.out HB.out) hga) hlt).1
        have q0 := (plAt_some (hbt.below (bnext B5.out HB.out) hgb) hlt2).1
        have SS := Lib.hid (show sD (pos r.ps) (pos s.ps) (k + 1) = sD (pos r.ps) (pos s.ps) k + max (r.ps[k].p - s.ps[k].p) (s.ps[k].p - r.ps[k].p) by rw [sD, dA, pos_getD hlt, pos_getD hlt2])
        have d0 := DB.out k
        have d1 := getD_bd P1.out k
        have d2 := getD_bd P2.out k
        rw [dA] at d0
        rw [pos_getD hlt] at d0 d1
        rw [pos_getD hlt2] at d0 d2
        clear hat hbt
        generalize sD (pos r.ps) (pos s.ps) k = S at *
        generalize r.ps[k].p = x at *
        generalize s.ps[k].p = y at *
        obtain ⟨d11, d12⟩ := d1
        obtain ⟨d21, d22⟩ := d2
        obtain ⟨d01, d02⟩ := d0
        obtain ⟨s01, s02⟩ := S0
        obtain ⟨m, hm⟩ : ∃ m, max (x - y) (y - x) = m := ⟨_, rfl⟩
        rw [hm] at SS d01 d02
        have MX := Lib.hid (show (if x - y < y - x then y - x else x - y) = m by omega)
        clear hm
        go_wp2_with fail
        refine (l00Max_any (x - y) (y - x) m MX.out _).mono ?_
        rintro e w' ⟨rfl, rfl⟩
        go_wp2
        go_roundw
        case rel => exact ⟨k + 1, by omega, by go_num, by rw [SS.out], HB.out⟩
        case measure => simp [intOf]; omega
      · obtain rfl : k = r.ps.length := by omega
        go_wp2
        go_ret2
        exact ⟨by rw [E.out.1, E.out.2]; rfl, bnext B5.out HB.out⟩

/-! ### by the program -/
set_option maxHeartbeats 400000 in
theorem sameBooksR_any (v1 v2 : Value) (xs ys : List Bk) (w : World) (hs1 : SliceOf w v1 xs) (hs2 : SliceOf w v2 ys) (hn1 : xs.length ≤ maxLen) (hn2 : ys.length ≤ maxLen) :
    Calls Tryd.prog 89 #[v1, v2] w fun e w' => e = .returned (.bool (decide (xs = ys))) ∧ Below w.heap.size w w' := by
  have C := Lib.hid (slicesEqual_any v1 v2 xs ys w hs1 hs2 hn1 hn2)
  clear hs1 hs2 hn1 hn2
  go_enter Tryd.func89, Tryd.ntmps89
  go_wp2_with fail
  refine C.out.mono ?_
  rintro e w1 ⟨rfl, h1⟩
  go_wp2
  go_ret
  exact ⟨rfl, h1⟩
set_option maxHeartbeats 8000000 in
theorem moveApart_any (r s : Rk) (hv1 hv2 : Value) (wf1 : r.Wf) (wf2 : s.Wf) (w : World) (a b : Addr) (he : Er2 w a b) (hs1 : PlsOf w hv1 r.ps) (hs2 : PlsOf w hv2 s.ps) (hn1 : r.ps.length ≤ 1048576) (hn2 : s.ps.length ≤ 1048576) :
    Calls Tryd.prog 52 #[.agg #[.int .i16 r.n, hv1], .agg #[.int .i16 s.n, hv2]] w fun e w' => e = .returned (.tuple #[.int .i64 (maV r s), .int .i64 (maC r s)]) ∧ Below w.heap.size w w' := by
  have HE := Lib.hid he
  have WF1 := Lib.hid wf1
  have WF2 := Lib.hid wf2
  have HS1 := Lib.hid hs1
  have HS2 := Lib.hid hs2
  obtain ⟨A1, k1, rfl, -⟩ := hs1
  obtain ⟨A2, k2, rfl, -⟩ := hs2
  have G0 := Lib.hid (show Below w.heap.size w ((w.alloc (.cells #[.int .i16 r.n, .slice A1 r.ps.length k1] 30)).alloc (.cells #[.int .i16 s.n, .slice A2 s.ps.length k2] 30)) by go_grown)
  have TC := Lib.hid (ma_cases r s)
  clear he wf1 wf2
  go_enter Tryd.func52, Tryd.ntmps52
  go_wp2_with fail
  generalize (w.alloc _).alloc _ = w0 at G0 ⊢
  refine (placesOfBoth_any r s _ _ WF1.out WF2.out _ a b (HE.out.below G0.out) (HS1.out.below G0.out) (HS2.out.below G0.out) hn1 hn2).mono ?_
  rintro e w1 ⟨v1, v2, rfl, hp1, hp2, g1⟩
  have B1 := Lib.hid (bnext G0.out g1)
  clear g1
  rcases TC.out with ⟨hk, e1, e2⟩ | ⟨hk, hk2, e1, e2⟩ | ⟨hk, hk2, hb, e1, e2⟩ | ⟨hk, hk2, hb, e1, e2⟩
  · have E := Lib.hid (And.intro e1 e2)
    rw [show boC r s = 1 by unfold boC; rw [hk]; rfl]
    obtain ⟨_, _, _, rfl⟩ := hp1.form
    obtain ⟨_, _, _, rfl⟩ := hp2.form
    clear e1 e2 hk hp1 hp2
    go_wp2
    go_ret2
    exact ⟨by rw [E.out.1, E.out.2]; rfl, B1.out⟩
  · have E := Lib.hid (And.intro e1 e2)
    rw [show boC r s = 1 by unfold boC; rw [hk, hk2]; rfl]
    obtain ⟨_, _, _, rfl⟩ := hp1.form
    obtain ⟨_, _, _, rfl⟩ := hp2.form
    clear e1 e2 hk hk2 hp1 hp2
    go_wp2
    go_ret2
    exact ⟨by rw [E.out.1, E.out.2]; rfl, B1.out⟩
  all_goals
    have E := Lib.hid (And.intro e1 e2)
    rw [show boC r s = 0 by unfold boC; rw [hk, hk2]; rfl]
    obtain ⟨ga, rfl, -, hra⟩ := hp1.ok hk
    obtain ⟨gb, rfl, -, hrb⟩ := hp2.ok hk2
    obtain ⟨x1, x2, x3, x4⟩ := rk_nat hk
    obtain ⟨y1, y2, y3, y4⟩ := rk_nat hk2
    have HA := Lib.hid (RowN.sl hra (plc_length _ _))
    have HB := Lib.hid (RowN.sl hrb (plc_length _ _))
    have LA := Lib.hid (plc_length r.n.toNat r.ps)
    have LB := Lib.hid (plc_length s.n.toNat s.ps)
    have QA := Lib.hid (bkq_plc x4)
    have QB := Lib.hid (bkq_plc y4)
    have WA := Lib.hid (show whr true (plc r.n.toNat r.ps) = pos r.ps from whr_true x4)
    have WB := Lib.hid (show whr true (plc s.n.toNat s.ps) = pos s.ps from whr_true y4)
    clear e1 e2 hp1 hp2 hra hrb x4 y4 x1 y1
    generalize plc r.n.toNat r.ps = p at *
    generalize plc s.n.toNat s.ps = q at *
    generalize r.n.toNat = n at *
    generalize s.n.toNat = m at *
    have lp : p.length ≤ 60 := by rw [LA.out]; exact x3
    have lq : q.length ≤ 60 := by rw [LB.out]; exact y3
    go_wp2_with fail
    refine (books_any _ p _ HA.out lp).mono ?_
    rintro e w2 ⟨u1, rfl, hu1, g2⟩
    rw [QA.out] at hu1
    have U1 := Lib.hid hu1
    obtain ⟨Au1, cu1, rfl, -⟩ := hu1.slice
    clear hu1
    go_wp2_with fail
    refine (books_any _ q _ (HB.out.below g2) lq).mono ?_
    rintro e w3 ⟨u2, rfl, hu2, g3⟩
    rw [QB.out] at hu2
    have U2 := Lib.hid hu2
    obtain ⟨Au2, cu2, rfl, -⟩ := hu2.slice
    clear hu2
    have mr : (bks r.ps).length ≤ maxLen := by rw [bks_length]; unfold maxLen; omega
    have ms : (bks s.ps).length ≤ maxLen := by rw [bks_length]; unfold maxLen; omega
    go_wp2_with fail
    refine (sameBooksR_any _ _ (bks r.ps) (bks s.ps) _ (U1.out.slice.below g3) U2.out.slice mr ms).mono ?_
    rintro e w4 ⟨rfl, g4⟩
    have HA := Lib.hid (HA.out.below (bnext (bnext g2 g3) g4))
    have HB := Lib.hid (HB.out.below (bnext (bnext g2 g3) g4))
    have B4 := Lib.hid (bnext B1.out (bnext (bnext g2 g3) g4))
    rw [hb]
    clear g2 g3 g4
  · clear hk hk2 hb
    go_wp2
    go_ret2
    exact ⟨by rw [E.out.1, E.out.2]; rfl, B4.out⟩
  · have hll : r.ps.length = s.ps.length := by have := of_decide_eq_true hb; rw [← bks_length r.ps, this, bks_length]
    have P1 := Lib.hid (pos_bd (rkB_of hk).2.1 (rkB_of hk).1.2)
    have P2 := Lib.hid (pos_bd (rkB_of hk2).2.1 (rkB_of hk2).1.2)
    have SB := Lib.hid (sD_bd P1.out P2.out)
    have DB := Lib.hid (dA_bd P1.out P2.out)
    have LE := Lib.hid (show (whr true p).length ≤ (whr true q).length by rw [WA.out, WB.out, pos_length, pos_length]; omega)
    have PL := Lib.hid (pos_length r.ps)
    have l60 := rkB_len hk
    clear hk hk2 hb
    go_wp2_with fail
    refine (distances_any _ _ p q _ HA.out HB.out lp lq LE.out).mono ?_
    rintro e w5 ⟨u, rfl, ho, g5⟩
    rw [WA.out, WB.out, PL.out] at ho
    have OD := Lib.hid ho
    obtain ⟨Ad, cd, rfl, -⟩ := ownsInts ho
    have B5 := Lib.hid (bnext B4.out g5)
    have DL := Lib.hid (dTo_length (pos r.ps) (pos s.ps) r.ps.length)
    have DG := Lib.hid (dTo_get (pos r.ps) (pos s.ps) r.ps.length)
    rw [DL.out]
    clear ho g5
    go_wp2
    go_loopw [9, 32] (fun s_ i_ wr => ∃ k : Nat, k ≤ r.ps.length ∧ i_ = .int .i64 (k : Int) ∧ s_ = .int .i64 (sD (pos r.ps) (pos s.ps) k) ∧ wr = w5) (fun _ i_ _ => r.ps.length - (intOf i_).toNat)
    case atStart => exact ⟨0, Nat.zero_le _, rfl, rfl, rfl⟩
    case round =>
      obtain ⟨k, hk, rfl, rfl, rfl⟩ := hrel
      have S0 := SB.out k
      by_cases hlt : k < r.ps.length
      · have hlt' := hlt
        obtain ⟨Ad', cd', ed, hd⟩ := ownsInts OD.out
        obtain ⟨gd, od, hAd, hgd, hat⟩ := hd (by rw [DL.out]; omega)
        obtain rfl : Ad = some ⟨gd, od, none⟩ := by injection ed with x y z; rw [x]; exact hAd
        have c1 := hat k (by rw [DL.out]; exact hlt)
        rw [DG.out k (by rw [DL.out]; exact hlt)] at c1
        have SS := Lib.hid (show sD (pos r.ps) (pos s.ps) (k + 1) = sD (pos r.ps) (pos s.ps) k + dA (pos r.ps) (pos s.ps) k from rfl)
        have d0 := DB.out k
        clear hat hd ed
        generalize sD (pos r.ps) (pos s.ps) k = S at *
        generalize dA (pos r.ps) (pos s.ps) k = D at *
        obtain ⟨d01, d02⟩ := d0
        obtain ⟨s01, s02⟩ := S0
        go_wp2
        go_roundw
        case rel => exact ⟨k + 1, by omega, by go_num, by rw [SS.out], by first | rfl | trivial⟩
        case measure => simp [intOf]; omega
      · obtain rfl : k = r.ps.length := by omega
        go_wp2
        go_ret2
        exact ⟨by rw [E.out.1, E.out.2]; rfl, B5.out⟩
end Go.Proofs.YtlphpajpjpohmaaDoor
