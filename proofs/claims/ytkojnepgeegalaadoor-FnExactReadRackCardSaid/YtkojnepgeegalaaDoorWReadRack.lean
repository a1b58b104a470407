/- The law of ReadRack, walked. Condition: the three error variables hold three different errors of errors.New's make. -/
import Derived.Test.YtkojnepgeegalaaDoorRdR3
import Derived.Test.YtkojnepgeegalaaDoorCode
namespace Go.Proofs.YtkojnepgeegalaaDoor
set_option linter.unusedSimpArgs false
set_option linter.unusedVariables false
set_option maxRecDepth 100000
open Go.RowKit

theorem Errs.es2r {w : World} {s i y : Addr} (h : Errs w s i y) : Es2 w s y := ⟨h.cs, h.cy, h.hs, h.hy, h.sy⟩
theorem Errs.er2r {w : World} {s i y : Addr} (h : Errs w s i y) : Er2 w s i := ⟨h.cs, h.ci, by have := h.low; constructor <;> omega⟩
theorem specRR {T : ByteArray} (hT : T.size ≤ 1048576) {c : Rk} {k : Int} (hV : rrV T.data.toList = c) (hK : rrK T.data.toList = k) (w : World) :
    Calls Tryd.prog 36 #[.string T] w fun e w' => ∃ A n, e = .returned (.tuple #[.agg #[.int .i16 c.n, .slice A c.ps.length n], .int .i64 k]) ∧ ResN Pl.cells 99 w' w.heap.size (.slice A c.ps.length n) c.ps ∧ Below w.heap.size w w' := by
  have h := specReadRack_any T hT w
  rw [hV, hK] at h
  refine h.mono ?_
  rintro e w' ⟨u, rfl, h1, h2⟩
  obtain ⟨A, n, rfl⟩ := rkSl h1
  exact ⟨A, n, rfl, ResN.of Pl.nine h1 rfl, h2⟩
theorem implRR {T : ByteArray} (hT : T.size ≤ 1048576) {c : Rk} {k : Int} (hV : rrV T.data.toList = c) (hK : rrK T.data.toList = k) (w : World) (s i y : Addr) (he : Errs w s i y) :
    Calls Tryd.prog 37 #[.string T] w fun e w' => ∃ A n, e = .returned (.tuple #[.agg #[.int .i16 c.n, .slice A c.ps.length n], .int .i64 k]) ∧ ResN Pl.cells 99 w' w.heap.size (.slice A c.ps.length n) c.ps ∧ Below w.heap.size w w' := by
  have h := readRack_any T hT w s i y he.es2r he.er2r
  rw [hV, hK] at h
  refine h.mono ?_
  rintro e w' ⟨u, rfl, h1, h2⟩
  obtain ⟨A, n, rfl⟩ := rkSl h1
  exact ⟨A, n, rfl, ResN.of Pl.nine h1 rfl, h2⟩
set_option maxHeartbeats 16000000 in
theorem walkReadRack (s0 : ByteArray) (wf0 : s0.size ≤ maxLen) (w : World) (s i y : Addr) (he : Errs w s i y)  :
    Calls Tryd.prog 9 #[.string s0] w fun e w' => e = .returned (.bool true) ∧ Below w.heap.size w w' := by
  have HE := Lib.hid he
  clear he
  by_cases hn0 : (s0.size : Int) ≤ 1048576
  · have e0 : ¬ ((1048576 : Int) < (s0.size : Int)) := by omega
    have hT : s0.size ≤ 1048576 := by omega
    have le := rrV_len s0.data.toList
    obtain ⟨cv, hV⟩ : ∃ cv, rrV s0.data.toList = cv := ⟨_, rfl⟩
    obtain ⟨k, hK⟩ : ∃ k, rrK s0.data.toList = k := ⟨_, rfl⟩
    rw [hV] at le
    have SP := Lib.hid (fun W => specRR hT hV hK W)
    have IM := Lib.hid (fun W h => implRR hT hV hK W s i y h)
    have LE := Lib.hid (show cv.ps.length ≤ 1048576 by omega)
    have ML := Lib.hid (show cv.ps.length ≤ maxLen by unfold maxLen; omega)
    have HM := Lib.hid (fun h1 h2 W a b => eqRack_same cv h1 h2 W a b ML.out)
    obtain ⟨x0, ds⟩ := cv
    dsimp only at SP IM LE ML HM le
    clear hV hK le
    go_enter Tryd.func9, Tryd.ntmps9
    go_wp2_with fail
    refine (SP.out _).mono ?_
    rintro e w1 ⟨A0, n0', rfl, hu0, h1⟩
    have LU := Lib.hid hu0.lt
    have ba := (Below.refl w1.heap.size w1).alloc (Nat.le_refl _) (.cells #[.int .i16 x0, .slice A0 ds.length n0'] 60)
    have K1 := Lib.hid (show KR (w1.alloc (.cells #[.int .i16 x0, .slice A0 ds.length n0'] 60)) w1.heap.size x0 (.slice A0 ds.length n0') from heap_alloc_new w1 _)
    have U1 := Lib.hid (hu0.below ba)
    have B1 := Lib.hid (bnext h1 ba)
    clear hu0 h1 ba
    go_upto_region 4 with (fail)
    generalize World.alloc _ _ = W1 at K1 U1 B1 ⊢
    have z1 : w1.heap.size < W1.heap.size := K1.out.lt
    go_wp2_with fail
    refine (IM.out _ (HE.out.below B1.out)).mono ?_
    rintro e w2 ⟨A1, n1', rfl, ht0, h2⟩
    have LT := Lib.hid ht0.lt
    have ba := (Below.refl w2.heap.size w2).alloc (Nat.le_refl _) (.cells #[.int .i16 x0, .slice A1 ds.length n1'] 60)
    have J2 := Lib.hid (show KR (w2.alloc (.cells #[.int .i16 x0, .slice A1 ds.length n1'] 60)) w2.heap.size x0 (.slice A1 ds.length n1') from heap_alloc_new w2 _)
    have T2 := Lib.hid (ht0.below ba)
    have U2 := Lib.hid (U1.out.below (bnext h2 ba))
    have K2 := Lib.hid (K1.out.below (bnext h2 ba))
    have B2 := Lib.hid (bnext B1.out (bnext h2 ba))
    have z2 : W1.heap.size ≤ w2.heap.size := h2.size
    clear ht0 h2 ba
    go_upto_region 5 with (fail)
    generalize World.alloc _ _ = W2 at J2 T2 U2 K2 B2 ⊢
    have a0 := J2.out.c0
    have a1 := J2.out.c1
    have b0 := K2.out.c0
    have b1 := K2.out.c1
    go_wp2_with fail
    refine (HM.out _ _ W2 T2.out.slice U2.out.slice).mono ?_
    rintro e w3 ⟨rfl, h3⟩
    have J3 := Lib.hid (J2.out.below h3)
    have T3 := Lib.hid (T2.out.below h3)
    have U3 := Lib.hid (U2.out.below h3)
    have K3 := Lib.hid (K2.out.below h3)
    have B3 := Lib.hid (bnext B2.out h3)
    clear a0 a1 b0 b1 h3
    have a0 := J3.out.c0
    have a1 := J3.out.c1
    go_wp2_with fail
    refine (markRack_any x0 _ ds _ 1 w3 T3.out LE.out (by omega) (by omega)).mono ?_
    rintro e w4 ⟨rfl, hm, h4⟩
    have M4 := Lib.hid hm
    have J4 := Lib.hid (J3.out.kept h4 (fun e => by have := (LT.out _ e.symm).2; omega))
    have U4 := Lib.hid (U3.out.other h4 (fun k hk e => by have := (LU.out k hk).2; have := (LT.out k e.symm).1; omega))
    have K4 := Lib.hid (K3.out.kept h4 (fun e => by have := (LT.out _ e.symm).1; omega))
    have B4 := Lib.hid (B3.out.grown h4 B3.out.size (fun k hk => by have := (LT.out k hk).1; have := B1.out.size; omega))
    clear a0 a1 hm h4
    have a0 := J4.out.c0
    have a1 := J4.out.c1
    go_wp2_with fail
    refine (heldRack_any x0 _ ds.length 1 w4 LE.out (by omega) (by omega) M4.out.slice).mono ?_
    rintro e w5 ⟨rfl, h5⟩
    have M5 := Lib.hid (M4.out.below h5)
    have J5 := Lib.hid (J4.out.below h5)
    have U5 := Lib.hid (U4.out.below h5)
    have K5 := Lib.hid (K4.out.below h5)
    have B5 := Lib.hid (bnext B4.out h5)
    have kz : ¬ (1 + 9 * (ds.length : Int) < 0) := by omega
    have kd : decide (1 + 9 * (ds.length : Int) < 0) = false := decide_eq_false kz
    clear a0 a1 h5
    generalize hzz : 1 + 9 * (ds.length : Int) = zz at *
    have HZ := Lib.hid hzz
    clear hzz
    go_wp2_with fail
    refine (IM.out _ (HE.out.below B5.out)).mono ?_
    rintro e w6 ⟨A2, n2', rfl, hv0, h6⟩
    have ba := (Below.refl w6.heap.size w6).alloc (Nat.le_refl _) (.cells #[.int .i16 x0, .slice A2 ds.length n2'] 60)
    have I7 := Lib.hid (show KR (w6.alloc (.cells #[.int .i16 x0, .slice A2 ds.length n2'] 60)) w6.heap.size x0 (.slice A2 ds.length n2') from heap_alloc_new w6 _)
    have V7 := Lib.hid (hv0.below ba)
    have U7 := Lib.hid (U5.out.below (bnext h6 ba))
    have M7 := Lib.hid (M5.out.below (bnext h6 ba))
    have J7 := Lib.hid (J5.out.below (bnext h6 ba))
    have K7 := Lib.hid (K5.out.below (bnext h6 ba))
    have B7 := Lib.hid (bnext B5.out (bnext h6 ba))
    clear hv0 h6 ba
    go_upto_region 16 with (fail)
    generalize World.alloc _ _ = W7 at I7 V7 U7 M7 J7 K7 B7 ⊢
    have a0 := I7.out.c0
    have a1 := I7.out.c1
    have b0 := K7.out.c0
    have b1 := K7.out.c1
    go_wp2_with fail
    refine (HM.out _ _ W7 V7.out.slice U7.out.slice).mono ?_
    rintro e w8 ⟨rfl, h8⟩
    have M8 := Lib.hid (M7.out.below h8)
    have J8 := Lib.hid (J7.out.below h8)
    have B8 := Lib.hid (bnext B7.out h8)
    clear a0 a1 b0 b1 h8
    have a0 := J8.out.c0
    have a1 := J8.out.c1
    go_wp2_with fail
    refine (heldRack_any x0 _ ds.length 1 w8 LE.out (by omega) (by omega) M8.out.slice).mono ?_
    rintro e w9 ⟨rfl, h9⟩
    have B9 := Lib.hid (bnext B8.out h9)
    clear a0 a1 h9
    rw [HZ.out]
    go_wp2
    go_ret
    exact ⟨rfl, B9.out⟩
  · have e0 : (1048576 : Int) < (s0.size : Int) := by omega
    go_enter Tryd.func9, Tryd.ntmps9
    go_wp2
    go_ret
    exact ⟨rfl, by go_grown⟩
end Go.Proofs.YtkojnepgeegalaaDoor
