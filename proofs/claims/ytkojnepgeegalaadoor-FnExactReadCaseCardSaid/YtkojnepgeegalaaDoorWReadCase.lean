/- The law of ReadCase, walked. Condition: the two error variables hold two different errors of errors.New's make. -/
import Derived.Test.YtkojnepgeegalaaDoorRdK2
import Derived.Test.YtkojnepgeegalaaDoorCase
namespace Go.Proofs.YtkojnepgeegalaaDoor
set_option linter.unusedSimpArgs false
set_option linter.unusedVariables false
set_option maxRecDepth 100000
open Go.RowKit

set_option maxHeartbeats 2000000 in
theorem eqCase_sameR (c : Cs) (h1 h2 : Value) (w : World) (s1 : IntsOf .i16 w h1 c.hs) (s2 : IntsOf .i16 w h2 c.hs) (hn : c.hs.length ≤ maxLen) :
    Calls Tryd.prog 33 #[.agg #[.int .i16 c.wi, .int .i32 c.lo, h1], .agg #[.int .i16 c.wi, .int .i32 c.lo, h2]] w fun e w' => e = .returned (.bool true) ∧ Below w.heap.size w w' := by
  have H1 := Lib.hid s1
  have H2 := Lib.hid s2
  obtain ⟨A1, k1, rfl, -⟩ := s1
  obtain ⟨A2, k2, rfl, -⟩ := s2
  go_enter Tryd.func33, Tryd.ntmps33
  go_wp2_with fail
  refine (eqInt16S_same' _ _ _ _ (H1.out.below (by go_grown)) (H2.out.below (by go_grown)) hn).mono ?_
  rintro e w1 ⟨rfl, hb⟩
  go_wp2
  go_ret
  exact ⟨rfl, bnext (show Below w.heap.size w _ by go_grown) hb⟩
theorem grownAlloc {w w' : World} {o : Obj} {row : Option Nat} (h : (w.alloc o).grownBy w' row) : w.grownBy w' row :=
  ⟨h.os, h.tape, h.output, Nat.le_trans (by simp) h.size, fun k hk hne => (h.block k (by simp; omega) hne).trans (Below.heap_alloc w o k hk)⟩
set_option maxHeartbeats 1000000 in
theorem markCaseO (a b : Int) (A : Option Addr) (c : Nat) (l : List Int) (base : Nat) (w : World) (hn : l.length ≤ 300) (h : w.ownsRow base 22 1 (.slice A l.length c) l.length (l.map (Value.int .i16))) :
    Calls Tryd.prog 34 #[.agg #[.int .i16 a, .int .i32 b, .slice A l.length c], .int .i64 1] w fun e w' => e = .returned (.int .i64 (1 + l.length)) ∧ w'.ownsRow base 22 1 (.slice A l.length c) (mks 1 l).length ((mks 1 l).map (Value.int .i16)) ∧ w.grownBy w' (Value.slice A l.length c).ownBlock := by
  have HA := Lib.hid (ownBelow h ((Below.refl w.heap.size w).alloc (Nat.le_refl _) (.cells #[.int .i16 a, .int .i32 b, .slice A l.length c] 53)))
  clear h
  go_enter Tryd.func34, Tryd.ntmps34
  go_wp2_with fail
  refine (markI16o_any _ l 1 base _ hn (by omega) (by omega) HA.out).mono ?_
  rintro e w1 ⟨rfl, ho, k1⟩
  have HO := Lib.hid ho
  have HK := Lib.hid (grownAlloc k1)
  clear ho k1
  go_wp2
  go_ret
  exact ⟨rfl, HO.out, HK.out⟩
set_option maxHeartbeats 1000000 in
theorem heldCaseO (a b : Int) (A : Option Addr) (c : Nat) (l : List Int) (base : Nat) (w : World) (hn : l.length ≤ 300) (h : w.ownsRow base 22 1 (.slice A l.length c) (mks 1 l).length ((mks 1 l).map (Value.int .i16))) :
    Calls Tryd.prog 35 #[.agg #[.int .i16 a, .int .i32 b, .slice A l.length c], .int .i64 1] w fun e w' => e = .returned (.int .i64 (1 + l.length)) ∧ Below w.heap.size w w' := by
  have ba := Lib.hid ((Below.refl w.heap.size w).alloc (Nat.le_refl _) (.cells #[.int .i16 a, .int .i32 b, .slice A l.length c] 53))
  have HA := Lib.hid (ownInts (ownBelow h ba.out))
  have k0 : ¬ (1 + (l.length : Int) < 0) := by omega
  have k1 : decide (1 + (l.length : Int) < 0) = false := decide_eq_false k0
  clear h
  go_enter Tryd.func35, Tryd.ntmps35
  go_wp2_with fail
  refine (heldI16o_any _ l 1 _ hn (by omega) (by omega) HA.out).mono ?_
  rintro e w1 ⟨rfl, hb⟩
  have HB := Lib.hid (bnext ba.out hb)
  clear hb
  generalize hz : 1 + (l.length : Int) = z at *
  have HZ := Lib.hid hz
  clear hz
  go_wp2
  go_ret
  exact ⟨by rw [HZ.out]; rfl, HB.out⟩
theorem specRC {T : ByteArray} (hT : T.size ≤ 1048576) {c : Cs} {k : Int} (hV : rcV T.data.toList = c) (hK : rcK T.data.toList = k) (w : World) :
    Calls Tryd.prog 31 #[.string T] w fun e w' => ∃ A n, e = .returned (.tuple #[.agg #[.int .i16 c.wi, .int .i32 c.lo, .slice A c.hs.length n], .int .i64 k]) ∧ w'.ownsRow w.heap.size 22 1 (.slice A c.hs.length n) c.hs.length (c.hs.map (Value.int .i16)) ∧ Below w.heap.size w w' := by
  have h := specReadCase_any T hT w
  rw [hV, hK] at h
  refine h.mono ?_
  rintro e w' ⟨u, rfl, h1, h2⟩
  obtain ⟨A, n, rfl⟩ := own_sl h1
  exact ⟨A, n, rfl, h1, h2⟩
theorem implRC {T : ByteArray} (hT : T.size ≤ 1048576) {c : Cs} {k : Int} (hV : rcV T.data.toList = c) (hK : rcK T.data.toList = k) (w : World) (s y : Addr) (he : Es2 w s y) :
    Calls Tryd.prog 32 #[.string T] w fun e w' => ∃ A n, e = .returned (.tuple #[.agg #[.int .i16 c.wi, .int .i32 c.lo, .slice A c.hs.length n], .int .i64 k]) ∧ w'.ownsRow w.heap.size 22 1 (.slice A c.hs.length n) c.hs.length (c.hs.map (Value.int .i16)) ∧ Below w.heap.size w w' := by
  have h := readCase_any T hT w s y he
  rw [hV, hK] at h
  refine h.mono ?_
  rintro e w' ⟨u, rfl, h1, h2⟩
  obtain ⟨A, n, rfl⟩ := own_sl h1
  exact ⟨A, n, rfl, h1, h2⟩
set_option maxHeartbeats 16000000 in
theorem walkReadCase (s0 : ByteArray) (wf0 : s0.size ≤ maxLen) (w : World) (s y : Addr) (he : Es2 w s y)  :
    Calls Tryd.prog 8 #[.string s0] w fun e w' => e = .returned (.bool true) ∧ Below w.heap.size w w' := by
  have HE := Lib.hid he
  clear he
  by_cases hn0 : (s0.size : Int) ≤ 1048576
  · have e0 : ¬ ((1048576 : Int) < (s0.size : Int)) := by omega
    have hT : s0.size ≤ 1048576 := by omega
    have le := rcV_len s0.data.toList
    obtain ⟨cv, hV⟩ : ∃ cv, rcV s0.data.toList = cv := ⟨_, rfl⟩
    obtain ⟨k, hK⟩ : ∃ k, rcK s0.data.toList = k := ⟨_, rfl⟩
    rw [hV] at le
    have SP := Lib.hid (fun W => specRC hT hV hK W)
    have IM := Lib.hid (fun W h => implRC hT hV hK W s y h)
    have LE := Lib.hid (show cv.hs.length ≤ 300 by omega)
    have ML := Lib.hid (show cv.hs.length ≤ maxLen by unfold maxLen; omega)
    have HM := Lib.hid (fun h1 h2 W a b => eqCase_sameR cv h1 h2 W a b ML.out)
    obtain ⟨x0, x1, ds⟩ := cv
    dsimp only at SP IM LE ML HM le
    clear hV hK le
    go_enter Tryd.func8, Tryd.ntmps8
    go_wp2_with fail
    refine (SP.out _).mono ?_
    rintro e w1 ⟨A0, n0', rfl, hu0, h1⟩
    have LU := Lib.hid hu0.lt
    have ba := (Below.refl w1.heap.size w1).alloc (Nat.le_refl _) (.cells #[.int .i16 x0, .int .i32 x1, .slice A0 ds.length n0'] 53)
    have K1 := Lib.hid (show KB (w1.alloc (.cells #[.int .i16 x0, .int .i32 x1, .slice A0 ds.length n0'] 53)) w1.heap.size x0 x1 (.slice A0 ds.length n0') from heap_alloc_new w1 _)
    have U1 := Lib.hid (ownBelow hu0 ba)
    have B1 := Lib.hid (bnext h1 ba)
    clear hu0 h1 ba
    go_upto_region 4 with (fail)
    generalize World.alloc _ _ = W1 at K1 U1 B1 ⊢
    have z1 : w1.heap.size < W1.heap.size := K1.out.lt
    go_wp2_with fail
    refine (IM.out _ (HE.out.below B1.out)).mono ?_
    rintro e w2 ⟨A1, n1', rfl, ht0, h2⟩
    have LT := Lib.hid ht0.lt
    have ba := (Below.refl w2.heap.size w2).alloc (Nat.le_refl _) (.cells #[.int .i16 x0, .int .i32 x1, .slice A1 ds.length n1'] 53)
    have J2 := Lib.hid (show KB (w2.alloc (.cells #[.int .i16 x0, .int .i32 x1, .slice A1 ds.length n1'] 53)) w2.heap.size x0 x1 (.slice A1 ds.length n1') from heap_alloc_new w2 _)
    have T2 := Lib.hid (ownBelow ht0 ba)
    have U2 := Lib.hid (ownBelow U1.out (bnext h2 ba))
    have K2 := Lib.hid (K1.out.below (bnext h2 ba))
    have B2 := Lib.hid (bnext B1.out (bnext h2 ba))
    have z2 : W1.heap.size ≤ w2.heap.size := h2.size
    clear ht0 h2 ba
    go_upto_region 5 with (fail)
    generalize World.alloc _ _ = W2 at J2 T2 U2 K2 B2 ⊢
    have a0 := J2.out.c0
    have a1 := J2.out.c1
    have a2 := J2.out.c2
    have b0 := K2.out.c0
    have b1 := K2.out.c1
    have b2 := K2.out.c2
    go_wp2_with fail
    refine (HM.out _ _ W2 (ownInts T2.out) (ownInts U2.out)).mono ?_
    rintro e w3 ⟨rfl, h3⟩
    have J3 := Lib.hid (J2.out.below h3)
    have T3 := Lib.hid (ownBelow T2.out h3)
    have U3 := Lib.hid (ownBelow U2.out h3)
    have K3 := Lib.hid (K2.out.below h3)
    have B3 := Lib.hid (bnext B2.out h3)
    clear a0 a1 a2 b0 b1 b2 h3
    have a0 := J3.out.c0
    have a1 := J3.out.c1
    have a2 := J3.out.c2
    go_wp2_with fail
    refine (markCaseO x0 x1 A1 n1' ds _ w3 LE.out T3.out).mono ?_
    rintro e w4 ⟨rfl, hm, h4⟩
    have M4 := Lib.hid hm
    have J4 := Lib.hid (J3.out.kept h4 (fun e => by have := (LT.out _ e.symm).2; omega))
    have U4 := Lib.hid (ownOther U3.out h4 (fun k hk e => by have := (LU.out k hk).2; have := (LT.out k e.symm).1; omega))
    have K4 := Lib.hid (K3.out.kept h4 (fun e => by have := (LT.out _ e.symm).1; omega))
    have B4 := Lib.hid (B3.out.grown h4 B3.out.size (fun k hk => by have := (LT.out k hk).1; have := B1.out.size; omega))
    clear a0 a1 a2 hm h4
    have a0 := J4.out.c0
    have a1 := J4.out.c1
    have a2 := J4.out.c2
    go_wp2_with fail
    refine (heldCaseO x0 x1 A1 n1' ds _ w4 LE.out M4.out).mono ?_
    rintro e w5 ⟨rfl, h5⟩
    have M5 := Lib.hid (ownBelow M4.out h5)
    have J5 := Lib.hid (J4.out.below h5)
    have U5 := Lib.hid (ownBelow U4.out h5)
    have K5 := Lib.hid (K4.out.below h5)
    have B5 := Lib.hid (bnext B4.out h5)
    have kz : ¬ (1 + (ds.length : Int) < 0) := by omega
    have kd : decide (1 + (ds.length : Int) < 0) = false := decide_eq_false kz
    clear a0 a1 a2 h5
    generalize hzz : 1 + (ds.length : Int) = zz at *
    have HZ := Lib.hid hzz
    clear hzz
    go_wp2_with fail
    refine (IM.out _ (HE.out.below B5.out)).mono ?_
    rintro e w6 ⟨A2, n2', rfl, hv0, h6⟩
    have ba := (Below.refl w6.heap.size w6).alloc (Nat.le_refl _) (.cells #[.int .i16 x0, .int .i32 x1, .slice A2 ds.length n2'] 53)
    have I7 := Lib.hid (show KB (w6.alloc (.cells #[.int .i16 x0, .int .i32 x1, .slice A2 ds.length n2'] 53)) w6.heap.size x0 x1 (.slice A2 ds.length n2') from heap_alloc_new w6 _)
    have V7 := Lib.hid (ownBelow hv0 ba)
    have U7 := Lib.hid (ownBelow U5.out (bnext h6 ba))
    have M7 := Lib.hid (ownBelow M5.out (bnext h6 ba))
    have J7 := Lib.hid (J5.out.below (bnext h6 ba))
    have K7 := Lib.hid (K5.out.below (bnext h6 ba))
    have B7 := Lib.hid (bnext B5.out (bnext h6 ba))
    clear hv0 h6 ba
    go_upto_region 16 with (fail)
    generalize World.alloc _ _ = W7 at I7 V7 U7 M7 J7 K7 B7 ⊢
    have a0 := I7.out.c0
    have a1 := I7.out.c1
    have a2 := I7.out.c2
    have b0 := K7.out.c0
    have b1 := K7.out.c1
    have b2 := K7.out.c2
    go_wp2_with fail
    refine (HM.out _ _ W7 (ownInts V7.out) (ownInts U7.out)).mono ?_
    rintro e w8 ⟨rfl, h8⟩
    have M8 := Lib.hid (ownBelow M7.out h8)
    have J8 := Lib.hid (J7.out.below h8)
    have B8 := Lib.hid (bnext B7.out h8)
    clear a0 a1 a2 b0 b1 b2 h8
    have a0 := J8.out.c0
    have a1 := J8.out.c1
    have a2 := J8.out.c2
    go_wp2_with fail
    refine (heldCaseO x0 x1 A1 n1' ds _ w8 LE.out M8.out).mono ?_
    rintro e w9 ⟨rfl, h9⟩
    have B9 := Lib.hid (bnext B8.out h9)
    clear a0 a1 a2 h9
    rw [HZ.out]
    go_wp2
    go_ret
    exact ⟨rfl, B9.out⟩
  · have e0 : (1048576 : Int) < (s0.size : Int) := by omega
    go_enter Tryd.func8, Tryd.ntmps8
    go_wp2
    go_ret
    exact ⟨rfl, by go_grown⟩
end Go.Proofs.YtkojnepgeegalaaDoor
