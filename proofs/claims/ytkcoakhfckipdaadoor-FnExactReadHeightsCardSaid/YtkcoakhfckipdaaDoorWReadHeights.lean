/- The law of ReadHeights, walked. Condition: the two error variables hold two different errors of errors.New's make. -/
import Derived.Test.YtkcoakhfckipdaaDoorRdJ
import Derived.Deep.RegionHeld3
import Derived.Test.YtkcoakhfckipdaaDoorOwnsI
namespace Go.Proofs.YtkcoakhfckipdaaDoor
set_option linter.unusedSimpArgs false
set_option linter.unusedVariables false
set_option maxRecDepth 100000
open Go.RowKit

set_option maxHeartbeats 400000 in
theorem eqPegs_same (a b c : Int) (w : World) :
    Calls Tryd.prog 45 #[.agg #[.int .i16 a, .int .i16 b, .int .i16 c], .agg #[.int .i16 a, .int .i16 b, .int .i16 c]] w fun e w' => e = .returned (.bool true) ∧ Below w.heap.size w w' := by
  go_enter Tryd.func45, Tryd.ntmps45
  go_wp2
  go_ret
  exact ⟨rfl, by go_grown⟩
theorem specRH {T : ByteArray} (hT : T.size ≤ 1048576) {a b c k : Int} {zs : List Int} (hP : rhP T.data.toList = ⟨a, b, c⟩) (hZ : rhZ T.data.toList = zs) (hC : rhC T.data.toList = k) (w : World) :
    Calls Tryd.prog 43 #[.string T] w fun e w' => ∃ u, e = .returned (.tuple #[.agg #[.int .i16 a, .int .i16 b, .int .i16 c], u, .int .i64 k]) ∧ IntsOf .i64 w' u zs ∧ Below w.heap.size w w' := by
  have h := specReadHeights_any T hT w
  rw [hP, hZ, hC] at h
  exact h
theorem implRH {T : ByteArray} (hT : T.size ≤ 1048576) {a b c k : Int} {zs : List Int} (hP : rhP T.data.toList = ⟨a, b, c⟩) (hZ : rhZ T.data.toList = zs) (hC : rhC T.data.toList = k) (w : World) (s y : Addr) (he : Es2 w s y) :
    Calls Tryd.prog 44 #[.string T] w fun e w' => ∃ u, e = .returned (.tuple #[.agg #[.int .i16 a, .int .i16 b, .int .i16 c], u, .int .i64 k]) ∧ w'.ownsRow w.heap.size 2 1 u zs.length (zs.map (Value.int .i64)) ∧ Below w.heap.size w w' := by
  have h := readHeights_any T hT w s y he
  rw [hP, hZ, hC] at h
  exact h
set_option maxHeartbeats 16000000 in
theorem walkReadHeights (s0 : ByteArray) (wf0 : s0.size ≤ maxLen) (w : World) (s y : Addr) (he : Es2 w s y)  :
    Calls Tryd.prog 10 #[.string s0] w fun e w' => e = .returned (.bool true) ∧ Below w.heap.size w w' := by
  have HE := Lib.hid he
  clear he
  by_cases hn0 : (s0.size : Int) ≤ 1048576
  · have e0 : ¬ ((1048576 : Int) < (s0.size : Int)) := by omega
    have hT : s0.size ≤ 1048576 := by omega
    have LZ := rhZ_len s0.data.toList
    obtain ⟨zs, hz⟩ : ∃ zs, rhZ s0.data.toList = zs := ⟨_, rfl⟩
    obtain ⟨k, hk⟩ : ∃ k, rhC s0.data.toList = k := ⟨_, rfl⟩
    obtain ⟨a, b, c, hp⟩ : ∃ a b c, rhP s0.data.toList = ⟨a, b, c⟩ := ⟨_, _, _, rfl⟩
    rw [hz] at LZ
    have SP := Lib.hid (fun W => specRH hT hp hz hk W)
    have IM := Lib.hid (fun W h => implRH hT hp hz hk W s y h)
    have LR := Lib.hid LZ
    have LM := Lib.hid (show zs.length ≤ maxLen from Nat.le_trans LZ (by unfold maxLen; omega))
    clear hz hk hp LZ
    go_enter Tryd.func10, Tryd.ntmps10
    go_wp2_with fail
    refine (SP.out _).mono ?_
    rintro e w1 ⟨u0, rfl, hu0, h1⟩
    have X0 := Lib.hid (PB.new w1 a b c)
    have U := Lib.hid (hu0.below ((Below.refl w1.heap.size w1).alloc (Nat.le_refl _) (.cells #[.int .i16 a, .int .i16 b, .int .i16 c] 64)))
    have BW := Lib.hid (h1.alloc h1.size (.cells #[.int .i16 a, .int .i16 b, .int .i16 c] 64))
    clear hu0 h1
    go_wp2_with fail
    generalize World.alloc _ _ = W1 at X0 U BW ⊢
    refine (IM.out _ (HE.out.below BW.out)).mono ?_
    rintro e w2 ⟨t0, rfl, ht0, h2⟩
    have X1 := Lib.hid (PB.new w2 a b c)
    have T2 := Lib.hid (ownBelow ht0 ((Below.refl w2.heap.size w2).alloc (Nat.le_refl _) (.cells #[.int .i16 a, .int .i16 b, .int .i16 c] 64)))
    have D2 := Lib.hid (h2.alloc h2.size (.cells #[.int .i16 a, .int .i16 b, .int .i16 c] 64))
    clear ht0 h2
    go_upto_region 5 with (fail)
    generalize World.alloc _ _ = W2 at X1 T2 D2 ⊢
    have y0 := X0.out.below D2.out X0.out.lt
    have a0 := y0.c0
    have a1 := y0.c1
    have a2 := y0.c2
    have b0 := X1.out.c0
    have b1 := X1.out.c1
    have b2 := X1.out.c2
    clear y0
    go_wp2_with fail
    refine (eqPegs_same a b c _).mono ?_
    rintro e w3 ⟨rfl, h3⟩
    have T3 := Lib.hid (ownBelow T2.out h3)
    have D3 := Lib.hid (bnext D2.out h3)
    clear a0 a1 a2 b0 b1 b2 h3
    go_wp2_with fail
    refine (eqInt64S_same' _ _ zs _ (ownInts T3.out) (U.out.below D3.out) LM.out).mono ?_
    rintro e w4 ⟨rfl, h4⟩
    have T4 := Lib.hid (ownBelow T3.out h4)
    have D4 := Lib.hid (bnext D3.out h4)
    clear h4
    go_wp2_with fail
    refine (markI64_any t0 zs 1 _ _ LR.out (by omega) (by omega) T4.out).mono ?_
    rintro e w5 ⟨rfl, hm5, h5⟩
    have T5 := Lib.hid hm5
    have D5 := Lib.hid (D4.out.grown h5 D4.out.size (fun k hk => (T4.out.lt k hk).1))
    clear hm5 h5
    go_wp2_with fail
    refine (heldI64_any t0 zs 1 _ LR.out (by omega) (by omega) (ownInts T5.out)).mono ?_
    rintro e w6 ⟨rfl, h6⟩
    have T6 := Lib.hid (ownBelow T5.out h6)
    have D6 := Lib.hid (bnext D5.out h6)
    clear h6
    go_wp2_with fail
    refine (IM.out _ (HE.out.below (bnext BW.out D6.out))).mono ?_
    rintro e w7 ⟨v0, rfl, hv0, h7⟩
    have D7a := bnext D6.out h7
    have X2 := Lib.hid (PB.new w7 a b c)
    have V7 := Lib.hid (ownBelow hv0 ((Below.refl w7.heap.size w7).alloc (Nat.le_refl _) (.cells #[.int .i16 a, .int .i16 b, .int .i16 c] 64)))
    have T7 := Lib.hid (ownBelow T6.out (h7.alloc h7.size (.cells #[.int .i16 a, .int .i16 b, .int .i16 c] 64)))
    have D7 := Lib.hid (D7a.alloc D7a.size (.cells #[.int .i16 a, .int .i16 b, .int .i16 c] 64))
    clear hv0 h7 D7a
    go_upto_region 16 with (fail)
    generalize World.alloc _ _ = W7 at X2 V7 T7 D7 ⊢
    have y0 := X0.out.below D7.out X0.out.lt
    have a0 := y0.c0
    have a1 := y0.c1
    have a2 := y0.c2
    have b0 := X2.out.c0
    have b1 := X2.out.c1
    have b2 := X2.out.c2
    clear y0
    go_wp2_with fail
    refine (eqPegs_same a b c _).mono ?_
    rintro e w8 ⟨rfl, h8⟩
    have V8 := Lib.hid (ownBelow V7.out h8)
    have T8 := Lib.hid (ownBelow T7.out h8)
    have D8 := Lib.hid (bnext D7.out h8)
    clear a0 a1 a2 b0 b1 b2 h8
    go_wp2_with fail
    refine (eqInt64S_same' _ _ zs _ (ownInts V8.out) (U.out.below D8.out) LM.out).mono ?_
    rintro e w9 ⟨rfl, h9⟩
    have T9 := Lib.hid (ownBelow T8.out h9)
    have D9 := Lib.hid (bnext D8.out h9)
    clear h9
    go_wp2_with fail
    refine (heldI64_any t0 zs 1 _ LR.out (by omega) (by omega) (ownInts T9.out)).mono ?_
    rintro e w10 ⟨rfl, h10⟩
    have D10 := Lib.hid (bnext D9.out h10)
    clear h10
    go_wp2
    go_ret
    exact ⟨rfl, bnext BW.out D10.out⟩
  · have e0 : (1048576 : Int) < (s0.size : Int) := by omega
    go_enter Tryd.func10, Tryd.ntmps10
    go_wp2
    go_ret
    exact ⟨rfl, by go_grown⟩
end Go.Proofs.YtkcoakhfckipdaaDoor
