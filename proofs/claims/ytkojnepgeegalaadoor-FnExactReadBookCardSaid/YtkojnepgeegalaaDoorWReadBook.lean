/- The law of ReadBook, walked. Condition: the two error variables hold two different errors of errors.New's make. -/
import Derived.Test.YtkojnepgeegalaaDoorRdB3
import Derived.Test.YtkojnepgeegalaaDoorQuiet
namespace Go.Proofs.YtkojnepgeegalaaDoor
set_option linter.unusedSimpArgs false
set_option linter.unusedVariables false
set_option maxRecDepth 100000
open Go.RowKit

theorem specRBk {T : ByteArray} (hT : T.size ≤ 1048576) {b : Bk} {k : Int} (hB : rbB T.data.toList = b) (hC : rbC T.data.toList = k) (w : World) :
    Calls Tryd.prog 10 #[.string T] w fun e w' => e = .returned (.tuple #[.agg #[.int .i16 b.c, .int .u8 b.m0, .int .u8 b.m1, .int .u8 b.m2, .int .i16 b.v, .int .i16 b.wi, .int .i16 b.hi, .int .i16 b.we], .int .i64 k]) ∧ Below w.heap.size w w' := by
  have h := specReadBook_any T hT w
  rw [hB, hC] at h
  exact h
theorem implRBk {T : ByteArray} (hT : T.size ≤ 1048576) {b : Bk} {k : Int} (hB : rbB T.data.toList = b) (hC : rbC T.data.toList = k) (w : World) (s y : Addr) (he : Es2 w s y) :
    Calls Tryd.prog 11 #[.string T] w fun e w' => e = .returned (.tuple #[.agg #[.int .i16 b.c, .int .u8 b.m0, .int .u8 b.m1, .int .u8 b.m2, .int .i16 b.v, .int .i16 b.wi, .int .i16 b.hi, .int .i16 b.we], .int .i64 k]) ∧ Below w.heap.size w w' := by
  have h := readBook_any T hT w s y he
  rw [hB, hC] at h
  exact h
set_option maxHeartbeats 16000000 in
theorem walkReadBook (s0 : ByteArray) (wf0 : s0.size ≤ maxLen) (w : World) (s y : Addr) (he : Es2 w s y)  :
    Calls Tryd.prog 3 #[.string s0] w fun e w' => e = .returned (.bool true) ∧ Below w.heap.size w w' := by
  have HE := Lib.hid he
  clear he
  by_cases hn0 : (s0.size : Int) ≤ 1048576
  · have e0 : ¬ ((1048576 : Int) < (s0.size : Int)) := by omega
    have hT : s0.size ≤ 1048576 := by omega
    obtain ⟨b, hb⟩ : ∃ b, rbB s0.data.toList = b := ⟨_, rfl⟩
    obtain ⟨k, hk⟩ : ∃ k, rbC s0.data.toList = k := ⟨_, rfl⟩
    have SP := Lib.hid (fun W => specRBk hT hb hk W)
    have IM := Lib.hid (fun W h => implRBk hT hb hk W s y h)
    clear hb hk
    go_enter Tryd.func3, Tryd.ntmps3
    go_wp2_with fail
    refine (SP.out _).mono ?_
    rintro e w1 ⟨rfl, h1⟩
    have X0 := Lib.hid (show BB (w1.alloc (.cells #[.int .i16 b.c, .int .u8 b.m0, .int .u8 b.m1, .int .u8 b.m2, .int .i16 b.v, .int .i16 b.wi, .int .i16 b.hi, .int .i16 b.we] 25)) w1.heap.size b from heap_alloc_new w1 _)
    have BW := Lib.hid (h1.alloc h1.size (.cells #[.int .i16 b.c, .int .u8 b.m0, .int .u8 b.m1, .int .u8 b.m2, .int .i16 b.v, .int .i16 b.wi, .int .i16 b.hi, .int .i16 b.we] 25))
    clear h1
    go_upto_region 4 with (fail)
    generalize World.alloc _ _ = W1 at X0 BW ⊢
    go_wp2_with fail
    refine (IM.out _ (HE.out.below BW.out)).mono ?_
    rintro e w2 ⟨rfl, h2⟩
    have X1 := Lib.hid (show BB (w2.alloc (.cells #[.int .i16 b.c, .int .u8 b.m0, .int .u8 b.m1, .int .u8 b.m2, .int .i16 b.v, .int .i16 b.wi, .int .i16 b.hi, .int .i16 b.we] 25)) w2.heap.size b from heap_alloc_new w2 _)
    have X2 := Lib.hid (X0.out.gr (Gr.of (g := w2.heap.size) (h2.alloc h2.size (.cells #[.int .i16 b.c, .int .u8 b.m0, .int .u8 b.m1, .int .u8 b.m2, .int .i16 b.v, .int .i16 b.wi, .int .i16 b.hi, .int .i16 b.we] 25))) (by have := X0.out.lt; have := h2.size; omega))
    have BV := Lib.hid (bnext BW.out (h2.alloc h2.size (.cells #[.int .i16 b.c, .int .u8 b.m0, .int .u8 b.m1, .int .u8 b.m2, .int .i16 b.v, .int .i16 b.wi, .int .i16 b.hi, .int .i16 b.we] 25)))
    clear h2
    go_upto_region 5 with (fail)
    generalize World.alloc _ _ = W2 at X1 X2 BV ⊢
    have a0 := X1.out.c0
    have a1 := X1.out.c1
    have a2 := X1.out.c2
    have a3 := X1.out.c3
    have a4 := X1.out.c4
    have a5 := X1.out.c5
    have a6 := X1.out.c6
    have a7 := X1.out.c7
    have b0 := X2.out.c0
    have b1 := X2.out.c1
    have b2 := X2.out.c2
    have b3 := X2.out.c3
    have b4 := X2.out.c4
    have b5 := X2.out.c5
    have b6 := X2.out.c6
    have b7 := X2.out.c7
    go_wp2_with fail
    refine (eqBook_same b _).mono ?_
    rintro e w3 ⟨rfl, h3⟩
    have D3 := Lib.hid (bnext BV.out h3)
    clear a0 a1 a2 a3 a4 a5 a6 a7 b0 b1 b2 b3 b4 b5 b6 b7 h3
    go_wp2
    go_ret
    exact ⟨rfl, D3.out⟩
  · have e0 : (1048576 : Int) < (s0.size : Int) := by omega
    go_enter Tryd.func3, Tryd.ntmps3
    go_wp2
    go_ret
    exact ⟨rfl, by go_grown⟩
end Go.Proofs.YtkojnepgeegalaaDoor
