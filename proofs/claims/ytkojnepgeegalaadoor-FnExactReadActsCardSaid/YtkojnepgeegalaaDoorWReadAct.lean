/- The law of ReadAct, walked. Condition: the two error variables hold two different errors of errors.New's make. -/
import Derived.Test.YtkojnepgeegalaaDoorRdT4
import Derived.Test.YtkojnepgeegalaaDoorQuiet
namespace Go.Proofs.YtkojnepgeegalaaDoor
set_option linter.unusedSimpArgs false
set_option linter.unusedVariables false
set_option maxRecDepth 100000
open Go.RowKit

set_option maxHeartbeats 400000 in
theorem eqAct_same (a b c : Int) (w : World) :
    Calls Tryd.prog 25 #[.agg #[.int .i8 a, .int .i8 b, .int .i8 c], .agg #[.int .i8 a, .int .i8 b, .int .i8 c]] w fun e w' => e = .returned (.bool true) ∧ Below w.heap.size w w' := by
  go_enter Tryd.func25, Tryd.ntmps25
  go_wp2
  go_ret
  exact ⟨rfl, by go_grown⟩
theorem specRAc {T : ByteArray} (hT : T.size ≤ 1048576) {a b c k : Int} (hX : acZ (raX T.data.toList) (raC T.data.toList) = .tuple #[.agg #[.int .i8 a, .int .i8 b, .int .i8 c], .int .i64 k]) (w : World) :
    Calls Tryd.prog 23 #[.string T] w fun e w' => e = .returned (.tuple #[.agg #[.int .i8 a, .int .i8 b, .int .i8 c], .int .i64 k]) ∧ Below w.heap.size w w' := by
  have h := specReadAct_any T hT w
  rw [hX] at h
  exact h
theorem implRAc {T : ByteArray} (hT : T.size ≤ 1048576) {a b c k : Int} (hX : acZ (raX T.data.toList) (raC T.data.toList) = .tuple #[.agg #[.int .i8 a, .int .i8 b, .int .i8 c], .int .i64 k]) (w : World) (s y : Addr) (he : Es2 w s y) :
    Calls Tryd.prog 24 #[.string T] w fun e w' => e = .returned (.tuple #[.agg #[.int .i8 a, .int .i8 b, .int .i8 c], .int .i64 k]) ∧ Below w.heap.size w w' := by
  have h := readAct_any T hT w s y he
  rw [hX] at h
  exact h
set_option maxHeartbeats 16000000 in
theorem walkReadAct (s0 : ByteArray) (wf0 : s0.size ≤ maxLen) (w : World) (s y : Addr) (he : Es2 w s y)  :
    Calls Tryd.prog 6 #[.string s0] w fun e w' => e = .returned (.bool true) ∧ Below w.heap.size w w' := by
  have HE := Lib.hid he
  clear he
  by_cases hn0 : (s0.size : Int) ≤ 1048576
  · have e0 : ¬ ((1048576 : Int) < (s0.size : Int)) := by omega
    have hT : s0.size ≤ 1048576 := by omega
    obtain ⟨a, b, c, k, hk⟩ : ∃ a b c k : Int, acZ (raX s0.data.toList) (raC s0.data.toList) = .tuple #[.agg #[.int .i8 a, .int .i8 b, .int .i8 c], .int .i64 k] := ⟨_, _, _, _, rfl⟩
    have SP := Lib.hid (fun W => specRAc hT hk W)
    have IM := Lib.hid (fun W h => implRAc hT hk W s y h)
    clear hk
    go_enter Tryd.func6, Tryd.ntmps6
    go_wp2_with fail
    refine (SP.out _).mono ?_
    rintro e w1 ⟨rfl, h1⟩
    have X0 := Lib.hid (show AB (w1.alloc (.cells #[.int .i8 a, .int .i8 b, .int .i8 c] 42)) w1.heap.size a b c from heap_alloc_new w1 _)
    have BW := Lib.hid (h1.alloc h1.size (.cells #[.int .i8 a, .int .i8 b, .int .i8 c] 42))
    clear h1
    go_upto_region 4 with (fail)
    generalize World.alloc _ _ = W1 at X0 BW ⊢
    go_wp2_with fail
    refine (IM.out _ (HE.out.below BW.out)).mono ?_
    rintro e w2 ⟨rfl, h2⟩
    have X1 := Lib.hid (show AB (w2.alloc (.cells #[.int .i8 a, .int .i8 b, .int .i8 c] 42)) w2.heap.size a b c from heap_alloc_new w2 _)
    have X2 := Lib.hid (X0.out.gr (Gr.of (g := w2.heap.size) (h2.alloc h2.size (.cells #[.int .i8 a, .int .i8 b, .int .i8 c] 42))) (by have := X0.out.lt; have := h2.size; omega))
    have BV := Lib.hid (bnext BW.out (h2.alloc h2.size (.cells #[.int .i8 a, .int .i8 b, .int .i8 c] 42)))
    clear h2
    go_upto_region 5 with (fail)
    generalize World.alloc _ _ = W2 at X1 X2 BV ⊢
    have a0 := X1.out.c0
    have a1 := X1.out.c1
    have a2 := X1.out.c2
    have b0 := X2.out.c0
    have b1 := X2.out.c1
    have b2 := X2.out.c2
    go_wp2_with fail
    refine (eqAct_same a b c _).mono ?_
    rintro e w3 ⟨rfl, h3⟩
    have D3 := Lib.hid (bnext BV.out h3)
    clear a0 a1 a2 b0 b1 b2 h3
    go_wp2
    go_ret
    exact ⟨rfl, D3.out⟩
  · have e0 : (1048576 : Int) < (s0.size : Int) := by omega
    go_enter Tryd.func6, Tryd.ntmps6
    go_wp2
    go_ret
    exact ⟨rfl, by go_grown⟩
end Go.Proofs.YtkojnepgeegalaaDoor
