/- ReadAct, by the model: the whole. Condition: a text no longer than told. -/
import Derived.Test.YtkojnepgeegalaaDoorRdT3
namespace Go.Proofs.YtkojnepgeegalaaDoor
set_option linter.unusedSimpArgs false
set_option linter.unusedVariables false
set_option maxRecDepth 100000
open Go.RowKit

set_option maxHeartbeats 8000000 in
theorem specReadAct_any (T : ByteArray) (hT : T.size ≤ 1048576) (w : World) :
    Calls Tryd.prog 23 #[.string T] w fun e w' => e = .returned (acZ (raX T.data.toList) (raC T.data.toList)) ∧ Below w.heap.size w w' := by
  have X0 := Lib.hid (show LSt w (w.alloc (.cells #[.int .i8 0, .int .i8 0, .int .i8 0] 42)) from ⟨heap_alloc_new w _, (Below.refl _ _).alloc (Nat.le_refl _) _⟩)
  go_enter Tryd.func23, Tryd.ntmps23
  go_upto_region 1 with (fail)
  generalize World.alloc _ _ = W0 at X0 ⊢
  go_wp2_with fail
  refine (l06Read_any T hT W0).mono ?_
  rintro e w1 ⟨x, ok, rfl, hm, h1⟩
  obtain ⟨a, b, c⟩ := x
  have HM := Lib.hid hm
  have X1 := Lib.hid (X0.out.bx h1)
  have ba := (Below.refl w1.heap.size w1).alloc (Nat.le_refl _) (.cells #[.int .i8 (a : Int), .int .i8 (b : Int), .int .i8 (c : Int)] 42)
  have X2 := Lib.hid (X1.out.bx ba)
  have A2 := Lib.hid (show AB (w1.alloc (.cells #[.int .i8 (a : Int), .int .i8 (b : Int), .int .i8 (c : Int)] 42)) w1.heap.size (a : Int) (b : Int) (c : Int) from heap_alloc_new w1 _)
  clear hm h1 ba
  go_upto_region 2 with (fail)
  generalize World.alloc _ _ = W2 at X2 A2 ⊢
  rcases HM.out with ⟨rfl, h⟩ | ⟨rfl, h⟩
  · have YE := Lib.hid (ra_yes h)
    clear h
    have c0 := A2.out.c0
    have c1 := A2.out.c1
    have c2 := A2.out.c2
    have r0 := X2.out.rb.c0
    have r1 := X2.out.rb.c1
    have r2 := X2.out.rb.c2
    have fz := X2.out.rb.fz
    have PR := Lib.hid (X2.out.rb.all (a : Int) (b : Int) (c : Int))
    have GR := Lib.hid (gr3 (a : Int) (b : Int) (c : Int) (Gr.of (g := w.heap.size) X2.out.bl))
    go_wp2
    have q0 := PR.out.c0
    have q1 := PR.out.c1
    have q2 := PR.out.c2
    exact bodyPost_ret (v := .tuple #[.agg #[.int .i8 (a : Int), .int .i8 (b : Int), .int .i8 (c : Int)], .int .i64 0]) (by simp [results, Tryd.results23, go_sem, q0, q1, q2]) rfl ⟨by rw [YE.out.1, YE.out.2]; rfl, low_gr GR.out⟩
  · have NO := Lib.hid (ra_no h)
    clear h
    have r0 := X2.out.rb.c0
    have r1 := X2.out.rb.c1
    have r2 := X2.out.rb.c2
    have fz := X2.out.rb.fz
    have PR := Lib.hid (X2.out.rb.all 0 0 0)
    have GR := Lib.hid (gr3 0 0 0 (Gr.of (g := w.heap.size) X2.out.bl))
    go_wp2
    have q0 := PR.out.c0
    have q1 := PR.out.c1
    have q2 := PR.out.c2
    exact bodyPost_ret (v := .tuple #[.agg #[.int .i8 0, .int .i8 0, .int .i8 0], .int .i64 5]) (by simp [results, Tryd.results23, go_sem, q0, q1, q2]) rfl ⟨by rw [NO.out.1, NO.out.2]; rfl, low_gr GR.out⟩
end Go.Proofs.YtkojnepgeegalaaDoor
