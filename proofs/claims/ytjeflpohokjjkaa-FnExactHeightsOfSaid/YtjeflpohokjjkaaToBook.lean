/- The law's own copy of a book, contract. No condition. -/
import Derived.Test.YtjeflpohokjjkaaBk
namespace Go.Proofs.Ytjeflpohokjjkaa
set_option linter.unusedSimpArgs false
set_option linter.unusedVariables false
set_option maxRecDepth 100000
open Go.RowKit

set_option maxHeartbeats 1000000 in
theorem toByteA3_at (x y z : Int) (w : World) :
    Calls Try.prog 32 #[.agg #[.int .u8 x, .int .u8 y, .int .u8 z]] w fun e w' => e = .returned (.agg #[.int .u8 x, .int .u8 y, .int .u8 z]) ∧
      ((w.alloc (.cells #[.int .u8 x, .int .u8 y, .int .u8 z] 44)).alloc (.cells #[.int .u8 x, .int .u8 y, .int .u8 z] 44)).alloc (.cells #[.int .u8 x, .int .u8 y, .int .u8 z] 44) = w' := by
  go_enter Try.func32, Try.ntmps32
  go_wp2
  refine wp_loop_rounds 4 ?_
  rw [rounds_succ]; go_wp2
  rw [rounds_succ]; go_wp2
  rw [rounds_succ]; go_wp2
  rw [rounds_succ]; go_wp2
  go_returns
  exact ⟨rfl, rfl⟩

set_option maxHeartbeats 1000000 in
theorem toBook_any (b : Bk) (w : World) :
    Calls Try.prog 19 #[.agg #[.int .i16 b.c, .int .u8 b.m0, .int .u8 b.m1, .int .u8 b.m2, .int .i16 b.v, .int .i16 b.wi, .int .i16 b.hi, .int .i16 b.we]] w fun e w' =>
      e = .returned (.agg #[.int .i16 b.c, .int .u8 b.m0, .int .u8 b.m1, .int .u8 b.m2, .int .i16 b.v, .int .i16 b.wi, .int .i16 b.hi, .int .i16 b.we]) ∧ Below w.heap.size w w' := by
  go_enter Try.func19, Try.ntmps19
  go_wp2_with fail
  refine (toByteA3_at _ _ _ _).mono ?_
  rintro e w1 ⟨rfl, rfl⟩
  go_wp2
  go_returns
  refine ⟨rfl, ?_⟩
  go_grown
end Go.Proofs.Ytjeflpohokjjkaa
