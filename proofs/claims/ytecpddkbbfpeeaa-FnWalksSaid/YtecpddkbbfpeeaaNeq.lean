/- Two books compared with '!=': what the model reckons. No condition. -/
import Derived.Test.YtecpddkbbfpeeaaBk
import Derived.Laws.StructEq
import Derived.ChangeKeysEq
namespace Go.Proofs.Ytecpddkbbfpeeaa
set_option linter.unusedSimpArgs false
set_option linter.unusedVariables false
set_option maxRecDepth 100000
open Go.RowKit

theorem eqMark (d : Nat) (x y z x' y' z' : Int) (w : World) : (Op.equalIn (d + 2) 40 (.agg #[.int .u8 x, .int .u8 y, .int .u8 z]) (.agg #[.int .u8 x', .int .u8 y', .int .u8 z'])).run Try.prog w = .ok (decide (x = x' ∧ y = y' ∧ z = z')) w := by
  obtain ⟨i, hi⟩ : ∃ i, Try.prog.info? 5 = some i := Option.isSome_iff_exists.1 (by kernel_rfl)
  have hc : Try.prog.cellsOf 5 = 1 := by kernel_rfl
  rw [run_equalIn_array w (d + 1) _ _ Try.underlying40 hi, hc]
  simp only [show List.range 3 = [0, 1, 2] from rfl]
  go_simp
  by_cases h1 : x = x' <;> by_cases h2 : y = y' <;> by_cases h3 : z = z' <;> simp [h1, h2, h3, Op.eqItems, go_sem]

theorem neqBook (a b : Bk) (w : World) : (binOp .neq 42 (.agg #[.int .i16 a.c, .int .u8 a.m0, .int .u8 a.m1, .int .u8 a.m2, .int .i16 a.v, .int .i16 a.wi, .int .i16 a.hi, .int .i16 a.we]) (.agg #[.int .i16 b.c, .int .u8 b.m0, .int .u8 b.m1, .int .u8 b.m2, .int .i16 b.v, .int .i16 b.wi, .int .i16 b.hi, .int .i16 b.we])).run Try.prog w = .ok (.bool (!decide (a = b))) w := by
  have hS : Try.prog.underlying 42 = some (.struct (Try.prog.fieldsOf 42)) := by kernel_rfl
  have hp : Try.prog.stoodInHeld 42 = false := by kernel_rfl
  have hm := eqMark 9997 a.m0 a.m1 a.m2 b.m0 b.m1 b.m2
  simp only [Nat.reduceAdd] at hm
  rw [run_neq_struct, show (10000 : Nat) = 9999 + 1 from rfl, run_equalIn_agg w 9999 42 _ _ hS hp]
  simp only [Program.fieldsOf, Try.underlying42]
  go_simp
  obtain ⟨a0, a1, a2, a3, a4, a5, a6, a7⟩ := a
  obtain ⟨b0, b1, b2, b3, b4, b5, b6, b7⟩ := b
  simp only [Bk.mk.injEq]
  by_cases h0 : a0 = b0 <;> by_cases h1 : (a1 = b1 ∧ a2 = b2 ∧ a3 = b3) <;> by_cases h4 : a4 = b4 <;> by_cases h5 : a5 = b5 <;> by_cases h6 : a6 = b6 <;> by_cases h7 : a7 = b7
  all_goals simp [h0, h1, h4, h5, h6, h7]

end Go.Proofs.Ytecpddkbbfpeeaa
