/- What is valid of a book: the program's own functions, and the model's called by value. No condition. -/
import Derived.Test.YtjeflpohokjjkaaValid
namespace Go.Proofs.Ytjeflpohokjjkaa
set_option linter.unusedSimpArgs false
set_option linter.unusedVariables false
set_option maxRecDepth 100000
open Go.RowKit

set_option maxHeartbeats 400000 in
theorem within8_any (n low high : Int) (w : World) :
    Calls Try.prog 46 #[.int .u8 n, .int .u8 low, .int .u8 high] w fun e w' => e = .returned (.bool (inB n low high)) ∧ w = w' := by
  by_cases h1 : low ≤ n
  · by_cases h2 : n ≤ high
    · go_enter Try.func46, Try.ntmps46
      go_wp2
      go_ret
      exact ⟨by simp [inB, h1, h2], rfl⟩
    · go_enter Try.func46, Try.ntmps46
      go_wp2
      go_ret
      exact ⟨by simp [inB, h1, h2], rfl⟩
  · have h1' : n < low := by omega
    go_enter Try.func46, Try.ntmps46
    go_wp2
    go_ret
    exact ⟨by simp [inB, show ¬ low ≤ n from by omega], rfl⟩

set_option maxHeartbeats 400000 in
theorem within16_any (n low high : Int) (w : World) :
    Calls Try.prog 33 #[.int .i16 n, .int .i16 low, .int .i16 high] w fun e w' => e = .returned (.bool (inB n low high)) ∧ w = w' := by
  by_cases h1 : low ≤ n
  · by_cases h2 : n ≤ high
    · go_enter Try.func33, Try.ntmps33
      go_wp2
      go_ret
      exact ⟨by simp [inB, h1, h2], rfl⟩
    · go_enter Try.func33, Try.ntmps33
      go_wp2
      go_ret
      exact ⟨by simp [inB, h1, h2], rfl⟩
  · have h1' : n < low := by omega
    go_enter Try.func33, Try.ntmps33
    go_wp2
    go_ret
    exact ⟨by simp [inB, show ¬ low ≤ n from by omega], rfl⟩

theorem chain8 (a b c d e f g h : Bool) : a = false ∨ (a = true ∧ b = false) ∨ (a = true ∧ b = true ∧ c = false) ∨ (a = true ∧ b = true ∧ c = true ∧ d = false) ∨ (a = true ∧ b = true ∧ c = true ∧ d = true ∧ e = false) ∨
    (a = true ∧ b = true ∧ c = true ∧ d = true ∧ e = true ∧ f = false) ∨ (a = true ∧ b = true ∧ c = true ∧ d = true ∧ e = true ∧ f = true ∧ g = false) ∨ (a = true ∧ b = true ∧ c = true ∧ d = true ∧ e = true ∧ f = true ∧ g = true ∧ h = false) ∨
    (a = true ∧ b = true ∧ c = true ∧ d = true ∧ e = true ∧ f = true ∧ g = true ∧ h = true) := by
  cases a <;> cases b <;> cases c <;> cases d <;> cases e <;> cases f <;> cases g <;> cases h <;> simp

theorem markB_eq (x y z : Int) : markB x y z = (inB x 97 122 && (inB y 97 122 && inB z 97 122)) := by
  unfold markB inB
  rw [Bool.eq_iff_iff]
  simp
  omega

set_option maxHeartbeats 4000000 in
theorem validBook_any (b : Bk) (w : World) :
    Calls Try.prog 34 #[.agg #[.int .i16 b.c, .int .u8 b.m0, .int .u8 b.m1, .int .u8 b.m2, .int .i16 b.v, .int .i16 b.wi, .int .i16 b.hi, .int .i16 b.we]] w fun e w' =>
      e = .returned (.bool (bookB b)) ∧ w.alloc (.cells #[.int .i16 b.c, .int .u8 b.m0, .int .u8 b.m1, .int .u8 b.m2, .int .i16 b.v, .int .i16 b.wi, .int .i16 b.hi, .int .i16 b.we] 46) = w' := by
  have fin : ∀ (r : Bool), r = bookB b → (.returned (.bool r) : Ending) = .returned (.bool (bookB b)) := by
    intro r h; rw [h]
  have F := Lib.hid fin
  clear fin
  have i0 : ∀ w, (Instr.index 44 (.agg #[.int .u8 b.m0, .int .u8 b.m1, .int .u8 b.m2]) (.int .i64 0)).run Try.prog w = .ok (.int .u8 b.m0) w := fun _ => by kernel_rfl
  have i1 : ∀ w, (Instr.index 44 (.agg #[.int .u8 b.m0, .int .u8 b.m1, .int .u8 b.m2]) (.int .i64 1)).run Try.prog w = .ok (.int .u8 b.m1) w := fun _ => by kernel_rfl
  have i2 : ∀ w, (Instr.index 44 (.agg #[.int .u8 b.m0, .int .u8 b.m1, .int .u8 b.m2]) (.int .i64 2)).run Try.prog w = .ok (.int .u8 b.m2) w := fun _ => by kernel_rfl
  rcases chain8 (inB b.m0 97 122) (inB b.m1 97 122) (inB b.m2 97 122) (inB b.c 0 999) (inB b.v 1 99) (inB b.wi 1 100) (inB b.hi 50 400) (inB b.we 1 9999) with e1 | ⟨e1, e2⟩ | ⟨e1, e2, e3⟩ | ⟨e1, e2, e3, e4⟩ | ⟨e1, e2, e3, e4, e5⟩ | ⟨e1, e2, e3, e4, e5, e6⟩ | ⟨e1, e2, e3, e4, e5, e6, e7⟩ | ⟨e1, e2, e3, e4, e5, e6, e7, e8⟩ | ⟨e1, e2, e3, e4, e5, e6, e7, e8⟩
  all_goals
    go_enter Try.func34, Try.ntmps34
    go_wp2
    refine wp_loop_rounds 4 ?_
    repeat (rw [rounds_succ]; go_wp2_with (first
      | (go_at_call 46; refine (within8_any _ _ _ _).mono ?_; rintro e w' ⟨rfl, rfl⟩)
      | (go_at_call 33; refine (within16_any _ _ _ _).mono ?_; rintro e w' ⟨rfl, rfl⟩)))
    go_ret
    refine ⟨F.out _ ?_, rfl⟩
    clear i0 i1 i2
    simp [bookB, markB_eq, *]

end Go.Proofs.Ytjeflpohokjjkaa
