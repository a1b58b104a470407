/- Two arrays of 10 numbers, the same, compared. No condition. -/
import Derived.Test.YtahpcnfoiiggeabCount
namespace Go.Proofs.Ytahpcnfoiiggeab
set_option linter.unusedSimpArgs false
set_option linter.unusedVariables false
open Go.RowKit

/-- The cells of block g are the n numbers f. -/
def Ar10At (w : World) (g : Nat) (f : Nat → Int) : Prop :=
  ∃ cs : Array Value, w.heap[g]? = some (.cells cs 32 (0, 0)) ∧ ∀ h : Nat, h < 10 → cs[h]? = some (.int .i64 (f h))
theorem ar10At_of (x0 x1 x2 x3 x4 x5 x6 x7 x8 x9 : Int) {w : World} {g : Nat} (h : w.heap[g]? = some (.cells #[.int .i64 x0, .int .i64 x1, .int .i64 x2, .int .i64 x3, .int .i64 x4, .int .i64 x5, .int .i64 x6, .int .i64 x7, .int .i64 x8, .int .i64 x9] 32 (0, 0))) : Ar10At w g (fun h => if h = 0 then x0 else if h = 1 then x1 else if h = 2 then x2 else if h = 3 then x3 else if h = 4 then x4 else if h = 5 then x5 else if h = 6 then x6 else if h = 7 then x7 else if h = 8 then x8 else if h = 9 then x9 else 0) := by
  refine ⟨_, h, fun j hj => ?_⟩
  have : j = 0 ∨ j = 1 ∨ j = 2 ∨ j = 3 ∨ j = 4 ∨ j = 5 ∨ j = 6 ∨ j = 7 ∨ j = 8 ∨ j = 9 := by omega
  rcases this with rfl | rfl | rfl | rfl | rfl | rfl | rfl | rfl | rfl | rfl <;> rfl
theorem Ar10At.cell {w : World} {g : Nat} {f : Nat → Int} (h : Ar10At w g f) (j : Nat) (hj : j < 10) : w.cell? ⟨g, j, none⟩ = some (.int .i64 (f j)) := by
  obtain ⟨cs, h, h3⟩ := h
  rw [cell_of_row w g _ cs _ _ h]
  exact h3 j hj
theorem Ar10At.below {w w' : World} {n g : Nat} {f : Nat → Int} (h : Ar10At w g f) (hb : Below n w w') (hg : g < n) : Ar10At w' g f := by
  obtain ⟨cs, h, h3⟩ := h
  exact ⟨cs, (hb.block g hg).trans h, h3⟩

set_option maxHeartbeats 1000000 in
theorem eqArr10_same (x0 x1 x2 x3 x4 x5 x6 x7 x8 x9 : Int) (w : World) :
    Calls Try.prog 15 #[.agg #[.int .i64 x0, .int .i64 x1, .int .i64 x2, .int .i64 x3, .int .i64 x4, .int .i64 x5, .int .i64 x6, .int .i64 x7, .int .i64 x8, .int .i64 x9], .agg #[.int .i64 x0, .int .i64 x1, .int .i64 x2, .int .i64 x3, .int .i64 x4, .int .i64 x5, .int .i64 x6, .int .i64 x7, .int .i64 x8, .int .i64 x9]] w fun e w' => e = .returned (.bool true) ∧ Below w.heap.size w w' := by
  have G0 := Lib.hid (show Below w.heap.size w ((w.alloc (.cells #[.int .i64 x0, .int .i64 x1, .int .i64 x2, .int .i64 x3, .int .i64 x4, .int .i64 x5, .int .i64 x6, .int .i64 x7, .int .i64 x8, .int .i64 x9] 32)).alloc (.cells #[.int .i64 x0, .int .i64 x1, .int .i64 x2, .int .i64 x3, .int .i64 x4, .int .i64 x5, .int .i64 x6, .int .i64 x7, .int .i64 x8, .int .i64 x9] 32)) from ((Below.refl _ _).alloc (Nat.le_refl _) _).alloc (by simp) _)
  have B0 := Lib.hid (ar10At_of x0 x1 x2 x3 x4 x5 x6 x7 x8 x9 (heap_alloc2_old w (.cells #[.int .i64 x0, .int .i64 x1, .int .i64 x2, .int .i64 x3, .int .i64 x4, .int .i64 x5, .int .i64 x6, .int .i64 x7, .int .i64 x8, .int .i64 x9] 32) (.cells #[.int .i64 x0, .int .i64 x1, .int .i64 x2, .int .i64 x3, .int .i64 x4, .int .i64 x5, .int .i64 x6, .int .i64 x7, .int .i64 x8, .int .i64 x9] 32)))
  have B1 := Lib.hid (ar10At_of x0 x1 x2 x3 x4 x5 x6 x7 x8 x9 (heap_alloc2_new w (.cells #[.int .i64 x0, .int .i64 x1, .int .i64 x2, .int .i64 x3, .int .i64 x4, .int .i64 x5, .int .i64 x6, .int .i64 x7, .int .i64 x8, .int .i64 x9] 32) (.cells #[.int .i64 x0, .int .i64 x1, .int .i64 x2, .int .i64 x3, .int .i64 x4, .int .i64 x5, .int .i64 x6, .int .i64 x7, .int .i64 x8, .int .i64 x9] 32)))
  have Z := Lib.hid (show w.heap.size + 2 ≤ ((w.alloc (.cells #[.int .i64 x0, .int .i64 x1, .int .i64 x2, .int .i64 x3, .int .i64 x4, .int .i64 x5, .int .i64 x6, .int .i64 x7, .int .i64 x8, .int .i64 x9] 32)).alloc (.cells #[.int .i64 x0, .int .i64 x1, .int .i64 x2, .int .i64 x3, .int .i64 x4, .int .i64 x5, .int .i64 x6, .int .i64 x7, .int .i64 x8, .int .i64 x9] 32)).heap.size by simp)
  go_enter Try.func15, Try.ntmps15
  go_wp2
  generalize (w.alloc _).alloc _ = W at G0 B0 B1 Z ⊢
  generalize (fun h => if h = 0 then x0 else if h = 1 then x1 else if h = 2 then x2 else if h = 3 then x3 else if h = 4 then x4 else if h = 5 then x5 else if h = 6 then x6 else if h = 7 then x7 else if h = 8 then x8 else if h = 9 then x9 else 0) = f at B0 B1
  go_loopw [5] (fun i wr => ∃ k : Nat, k ≤ 10 ∧ i = .int .i64 k ∧ Below (w.heap.size + 2) W wr) (fun i _ => 10 - (intOf i).toNat)
  case atStart => exact ⟨0, Nat.zero_le _, rfl, Below.refl _ _⟩
  case round =>
    obtain ⟨k, hk, rfl, hb⟩ := hrel
    by_cases hlt : k < 10
    · have p0 := (B0.out.below hb (by omega)).cell k hlt
      have q0 := (B1.out.below hb (by omega)).cell k hlt
      go_wp2
      go_quiet (fail)
      clear p0 q0
      go_wp2
      go_roundw
      case rel => exact ⟨k + 1, by omega, by go_num, below_drewN hb _⟩
      case measure => simp [intOf]; omega
    · obtain rfl : k = 10 := by omega
      go_wp2
      go_ret
      exact ⟨rfl, G0.out.trans (hb.mono (by omega))⟩

end Go.Proofs.Ytahpcnfoiiggeab
