/- Two arrays of 3 numbers, the same, compared. No condition. -/
import Derived.Test.YtahpcnfoiiggeabTot
namespace Go.Proofs.Ytahpcnfoiiggeab
set_option linter.unusedSimpArgs false
set_option linter.unusedVariables false
open Go.RowKit

/-- The cells of block g are the n numbers f. -/
def Ar3At (w : World) (g : Nat) (f : Nat → Int) : Prop :=
  ∃ cs : Array Value, w.heap[g]? = some (.cells cs 24 (0, 0)) ∧ ∀ h : Nat, h < 3 → cs[h]? = some (.int .i64 (f h))
theorem ar3At_of (x0 x1 x2 : Int) {w : World} {g : Nat} (h : w.heap[g]? = some (.cells #[.int .i64 x0, .int .i64 x1, .int .i64 x2] 24 (0, 0))) : Ar3At w g (fun h => if h = 0 then x0 else if h = 1 then x1 else if h = 2 then x2 else 0) := by
  refine ⟨_, h, fun j hj => ?_⟩
  have : j = 0 ∨ j = 1 ∨ j = 2 := by omega
  rcases this with rfl | rfl | rfl <;> rfl
theorem Ar3At.cell {w : World} {g : Nat} {f : Nat → Int} (h : Ar3At w g f) (j : Nat) (hj : j < 3) : w.cell? ⟨g, j, none⟩ = some (.int .i64 (f j)) := by
  obtain ⟨cs, h, h3⟩ := h
  rw [cell_of_row w g _ cs _ _ h]
  exact h3 j hj
theorem Ar3At.below {w w' : World} {n g : Nat} {f : Nat → Int} (h : Ar3At w g f) (hb : Below n w w') (hg : g < n) : Ar3At w' g f := by
  obtain ⟨cs, h, h3⟩ := h
  exact ⟨cs, (hb.block g hg).trans h, h3⟩

set_option maxHeartbeats 1000000 in
theorem eqArr3_same (x0 x1 x2 : Int) (w : World) :
    Calls Try.prog 11 #[.agg #[.int .i64 x0, .int .i64 x1, .int .i64 x2], .agg #[.int .i64 x0, .int .i64 x1, .int .i64 x2]] w fun e w' => e = .returned (.bool true) ∧ Below w.heap.size w w' := by
  have G0 := Lib.hid (show Below w.heap.size w ((w.alloc (.cells #[.int .i64 x0, .int .i64 x1, .int .i64 x2] 24)).alloc (.cells #[.int .i64 x0, .int .i64 x1, .int .i64 x2] 24)) from ((Below.refl _ _).alloc (Nat.le_refl _) _).alloc (by simp) _)
  have B0 := Lib.hid (ar3At_of x0 x1 x2 (heap_alloc2_old w (.cells #[.int .i64 x0, .int .i64 x1, .int .i64 x2] 24) (.cells #[.int .i64 x0, .int .i64 x1, .int .i64 x2] 24)))
  have B1 := Lib.hid (ar3At_of x0 x1 x2 (heap_alloc2_new w (.cells #[.int .i64 x0, .int .i64 x1, .int .i64 x2] 24) (.cells #[.int .i64 x0, .int .i64 x1, .int .i64 x2] 24)))
  have Z := Lib.hid (show w.heap.size + 2 ≤ ((w.alloc (.cells #[.int .i64 x0, .int .i64 x1, .int .i64 x2] 24)).alloc (.cells #[.int .i64 x0, .int .i64 x1, .int .i64 x2] 24)).heap.size by simp)
  go_enter Try.func11, Try.ntmps11
  go_wp2
  generalize (w.alloc _).alloc _ = W at G0 B0 B1 Z ⊢
  generalize (fun h => if h = 0 then x0 else if h = 1 then x1 else if h = 2 then x2 else 0) = f at B0 B1
  go_loopw [5] (fun i wr => ∃ k : Nat, k ≤ 3 ∧ i = .int .i64 k ∧ Below (w.heap.size + 2) W wr) (fun i _ => 3 - (intOf i).toNat)
  case atStart => exact ⟨0, Nat.zero_le _, rfl, Below.refl _ _⟩
  case round =>
    obtain ⟨k, hk, rfl, hb⟩ := hrel
    by_cases hlt : k < 3
    · have p0 := (B0.out.below hb (by omega)).cell k hlt
      have q0 := (B1.out.below hb (by omega)).cell k hlt
      go_wp2
      go_quiet (fail)
      clear p0 q0
      go_wp2
      go_roundw
      case rel => exact ⟨k + 1, by omega, by go_num, below_drewN hb _⟩
      case measure => simp [intOf]; omega
    · obtain rfl : k = 3 := by omega
      go_wp2
      go_ret
      exact ⟨rfl, G0.out.trans (hb.mono (by omega))⟩

end Go.Proofs.Ytahpcnfoiiggeab
