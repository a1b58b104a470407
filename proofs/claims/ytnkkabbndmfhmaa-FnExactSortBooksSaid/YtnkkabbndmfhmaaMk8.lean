/- Marks in the copy of a list of int8s that the law made. Condition: at most 1048576 of them. -/
import Derived.Test.YtnkkabbndmfhmaaOrd2
import Derived.Test.YtnkkabbndmfhmaaNums
import Derived.IntWalk
namespace Go.Proofs.Ytnkkabbndmfhmaa
set_option linter.unusedSimpArgs false
set_option linter.unusedVariables false
set_option maxRecDepth 100000
open Go.RowKit

/-- Block g is a row of n cells of the call's. -/
def RowC8 (w : World) (g n : Nat) : Prop := ∃ cs : Array Value, w.heap[g]? = some (.cells cs 73 (0, 0)) ∧ cs.size = n
theorem RowC8.of {w : World} {g : Nat} {zs : List Int} (h : IRow .i8 73 w g zs) : RowC8 w g zs.length := by
  obtain ⟨cs, h1, h2, _⟩ := h
  exact ⟨cs, h1, h2⟩
theorem RowC8.cell {w : World} {g n : Nat} (h : RowC8 w g n) (o : Nat) (ho : o < n) : ∃ u, w.cell? ⟨g, o, none⟩ = some u := by
  obtain ⟨cs, h1, h2⟩ := h
  rw [cell_of_row w g _ cs _ _ h1]
  exact ⟨cs[o]'(by omega), Array.getElem?_eq_getElem (by omega)⟩
theorem RowC8.frozen {w : World} {g n : Nat} (h : RowC8 w g n) (o : Nat) : w.frozen? ⟨g, o, none⟩ = false := by
  obtain ⟨cs, h1, _⟩ := h
  exact frozen_of_row w g _ cs _ h1
theorem RowC8.set {w : World} {g n : Nat} (h : RowC8 w g n) (o : Nat) (u : Value) : RowC8 (w.setCell ⟨g, o, none⟩ u) g n := by
  obtain ⟨cs, h1, h2⟩ := h
  exact ⟨_, heap_setCell_same _ _ _ _ _ _ h1, by simpa using h2⟩
def w8c (n : Int) : Int := IntKind.i8.wrap n
theorem w8c_run (n : Int) : IntKind.i8.wrap n = w8c n := rfl
theorem grow8 {a w : World} {g : Nat} (h : a.grownBy w (some g)) (o : Nat) (u : Value) : a.grownBy (w.setCell ⟨g, o, none⟩ u) (some g) :=
  ⟨h.os, h.tape, h.output, by simpa [World.setCell] using h.size, fun i hi hne => (Below.heap_setCell w ⟨g, o, none⟩ u i (by rintro rfl; exact hne rfl)).trans (h.block i hi hne)⟩
set_option maxHeartbeats 2000000 in
theorem markI8_any (g n : Nat) (k0 : Int) (w : World) (h : RowC8 w g n) (hn : n ≤ 1048576) (hk0 : 0 ≤ k0) (hk1 : k0 ≤ 90000000) :
    Calls Try.prog 16 #[.slice (some ⟨g, 0, none⟩) n n, .int .i64 k0] w fun e w' => e = .returned (.int .i64 (k0 + n)) ∧ True ∧ w.grownBy w' (some g) := by
  have HR := Lib.hid h
  clear h
  go_enter Try.func16, Try.ntmps16
  go_wp2
  go_loopw [1, 5] (fun x i wr => ∃ j : Nat, j ≤ n ∧ i = .int .i64 j ∧ x = .int .i64 (k0 + (j : Int)) ∧ RowC8 wr g n ∧ w.grownBy wr (some g)) (fun _ i _ => n - (intOf i).toNat)
  case atStart => exact ⟨0, Nat.zero_le _, rfl, by simp, HR.out, World.grownBy.refl w _⟩
  case round =>
    obtain ⟨j, hj, rfl, rfl, how, hgr⟩ := hrel
    have HW := Lib.hid how
    have HG := Lib.hid hgr
    clear how hgr
    by_cases hlt : j < n
    · obtain ⟨u, hu⟩ := HW.out.cell j hlt
      have fz := HW.out.frozen
      have WR := fun y => w8c_run y
      go_wp2
      go_roundw
      case rel => exact ⟨j + 1, by omega, by go_num, by first | go_num | (congr 1; push_cast; omega), HW.out.set _ _, grow8 HG.out _ _⟩
      case measure => simp [intOf]; omega
    · obtain rfl : j = n := by omega
      clear HR
      go_wp2
      go_ret
      exact ⟨rfl, trivial, HG.out⟩
end Go.Proofs.Ytnkkabbndmfhmaa
