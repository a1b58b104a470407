/- The law's marks in copies of cases and lists, from any number on: contracts. Condition: at most 1048576 elements. -/
import Derived.Test.YtpamflkefgpdpaaCaseOk
namespace Go.Proofs.Ytpamflkefgpdpaa
set_option linter.unusedSimpArgs false
set_option linter.unusedVariables false
set_option maxRecDepth 100000
open Go.RowKit

theorem grownAlloc {w w' : World} {o : Obj} {row : Option Nat} (h : (w.alloc o).grownBy w' row) : w.grownBy w' row :=
  ⟨h.os, h.tape, h.output, Nat.le_trans (by simp) h.size, fun k hk hne => (h.block k (by simp; omega) hne).trans (Below.heap_alloc w o k hk)⟩
theorem CaseIn.keptO {w w' : World} {g : Nat} {row : Option Nat} {c : Cs} {hv : Value} (h : CaseIn w g c hv) (k : w.grownBy w' row) (hne : some g ≠ row) (hg : g < w.heap.size) : CaseIn w' g c hv := by
  have hb := k.block g hg hne
  exact ⟨(World.cell?_of_block (a := ⟨g, 0, none⟩) hb).trans h.1, (World.cell?_of_block (a := ⟨g, 1, none⟩) hb).trans h.2.1, (World.cell?_of_block (a := ⟨g, 2, none⟩) hb).trans h.2.2⟩
theorem CaseIn.kept {w w' : World} {g g' : Nat} {c : Cs} {hv : Value} (h : CaseIn w g c hv) (k : w.grownBy w' (some g')) (hne : g ≠ g') (hg : g < w.heap.size) : CaseIn w' g c hv := h.keptO k (by simpa using hne) hg
theorem keptBlock {w w' : World} {g g' : Nat} {o : Obj} (h : w.heap[g]? = some o) (k : w.grownBy w' (some g')) (hne : g ≠ g') : w'.heap[g]? = some o :=
  (k.block g (Array.getElem?_eq_some_iff.1 h).1 (by simpa using hne)).trans h

set_option maxHeartbeats 1000000 in
theorem markCase_any (wi lo : Int) (g n : Nat) (k0 : Int) (w : World) (h : Row16 w g n) (hn : n ≤ 1048576) (hk0 : 0 ≤ k0) (hk1 : k0 ≤ 1000000000) :
    Calls Try.prog 27 #[.agg #[.int .i16 wi, .int .i32 lo, .slice (some ⟨g, 0, none⟩) n n], .int .i64 k0] w fun e w' => e = .returned (.int .i64 (k0 + n)) ∧ w.grownBy w' (some g) := by
  have HR := Lib.hid h
  have LT := Lib.hid (show g < w.heap.size by obtain ⟨cs, h1, _⟩ := h; exact (Array.getElem?_eq_some_iff.1 h1).1)
  have HA := Lib.hid (h.below ((Below.refl w.heap.size w).alloc (Nat.le_refl _) (.cells #[.int .i16 wi, .int .i32 lo, .slice (some ⟨g, 0, none⟩) n n] 50)) LT.out)
  clear h
  go_enter Try.func27, Try.ntmps27
  go_wp2_with fail
  refine (markI16_any g n k0 _ HA.out hn hk0 hk1).mono ?_
  rintro e w1 ⟨rfl, k1⟩
  go_wp2
  go_ret
  exact ⟨rfl, grownAlloc k1⟩

/-- Block g is a row of n books, whatever they are. -/
def RowB (w : World) (g n : Nat) : Prop := ∃ cs : Array Value, w.heap[g]? = some (.cells cs 65 (0, 0)) ∧ cs.size = n * 8
theorem RowB.set {w : World} {g n : Nat} (h : RowB w g n) (o : Nat) (u : Value) : RowB (w.setCell ⟨g, o, none⟩ u) g n := by
  obtain ⟨cs, h1, h2⟩ := h
  exact ⟨_, heap_setCell_same _ _ _ _ _ _ h1, by simpa using h2⟩
theorem RowB.of {w : World} {g k n : Nat} {xs : List Bk} (h : RowK w g xs k n) : RowB w g n := by
  obtain ⟨cs, h1, h2, _⟩ := h
  exact ⟨cs, h1, h2⟩
theorem RowB.below {w w' : World} {B g n : Nat} (h : RowB w g n) (hb : Below B w w') (hg : g < B) : RowB w' g n := by
  obtain ⟨cs, h, h2⟩ := h
  exact ⟨cs, (hb.block g hg).trans h, h2⟩
theorem RowB.cell {w : World} {g n : Nat} (h : RowB w g n) (o : Nat) (ho : o < n * 8) : ∃ u, w.cell? ⟨g, o, none⟩ = some u := by
  obtain ⟨cs, h, h2⟩ := h
  rw [cell_of_row w g _ cs _ _ h]
  exact ⟨cs[o]'(by omega), Array.getElem?_eq_getElem (by omega)⟩
theorem RowB.frozen {w : World} {g n : Nat} (h : RowB w g n) (o : Nat) : w.frozen? ⟨g, o, none⟩ = false := by
  obtain ⟨cs, h, _⟩ := h
  exact frozen_of_row w g _ cs _ h
theorem RowB.kept {w w' : World} {g g' n : Nat} (h : RowB w g n) (k : w.grownBy w' (some g')) (hne : g ≠ g') : RowB w' g n := by
  obtain ⟨cs, h, h2⟩ := h
  exact ⟨cs, keptBlock h k hne, h2⟩
theorem RowB.lt {w : World} {g n : Nat} (h : RowB w g n) : g < w.heap.size := by obtain ⟨cs, h1, _⟩ := h; exact (Array.getElem?_eq_some_iff.1 h1).1
theorem Row16.lt {w : World} {g n : Nat} (h : Row16 w g n) : g < w.heap.size := by obtain ⟨cs, h1, _⟩ := h; exact (Array.getElem?_eq_some_iff.1 h1).1

set_option maxHeartbeats 8000000 in
theorem markBooks_any (g n : Nat) (k0 : Int) (w : World) (h : RowB w g n) (hn : n ≤ 1048576) (hk0 : 0 ≤ k0) (hk1 : k0 ≤ 1000000000) :
    Calls Try.prog 20 #[.slice (some ⟨g, 0, none⟩) n n, .int .i64 k0] w fun e w' => e = .returned (.int .i64 (k0 + 8 * n)) ∧ w.grownBy w' (some g) := by
  have HR := Lib.hid h
  clear h
  go_enter Try.func20, Try.ntmps20
  go_wp2
  go_loopw [1, 5, 6] (fun x i _ wr => ∃ (j : Nat) (y : Int), y = k0 + 8 * (j : Int) ∧ j ≤ n ∧ i = .int .i64 j ∧ x = .int .i64 y ∧ RowB wr g n ∧ w.grownBy wr (some g)) (fun _ i _ _ => n - (intOf i).toNat)
  case atStart => exact ⟨0, k0, by simp, Nat.zero_le _, rfl, rfl, HR.out, World.grownBy.refl w _⟩
  case round =>
    obtain ⟨j, y, hy, hj, rfl, rfl, hrow, hgr⟩ := hrel
    have HG := Lib.hid hgr
    have HW := Lib.hid hrow
    clear hgr
    by_cases hlt : j < n
    · obtain ⟨u0, c0⟩ := hrow.cell (j * 8) (by omega)
      obtain ⟨u1, c1⟩ := hrow.cell (j * 8 + 1) (by omega)
      obtain ⟨u2, c2⟩ := hrow.cell (j * 8 + 2) (by omega)
      obtain ⟨u3, c3⟩ := hrow.cell (j * 8 + 3) (by omega)
      obtain ⟨u4, c4⟩ := hrow.cell (j * 8 + 4) (by omega)
      obtain ⟨u5, c5⟩ := hrow.cell (j * 8 + 5) (by omega)
      obtain ⟨u6, c6⟩ := hrow.cell (j * 8 + 6) (by omega)
      obtain ⟨u7, c7⟩ := hrow.cell (j * 8 + 7) (by omega)
      have fz := hrow.frozen
      have hy0 : 0 ≤ y := by omega
      have hy1 : y ≤ 2000000000 := by omega
      have HY := Lib.hid hy
      clear hrow hy
      go_wp2
      refine wp_loop_rounds 4 ?_
      rw [rounds_succ]; go_wp2
      rw [rounds_succ]; go_wp2
      rw [rounds_succ]; go_wp2
      rw [rounds_succ]; go_wp2
      go_roundw
      case rel => exact ⟨j + 1, y + 1 + 1 + 1 + 1 + 1 + 1 + 1 + 1, by have := HY.out; omega, by omega, by go_num, rfl, (((((((HW.out.set _ _).set _ _).set _ _).set _ _).set _ _).set _ _).set _ _).set _ _, only_set2 (only_set2 (only_set2 (only_set2 (only_set2 (only_set2 (only_set2 (only_set2 HG.out _ _) _ _) _ _) _ _) _ _) _ _) _ _) _ _⟩
      case measure => simp [intOf]; omega
    · obtain rfl : j = n := by omega
      have HY := Lib.hid hy
      clear hy hrow
      go_wp2
      go_ret
      exact ⟨by rw [← HY.out]; rfl, HG.out⟩

/-- The law's copy of numbers is a row of the call's own. -/
theorem IRow.owns {w : World} {g base : Nat} {zs : List Int} {t : TypeId} (h : IRow .i64 t w g zs) (hb : base ≤ g) (hn : zs.length ≤ maxLen) : w.ownsRow base t 1 (.slice (some ⟨g, 0, none⟩) zs.length zs.length) zs.length (zs.map (Value.int .i64)) := by
  obtain ⟨cs, h1, h2, h3⟩ := h
  refine ⟨by simp, .inr ⟨g, zs.length, cs, rfl, hb, h1, Nat.le_refl _, hn, by omega, ?_⟩⟩
  refine List.ext_getElem (by simp; omega) fun i hi1 hi2 => ?_
  have hi : i < zs.length := by simpa using hi2
  have := h3 i hi hi
  rw [List.getElem_take, List.getElem_map, Array.getElem_toList]
  rw [Array.getElem?_eq_getElem (by omega)] at this
  simpa using this

end Go.Proofs.Ytpamflkefgpdpaa
