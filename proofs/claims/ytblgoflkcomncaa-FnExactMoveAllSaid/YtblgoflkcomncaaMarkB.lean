/- The law's marks in a list of books that a function handed back: contracts. Condition: at most 1048576 books. -/
import Derived.Test.YtblgoflkcomncaaMark
namespace Go.Proofs.Ytblgoflkcomncaa
set_option linter.unusedSimpArgs false
set_option linter.unusedVariables false
set_option maxRecDepth 100000
open Go.RowKit

/-- A book that is marked from the number y on. -/
def mkV (y : Int) : Bk := ⟨IntKind.i16.wrap y, IntKind.u8.wrap (y + 1), IntKind.u8.wrap (y + 1 + 1), IntKind.u8.wrap (y + 1 + 1 + 1), IntKind.i16.wrap (y + 1 + 1 + 1 + 1), IntKind.i16.wrap (y + 1 + 1 + 1 + 1 + 1), IntKind.i16.wrap (y + 1 + 1 + 1 + 1 + 1 + 1), IntKind.i16.wrap (y + 1 + 1 + 1 + 1 + 1 + 1 + 1)⟩
def mkB (j : Nat) : Bk := mkV (1 + 8 * (j : Int))
def mkL (n : Nat) : List Bk := (List.range n).map mkB
theorem mkL_length (n : Nat) : (mkL n).length = n := by simp [mkL]
theorem mkL_get {n i : Nat} (h : i < (mkL n).length) : (mkL n)[i] = mkB i := by simp [mkL]

/-- Block g is a row of n books, the first j of which are marked. -/
def RowM (w : World) (g n j : Nat) : Prop := ∃ cs : Array Value, w.heap[g]? = some (.cells cs 114 (0, 0)) ∧ cs.size = n * 8 ∧ ∀ i, i < j → ∀ r, r < 8 → cs[i * 8 + r]? = (mkB i).cells[r]?
theorem RowM.of {w : World} {g n : Nat} (h : RowG w g n) : RowM w g n 0 := by
  obtain ⟨cs, h1, h2⟩ := h
  exact ⟨cs, h1, h2, fun i hi => absurd hi (Nat.not_lt_zero _)⟩
theorem RowM.g {w : World} {g n j : Nat} (h : RowM w g n j) : RowG w g n := by
  obtain ⟨cs, h1, h2, _⟩ := h
  exact ⟨cs, h1, h2⟩
set_option maxHeartbeats 1000000 in
theorem RowM.step {w : World} {g n j : Nat} (h : RowM w g n j) (hj : j < n) (v0 v1 v2 v3 v4 v5 v6 v7 : Value) (e : (mkB j).cells = [v0, v1, v2, v3, v4, v5, v6, v7]) :
    RowM ((((((((w.setCell ⟨g, j * 8, none⟩ v0).setCell ⟨g, j * 8 + 1, none⟩ v1).setCell ⟨g, j * 8 + 2, none⟩ v2).setCell ⟨g, j * 8 + 3, none⟩ v3).setCell ⟨g, j * 8 + 4, none⟩ v4).setCell ⟨g, j * 8 + 5, none⟩ v5).setCell ⟨g, j * 8 + 6, none⟩ v6).setCell ⟨g, j * 8 + 7, none⟩ v7) g n (j + 1) := by
  obtain ⟨cs, h1, h2, h3⟩ := h
  have s0 := heap_setCell_same _ g (j * 8) _ _ v0 h1
  have s1 := heap_setCell_same _ g (j * 8 + 1) _ _ v1 s0
  have s2 := heap_setCell_same _ g (j * 8 + 2) _ _ v2 s1
  have s3 := heap_setCell_same _ g (j * 8 + 3) _ _ v3 s2
  have s4 := heap_setCell_same _ g (j * 8 + 4) _ _ v4 s3
  have s5 := heap_setCell_same _ g (j * 8 + 5) _ _ v5 s4
  have s6 := heap_setCell_same _ g (j * 8 + 6) _ _ v6 s5
  have s7 := heap_setCell_same _ g (j * 8 + 7) _ _ v7 s6
  refine ⟨_, s7, by simpa using h2, fun i hi r hr => ?_⟩
  clear s0 s1 s2 s3 s4 s5 s6 s7
  simp only [Array.getElem?_setIfInBounds, Array.size_setIfInBounds, h2]
  by_cases hij : i = j
  · subst hij
    rw [e]
    have : r = 0 ∨ r = 1 ∨ r = 2 ∨ r = 3 ∨ r = 4 ∨ r = 5 ∨ r = 6 ∨ r = 7 := by omega
    rcases this with rfl | rfl | rfl | rfl | rfl | rfl | rfl | rfl
    all_goals (repeat first | rw [if_neg (by omega)] | rw [if_pos (by omega), if_pos (by omega)] | rw [if_pos (by omega)])
    all_goals rfl
  · have hlt : i < j := by omega
    rw [if_neg (by omega), if_neg (by omega), if_neg (by omega), if_neg (by omega), if_neg (by omega), if_neg (by omega), if_neg (by omega), if_neg (by omega)]
    exact h3 i hlt r hr
theorem RowM.slice {w : World} {g n N : Nat} (h : RowM w g N n) (c : Nat) : SliceOf w (.slice (some ⟨g, 0, none⟩) n c) (mkL n) := by
  obtain ⟨cs, h1, h2, h3⟩ := h
  refine ⟨_, c, by rw [mkL_length], fun _ => ⟨g, 0, rfl, (Array.getElem?_eq_some_iff.1 h1).1, fun i hi j v hv => ?_⟩⟩
  rw [mkL_get] at hv
  have hj : j < 8 := by have := (List.getElem?_eq_some_iff.1 hv).1; simpa [Bk.cells] using this
  have hi' : i < n := by rw [mkL_length] at hi; exact hi
  rw [cell_of_row w g _ cs _ _ h1, Nat.zero_add, h3 i hi' j hj]
  exact hv

set_option maxHeartbeats 8000000 in
theorem markBookS_val (g n N c : Nat) (w : World) (h : RowG w g N) (hN : n ≤ N) (hn : n ≤ 1048576) :
    Calls Try.prog 32 #[.slice (some ⟨g, 0, none⟩) n c, .int .i64 1] w fun e w' => e = .returned (.int .i64 (1 + 8 * n)) ∧ RowM w' g N n ∧ w.grownBy w' (some g) := by
  have HR := Lib.hid (RowM.of h)
  clear h
  go_enter Try.func32, Try.ntmps32
  go_wp2
  go_loopw [1, 5, 6] (fun x i _ wr => ∃ (j : Nat) (y : Int), y = 1 + 8 * (j : Int) ∧ j ≤ n ∧ i = .int .i64 j ∧ x = .int .i64 y ∧ RowM wr g N j ∧ w.grownBy wr (some g)) (fun _ i _ _ => n - (intOf i).toNat)
  case atStart => exact ⟨0, 1, rfl, Nat.zero_le _, rfl, rfl, HR.out, World.grownBy.refl w _⟩
  case round =>
    obtain ⟨j, y, hy, hj, rfl, rfl, hm, hgr⟩ := hrel
    have HG := Lib.hid hgr
    have HW := Lib.hid hm
    have hrow := hm.g
    clear hgr hm
    by_cases hlt : j < n
    · obtain ⟨u0, c0⟩ := hrow.cell (j * 8) (by omega)
      obtain ⟨u1, c1⟩ := hrow.cell (j * 8 + 1) (by omega)
      obtain ⟨u2, c2⟩ := hrow.cell (j * 8 + 2) (by omega)
      obtain ⟨u3, c3⟩ := hrow.cell (j * 8 + 3) (by omega)
      obtain ⟨u4, c4⟩ := hrow.cell (j * 8 + 4) (by omega)
      obtain ⟨u5, c5⟩ := hrow.cell (j * 8 + 5) (by omega)
      obtain ⟨u6, c6⟩ := hrow.cell (j * 8 + 6) (by omega)
      obtain ⟨u7, c7⟩ := hrow.cell (j * 8 + 7) (by omega)
      have fz := hrow.frozen
      have hy0 : 1 ≤ y := by omega
      have hy1 : y ≤ 9000000 := by omega
      have HY := Lib.hid hy
      clear hrow hy
      go_wp2
      refine wp_loop_rounds 4 ?_
      rw [rounds_succ]; go_wp2
      rw [rounds_succ]; go_wp2
      rw [rounds_succ]; go_wp2
      rw [rounds_succ]; go_wp2
      go_roundw
      case rel => exact ⟨j + 1, y + 1 + 1 + 1 + 1 + 1 + 1 + 1 + 1, by have := HY.out; omega, by omega, by go_num, rfl, HW.out.step (Nat.lt_of_lt_of_le hlt hN) _ _ _ _ _ _ _ _ (by rw [mkB, ← HY.out]; rfl), only_set (only_set (only_set (only_set (only_set (only_set (only_set (only_set HG.out _ _) _ _) _ _) _ _) _ _) _ _) _ _) _ _⟩
      case measure => simp [intOf]; omega
    · obtain rfl : j = n := by omega
      have HY := Lib.hid hy
      clear hy hrow
      go_wp2
      go_ret
      exact ⟨by rw [← HY.out]; rfl, HW.out, HG.out⟩

set_option maxHeartbeats 8000000 in
theorem heldBookS_any (v : Value) (n : Nat) (w : World) (hn : n ≤ 1048576) (hs : SliceOf w v (mkL n)) :
    Calls Try.prog 33 #[v, .int .i64 1] w fun e w' => e = .returned (.int .i64 (1 + 8 * n)) ∧ w = w' := by
  obtain ⟨A, c, rfl, hs⟩ := hs
  have el := mkL_length n
  rw [el] at hs ⊢
  have HS := Lib.hid hs
  clear hs el
  go_enter Try.func33, Try.ntmps33
  go_wp2
  go_loopw [1, 5, 6] (fun x i _ wr => ∃ (j : Nat) (y : Int), y = 1 + 8 * (j : Int) ∧ j ≤ n ∧ i = .int .i64 j ∧ x = .int .i64 y ∧ wr = w) (fun _ i _ _ => n - (intOf i).toNat)
  case atStart => exact ⟨0, 1, rfl, Nat.zero_le _, rfl, rfl, rfl⟩
  case round =>
    obtain ⟨j, y, hy, hj, rfl, rfl, rfl⟩ := hrel
    by_cases hlt : j < n
    · obtain ⟨ga, oa, rfl, hga, hat⟩ := HS.out (by omega)
      have hjl : j < (mkL n).length := by rw [mkL_length]; exact hlt
      obtain ⟨p0, p1, p2, p3, p4, p5, p6, p7⟩ := booksAt_some hat hjl
      rw [mkL_get hjl, mkB, ← hy] at p0 p1 p2 p3 p4 p5 p6 p7
      simp only [mkV] at p0 p1 p2 p3 p4 p5 p6 p7
      have hy0 : 1 ≤ y := by omega
      have hy1 : y ≤ 9000000 := by omega
      have HY := Lib.hid hy
      clear hy hat hjl
      go_wp2
      refine wp_loop_rounds 4 ?_
      rw [rounds_succ]; go_wp2
      rw [rounds_succ]; go_wp2
      rw [rounds_succ]; go_wp2
      rw [rounds_succ]; go_wp2
      go_roundw
      case rel => exact ⟨j + 1, y + 1 + 1 + 1 + 1 + 1 + 1 + 1 + 1, by have := HY.out; omega, by omega, by go_num, rfl, by first | rfl | trivial⟩
      case measure => simp [intOf]; omega
    · obtain rfl : j = n := by omega
      have HY := Lib.hid hy
      clear hy
      go_wp2
      go_ret
      exact ⟨by rw [← HY.out]; rfl, rfl⟩

end Go.Proofs.Ytblgoflkcomncaa
