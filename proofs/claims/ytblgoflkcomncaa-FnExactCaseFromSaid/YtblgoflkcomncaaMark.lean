/- The law's marks: it writes into copies and results, and reads what it wrote: contracts. Condition: at most 1048576 elements. -/
import Derived.Test.YtblgoflkcomncaaFirst
import Derived.Test.YtblgoflkcomncaaQuiet
namespace Go.Proofs.Ytblgoflkcomncaa
set_option linter.unusedSimpArgs false
set_option linter.unusedVariables false
set_option maxRecDepth 100000
open Go.RowKit

/-- Block g is a row of n books, whatever they are. -/
def RowG (w : World) (g n : Nat) : Prop := ∃ cs : Array Value, w.heap[g]? = some (.cells cs 114 (0, 0)) ∧ cs.size = n * 8

theorem RowG.set {w : World} {g n : Nat} (h : RowG w g n) (o : Nat) (u : Value) : RowG (w.setCell ⟨g, o, none⟩ u) g n := by
  obtain ⟨cs, h1, h2⟩ := h
  exact ⟨_, heap_setCell_same _ _ _ _ _ _ h1, by simpa using h2⟩
theorem RowG.of {w : World} {g k n : Nat} {xs : List Bk} (h : RowK w g xs k n) : RowG w g n := by
  obtain ⟨cs, h1, h2, _⟩ := h
  exact ⟨cs, h1, h2⟩
theorem RowG.below {w w' : World} {B g n : Nat} (h : RowG w g n) (hb : Below B w w') (hg : g < B) : RowG w' g n := by
  obtain ⟨cs, h, h2⟩ := h
  exact ⟨cs, (hb.block g hg).trans h, h2⟩
theorem RowG.cell {w : World} {g n : Nat} (h : RowG w g n) (o : Nat) (ho : o < n * 8) : ∃ u, w.cell? ⟨g, o, none⟩ = some u := by
  obtain ⟨cs, h, h2⟩ := h
  rw [cell_of_row w g _ cs _ _ h]
  exact ⟨cs[o]'(by omega), Array.getElem?_eq_getElem (by omega)⟩
theorem RowG.frozen {w : World} {g n : Nat} (h : RowG w g n) (o : Nat) : w.frozen? ⟨g, o, none⟩ = false := by
  obtain ⟨cs, h, _⟩ := h
  exact frozen_of_row w g _ cs _ h
theorem only_set {a w : World} {g : Nat} (h : a.grownBy w (some g)) (o : Nat) (u : Value) : a.grownBy (w.setCell ⟨g, o, none⟩ u) (some g) :=
  ⟨h.os, h.tape, h.output, by simpa [World.setCell] using h.size, fun i hi hne => (Below.heap_setCell w ⟨g, o, none⟩ u i (by rintro rfl; exact hne rfl)).trans (h.block i hi hne)⟩

set_option maxHeartbeats 8000000 in
theorem markBookS_any (g n : Nat) (w : World) (h : RowG w g n) (hn : n ≤ 1048576) :
    Calls Try.prog 32 #[.slice (some ⟨g, 0, none⟩) n n, .int .i64 1] w fun e w' => e = .returned (.int .i64 (1 + 8 * n)) ∧ w.grownBy w' (some g) := by
  have HR := Lib.hid h
  clear h
  go_enter Try.func32, Try.ntmps32
  go_wp2
  go_loopw [1, 5, 6] (fun x i _ wr => ∃ (j : Nat) (y : Int), y = 1 + 8 * (j : Int) ∧ j ≤ n ∧ i = .int .i64 j ∧ x = .int .i64 y ∧ RowG wr g n ∧ w.grownBy wr (some g)) (fun _ i _ _ => n - (intOf i).toNat)
  case atStart => exact ⟨0, 1, rfl, Nat.zero_le _, rfl, rfl, HR.out, World.grownBy.refl w _⟩
  case round =>
    obtain ⟨j, y, hy, hj, rfl, rfl, hrow, hgr⟩ := hrel
    have HG := Lib.hid hgr
    have HW := Lib.hid hrow
    clear hgr
    by_cases hlt : j < n
    · obtain ⟨u0, c0⟩ := hrow.cell (j * 8) (by omega)
      obtain ⟨u1, c1⟩ := hrow.cell (j * 8 + 1) (by omega)
      obtain ⟨u2, c2⟩ := hrow.cell (j * 8 + 2) (by omega)
      obtain ⟨u3, c3⟩ := hrow.cell (j * 8 + 3) (by omega)
      obtain ⟨u4, c4⟩ := hrow.cell (j * 8 + 4) (by omega)
      obtain ⟨u5, c5⟩ := hrow.cell (j * 8 + 5) (by omega)
      obtain ⟨u6, c6⟩ := hrow.cell (j * 8 + 6) (by omega)
      obtain ⟨u7, c7⟩ := hrow.cell (j * 8 + 7) (by omega)
      have fz := hrow.frozen
      have hy0 : 1 ≤ y := by omega
      have hy1 : y ≤ 9000000 := by omega
      have HY := Lib.hid hy
      clear hrow hy
      go_wp2
      refine wp_loop_rounds 4 ?_
      rw [rounds_succ]; go_wp2
      rw [rounds_succ]; go_wp2
      rw [rounds_succ]; go_wp2
      rw [rounds_succ]; go_wp2
      go_roundw
      case rel => exact ⟨j + 1, y + 1 + 1 + 1 + 1 + 1 + 1 + 1 + 1, by have := HY.out; omega, by omega, by go_num, rfl, (((((((HW.out.set _ _).set _ _).set _ _).set _ _).set _ _).set _ _).set _ _).set _ _, only_set (only_set (only_set (only_set (only_set (only_set (only_set (only_set HG.out _ _) _ _) _ _) _ _) _ _) _ _) _ _) _ _⟩
      case measure => simp [intOf]; omega
    · obtain rfl : j = n := by omega
      have HY := Lib.hid hy
      clear hy hrow
      go_wp2
      go_ret
      exact ⟨by rw [← HY.out]; rfl, HG.out⟩

set_option maxHeartbeats 2000000 in
theorem eqInt64S_same (v1 v2 : Value) (zs : List Int) (w : World) (hs1 : IntsOf .i64 w v1 zs) (hs2 : IntsOf .i64 w v2 zs) (hn : zs.length ≤ maxLen) :
    Calls Try.prog 20 #[v1, v2] w fun e w' => e = .returned (.bool true) ∧ Below w.heap.size w w' := by
  obtain ⟨A1, k1, rfl, hs1⟩ := hs1
  obtain ⟨A2, k2, rfl, hs2⟩ := hs2
  unfold maxLen at hn
  have H1 := Lib.hid hs1
  have H2 := Lib.hid hs2
  clear hs1 hs2
  go_enter Try.func20, Try.ntmps20
  go_wp2
  go_loopw [5] (fun i wr => ∃ k : Nat, k ≤ zs.length ∧ i = .int .i64 k ∧ Below w.heap.size w wr) (fun i _ => zs.length - (intOf i).toNat)
  case atStart => exact ⟨0, Nat.zero_le _, rfl, Below.refl _ _⟩
  case round =>
    obtain ⟨k, hk, rfl, hb⟩ := hrel
    by_cases hlt : k < zs.length
    · obtain ⟨g1, o1, rfl, hg1, ha1⟩ := H1.out (by omega)
      obtain ⟨g2, o2, rfl, hg2, ha2⟩ := H2.out (by omega)
      have p0 := ha1.below hb hg1 k hlt
      have q0 := ha2.below hb hg2 k hlt
      clear ha1 ha2
      go_wp2
      go_quiet (fail)
      clear p0 q0
      go_wp2
      go_roundw
      case rel => exact ⟨k + 1, by omega, by go_num, below_drewN hb _⟩
      case measure => simp [intOf]; omega
    · obtain rfl : k = zs.length := by omega
      go_wp2
      go_ret
      exact ⟨rfl, hb⟩

/-- What the marks leave in a row of n numbers, the first j of which are marked. -/
def marksTo (l : List Int) (j : Nat) : List Int := (List.range l.length).map fun i => if i < j then 1 + (i : Int) else l.getD i 0

theorem marksTo_zero (l : List Int) : marksTo l 0 = l := by
  refine List.ext_getElem (by simp [marksTo]) fun i h1 h2 => ?_
  simp [marksTo, List.getD, List.getElem?_eq_getElem h2]
theorem marksTo_length (l : List Int) (j : Nat) : (marksTo l j).length = l.length := by simp [marksTo]
theorem marksTo_succ (l : List Int) (j : Nat) (hj : j < l.length) : ((marksTo l j).map (Value.int .i64)).set j (.int .i64 (1 + j)) = (marksTo l (j + 1)).map (Value.int .i64) := by
  refine List.ext_getElem (by simp [marksTo]) fun i h1 h2 => ?_
  rw [List.getElem_set]
  by_cases e : j = i
  · subst e
    simp [marksTo]
  · rw [if_neg e]
    simp [marksTo]
    by_cases h : i < j
    · rw [if_pos h, if_pos (by omega)]
    · rw [if_neg h, if_neg (by omega)]

def marks (l : List Int) : List Int := marksTo l l.length

set_option maxHeartbeats 2000000 in
theorem markInt64S_any (v : Value) (l : List Int) (base : Nat) (w : World) (hn : l.length ≤ 1048576) (hown : w.ownsRow base 2 1 v l.length (l.map (Value.int .i64))) :
    Calls Try.prog 21 #[v, .int .i64 1] w fun e w' => e = .returned (.int .i64 (1 + l.length)) ∧ w'.ownsRow base 2 1 v (marks l).length ((marks l).map (Value.int .i64)) ∧ w.grownBy w' v.ownBlock := by
  have el : (marks l).length = l.length := marksTo_length l l.length
  by_cases h0 : l = []
  · subst h0
    obtain ⟨A, c, rfl⟩ : ∃ A c, v = .slice A 0 c := by
      rcases hown.2 with ⟨rfl, _⟩ | ⟨g, cap, cur, rfl, _⟩
      · exact ⟨_, _, rfl⟩
      · exact ⟨_, _, rfl⟩
    have HO := Lib.hid hown
    clear hown el hn
    go_enter Try.func21, Try.ntmps21
    go_wp2
    refine wp_loop_rounds 1 ?_
    rw [rounds_succ]; go_wp2
    go_ret
    exact ⟨rfl, HO.out, World.grownBy.refl w _⟩
  · have hpos : 0 < l.length := List.length_pos_iff.2 h0
    obtain ⟨g, cap, rfl⟩ : ∃ g cap, v = .slice (some ⟨g, 0, none⟩) l.length cap := by
      rcases hown.2 with ⟨_, h⟩ | ⟨g, cap, cur, h, _⟩
      · omega
      · exact ⟨g, cap, h⟩
    have HO := Lib.hid hown
    clear hown h0
    rw [el]
    clear el
    go_enter Try.func21, Try.ntmps21
    go_wp2
    go_loopw [1, 5] (fun x i wr => ∃ j : Nat, j ≤ l.length ∧ i = .int .i64 j ∧ x = .int .i64 (1 + (j : Int)) ∧ wr.ownsRow base 2 1 (.slice (some ⟨g, 0, none⟩) l.length cap) l.length ((marksTo l j).map (Value.int .i64)) ∧ w.grownBy wr (some g)) (fun _ i _ => l.length - (intOf i).toNat)
    case atStart => exact ⟨0, Nat.zero_le _, rfl, rfl, by rw [marksTo_zero]; exact HO.out, World.grownBy.refl w _⟩
    case round =>
      obtain ⟨j, hj, rfl, rfl, how, hgr⟩ := hrel
      have HW := Lib.hid how
      have HG := Lib.hid hgr
      clear how hgr
      by_cases hlt : j < l.length
      · have hlj : j < (marksTo l j).length := by rw [marksTo_length]; exact hlt
        obtain ⟨u, hu⟩ : ∃ u, wr.cell? ⟨g, j, none⟩ = some u := ⟨_, (HW.out.cellAt j (by omega)).trans (by rw [List.getElem?_eq_getElem (by simpa using hlj)])⟩
        have fz := HW.out.frozenAt
        clear hlj
        go_wp2
        go_roundw
        case rel => exact ⟨j + 1, by omega, by go_num, by go_num, by rw [← marksTo_succ l j hlt]; exact (HW.out.stored j _).1, only_set HG.out _ _⟩
        case measure => simp [intOf]; omega
      · obtain rfl : j = l.length := by omega
        go_wp2
        go_ret
        exact ⟨rfl, HW.out, HG.out⟩

set_option maxHeartbeats 2000000 in
theorem heldInt64S_any (v : Value) (l : List Int) (w : World) (hn : l.length ≤ 1048576) (hs : IntsOf .i64 w v (marks l)) :
    Calls Try.prog 50 #[v, .int .i64 1] w fun e w' => e = .returned (.int .i64 (1 + l.length)) ∧ Below w.heap.size w w' := by
  obtain ⟨A, c, rfl, hs⟩ := hs
  have el : (marks l).length = l.length := marksTo_length l l.length
  have HS := Lib.hid hs
  have EL := Lib.hid el
  clear hs
  rw [el]
  clear el
  go_enter Try.func50, Try.ntmps50
  go_wp2
  go_loopw [1, 5] (fun x i wr => ∃ j : Nat, j ≤ l.length ∧ i = .int .i64 j ∧ x = .int .i64 (1 + (j : Int)) ∧ Below w.heap.size w wr) (fun _ i _ => l.length - (intOf i).toNat)
  case atStart => exact ⟨0, Nat.zero_le _, rfl, rfl, Below.refl _ _⟩
  case round =>
    obtain ⟨j, hj, rfl, rfl, hb⟩ := hrel
    by_cases hlt : j < l.length
    · obtain ⟨g, o, rfl, hg, hat⟩ := HS.out (by have := EL.out; omega)
      have c0 := hat.below hb hg j (by have := EL.out; omega)
      have e : (marks l)[j]'(by have := EL.out; omega) = 1 + (j : Int) := by simp [marks, marksTo, hlt]
      rw [e] at c0
      clear hat e
      go_wp2
      go_roundw
      case rel => exact ⟨j + 1, by omega, by go_num, by go_num, hb⟩
      case measure => simp [intOf]; omega
    · obtain rfl : j = l.length := by omega
      go_wp2
      go_ret
      exact ⟨rfl, hb⟩

end Go.Proofs.Ytblgoflkcomncaa
