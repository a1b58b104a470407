/- The law's functions over racks: copies, comparisons and marks: contracts. Condition: at most 1048576 books. -/
import Derived.Test.YtgmipobohnagnaaDoorRkA
namespace Go.Proofs.YtgmipobohnagnaaDoor
set_option linter.unusedSimpArgs false
set_option linter.unusedVariables false
set_option maxRecDepth 100000
open Go.RowKit

set_option maxHeartbeats 4000000 in
theorem toPlacedS_any (v : Value) (xs : List Pl) (w : World) (hs : PlsOf w v xs) (hn : xs.length ≤ 1048576) :
    Calls Tryd.prog 14 #[v] w fun e w' => ∃ g, e = .returned (.slice (some ⟨g, 0, none⟩) xs.length xs.length) ∧ w.heap.size ≤ g ∧ RowN Pl.cells 45 w' g xs xs.length xs.length ∧ Below w.heap.size w w' := by
  obtain ⟨A, c, rfl, hs⟩ := hs
  obtain ⟨i0, hi, hz0, hz1, hz2⟩ := info_parts infoPlaced
  have hmk := fun W => run_make_rowN (P := Tryd.prog) 27 45 i0 _ Tryd.underlying27 hi hz0 .i64 .i64 xs.length xs.length (Nat.le_refl _) (by rw [hz2]; omega) (by omega) W
  rw [hz1] at hmk
  have HM := Lib.hid (RowN.made (cel := Pl.cells) 45 w (Value.agg #[.int .i16 0, .int .i16 0, .int .u8 0, .int .u8 0, .int .u8 0, .int .i16 0, .int .i16 0, .int .i16 0, .int .i16 0]).cells xs xs.length)
  have HS := Lib.hid hs
  clear hi hz0 hz1 hz2 hs
  go_enter Tryd.func14, Tryd.ntmps14
  go_wp2
  go_loopw [4] (fun i wr => ∃ k : Nat, k ≤ xs.length ∧ i = .int .i64 k ∧ RowN Pl.cells 45 wr w.heap.size xs k xs.length ∧ Below w.heap.size w wr) (fun i _ => xs.length - (intOf i).toNat)
  case atStart => exact ⟨0, Nat.zero_le _, rfl, HM.out, (Below.refl _ _).alloc (Nat.le_refl _) _⟩
  case round =>
    obtain ⟨k, hk, rfl, hrow, hb⟩ := hrel
    by_cases hlt : k < xs.length
    · obtain ⟨ga, oa, rfl, hga, hat⟩ := HS.out (by omega)
      obtain ⟨p0, p1, p2, p3, p4, p5, p6, p7, p8⟩ := plAt_some (hat.below hb hga) hlt
      have HR := Lib.hid hrow
      clear hat hrow
      go_wp2_with fail
      refine (toPlaced_any xs[k] _).mono ?_
      rintro e w1 ⟨rfl, h1⟩
      have hr1 := HR.out.below h1 HR.out.lt
      obtain ⟨⟨u0, q0⟩, ⟨u1, q1⟩, ⟨u2, q2⟩, ⟨u3, q3⟩, ⟨u4, q4⟩, ⟨u5, q5⟩, ⟨u6, q6⟩, ⟨u7, q7⟩, ⟨u8, q8⟩⟩ := hr1.cells9 k hlt
      have fz := hr1.frozen
      have HR1 := Lib.hid hr1
      clear hr1
      go_wp2
      go_roundw
      case rel => exact ⟨k + 1, by omega, by go_num, HR1.out.step hlt (Nat.le_refl _) _ _ _ _ _ _ _ _ _ rfl Pl.nine, set9_below (hb.trans (h1.mono hb.size)) (Nat.le_refl _)⟩
      case measure => simp [intOf]; omega
    · obtain rfl : k = xs.length := by omega
      have HR := Lib.hid hrow
      clear hrow
      go_wp2
      go_ret
      exact ⟨_, rfl, Nat.le_refl _, HR.out, hb⟩

theorem RowN.far {α : Type} {cel : α → List Value} {t : TypeId} {w : World} {g j n : Nat} {xs : List α} (h : RowN cel t w g xs j n) {p : Addr} (hne : g ≠ p.block) {u : Value} : RowN cel t (w.setCell p u) g xs j n := by
  obtain ⟨cs, h, h2⟩ := h
  exact ⟨cs, (Below.heap_setCell w p u g hne).trans h, h2⟩
set_option maxHeartbeats 2000000 in
theorem toRack_any (r : Rk) (hv : Value) (w : World) (hs : PlsOf w hv r.ps) (hn : r.ps.length ≤ 1048576) :
    Calls Tryd.prog 6 #[.agg #[.int .i16 r.n, hv]] w fun e w' => ∃ g, e = .returned (.agg #[.int .i16 r.n, .slice (some ⟨g, 0, none⟩) r.ps.length r.ps.length]) ∧ w.heap.size ≤ g ∧ RowN Pl.cells 45 w' g r.ps r.ps.length r.ps.length ∧ Below w.heap.size w w' := by
  have HS := Lib.hid hs
  obtain ⟨A, k, rfl, -⟩ := hs
  go_enter Tryd.func6, Tryd.ntmps6
  have HB := Lib.hid (al3 w (.cells #[.int .i16 r.n, .slice A r.ps.length k] 25) (.cells #[.int .i16 0, .slice none 0 0] 29) (.cells #[.int .i16 r.n, .slice none 0 0] 29))
  go_wp2_with fail
  refine (toPlacedS_any _ _ _ (HS.out.below (by go_grown)) hn).mono ?_
  rintro e w1 ⟨g, rfl, hg, hr, h1⟩
  have G1 := Lib.hid (bnext (show Below w.heap.size w _ by go_grown) h1)
  have b1 := (h1.block (w.heap.size + 1) (by simp)).trans HB.out.1
  have b2 := (h1.block (w.heap.size + 1 + 1) (by simp)).trans HB.out.2
  have HR := Lib.hid hr
  have HG := Lib.hid (show w.heap.size + 1 + 1 + 1 ≤ g by simpa using hg)
  clear hg hr h1
  have o0 := cell_of_row w1 _ 0 _ _ _ b2
  have o1 := cell_of_row w1 _ 1 _ _ _ b2
  have r0 := cell_of_row w1 _ 0 _ _ _ b1
  have r1 := cell_of_row w1 _ 1 _ _ _ b1
  have f2 := fun j => frozen_of_row w1 _ j _ _ b2
  have f1 := fun j => frozen_of_row w1 _ j _ _ b1
  simp only [List.getElem?_toArray, List.getElem?_cons_zero, List.getElem?_cons_succ] at o0 o1 r0 r1
  clear b1 b2
  go_wp2
  refine bodyPost_ret (v := .agg #[.int .i16 r.n, .slice (some ⟨g, 0, none⟩) r.ps.length r.ps.length]) (by simp [results, Tryd.results6, go_sem, r0, r1]) rfl ?_
  refine ⟨g, rfl, by have := HG.out; omega, ?_, ?_⟩
  · repeat (refine RowN.far ?_ (by have := HG.out; simp; omega))
    exact HR.out
  · repeat (refine Below.setCell ?_ (by first | (simp; done) | (simp; omega) | omega) _)
    exact G1.out

set_option maxHeartbeats 2000000 in
theorem eqPlaced_same (x : Pl) (w : World) :
    Calls Tryd.prog 32 #[.agg #[.int .i16 x.p, .int .i16 x.b.c, .int .u8 x.b.m0, .int .u8 x.b.m1, .int .u8 x.b.m2, .int .i16 x.b.v, .int .i16 x.b.wi, .int .i16 x.b.hi, .int .i16 x.b.we], .agg #[.int .i16 x.p, .int .i16 x.b.c, .int .u8 x.b.m0, .int .u8 x.b.m1, .int .u8 x.b.m2, .int .i16 x.b.v, .int .i16 x.b.wi, .int .i16 x.b.hi, .int .i16 x.b.we]] w fun e w' => e = .returned (.bool true) ∧ Below w.heap.size w w' := by
  go_enter Tryd.func32, Tryd.ntmps32
  go_wp2_with fail
  refine (eqBook_same x.b _).mono ?_
  rintro e w1 ⟨rfl, hb⟩
  go_wp2
  go_ret
  exact ⟨rfl, bnext (show Below w.heap.size w _ by go_grown) hb⟩

set_option maxHeartbeats 4000000 in
theorem eqPlacedS_same (v1 v2 : Value) (xs : List Pl) (w : World) (hs1 : PlsOf w v1 xs) (hs2 : PlsOf w v2 xs) (hn : xs.length ≤ maxLen) :
    Calls Tryd.prog 20 #[v1, v2] w fun e w' => e = .returned (.bool true) ∧ Below w.heap.size w w' := by
  obtain ⟨A1, k1, rfl, hs1⟩ := hs1
  obtain ⟨A2, k2, rfl, hs2⟩ := hs2
  unfold maxLen at hn
  have H1 := Lib.hid hs1
  have H2 := Lib.hid hs2
  clear hs1 hs2
  go_enter Tryd.func20, Tryd.ntmps20
  go_wp2
  go_loopw [5] (fun i wr => ∃ k : Nat, k ≤ xs.length ∧ i = .int .i64 k ∧ Below w.heap.size w wr) (fun i _ => xs.length - (intOf i).toNat)
  case atStart => exact ⟨0, Nat.zero_le _, rfl, Below.refl _ _⟩
  case round =>
    obtain ⟨k, hk, rfl, hb⟩ := hrel
    by_cases hlt : k < xs.length
    · obtain ⟨g1, o1, rfl, hg1, ha1⟩ := H1.out (by omega)
      obtain ⟨g2, o2, rfl, hg2, ha2⟩ := H2.out (by omega)
      obtain ⟨p0, p1, p2, p3, p4, p5, p6, p7, p8⟩ := plAt_some (ha1.below hb hg1) hlt
      obtain ⟨q0, q1, q2, q3, q4, q5, q6, q7, q8⟩ := plAt_some (ha2.below hb hg2) hlt
      have z1 := Nat.lt_of_lt_of_le hg1 hb.size
      have z2 := Nat.lt_of_lt_of_le hg2 hb.size
      have p0 := belowBy_cell z1 p0; have q0 := belowBy_cell z2 q0
      have p1 := belowBy_cell z1 p1; have q1 := belowBy_cell z2 q1
      have p2 := belowBy_cell z1 p2; have q2 := belowBy_cell z2 q2
      have p3 := belowBy_cell z1 p3; have q3 := belowBy_cell z2 q3
      have p4 := belowBy_cell z1 p4; have q4 := belowBy_cell z2 q4
      have p5 := belowBy_cell z1 p5; have q5 := belowBy_cell z2 q5
      have p6 := belowBy_cell z1 p6; have q6 := belowBy_cell z2 q6
      have p7 := belowBy_cell z1 p7; have q7 := belowBy_cell z2 q7
      have p8 := belowBy_cell z1 p8; have q8 := belowBy_cell z2 q8
      clear ha1 ha2
      go_wp2
      refine wp_region_below (by kernel_rfl) (by kernel_rfl) ?_
      repeat (first | go_big_quiet_step ((go_at_call 32; exact calls_below (eqPlaced_same _ _))) | quiet_step ((go_at_call 32; exact calls_below (eqPlaced_same _ _))))
      refine wpQuiet_nil ?_
      rintro wq ⟨⟨_, hq⟩, rfl⟩
      clear p0 q0 p1 q1 p2 q2 p3 q3 p4 q4 p5 q5 p6 q6 p7 q7 p8 q8
      go_wp2
      go_roundw
      case rel => exact ⟨k + 1, by omega, by go_num, hb.trans (hq.mono hb.size)⟩
      case measure => simp [intOf]; omega
    · obtain rfl : k = xs.length := by omega
      go_wp2
      go_ret
      exact ⟨rfl, hb⟩
set_option maxHeartbeats 2000000 in
theorem eqRack_same (r : Rk) (h1 h2 : Value) (w : World) (s1 : PlsOf w h1 r.ps) (s2 : PlsOf w h2 r.ps) (hn : r.ps.length ≤ maxLen) :
    Calls Tryd.prog 8 #[.agg #[.int .i16 r.n, h1], .agg #[.int .i16 r.n, h2]] w fun e w' => e = .returned (.bool true) ∧ Below w.heap.size w w' := by
  have H1 := Lib.hid s1
  have H2 := Lib.hid s2
  obtain ⟨A1, k1, rfl, -⟩ := s1
  obtain ⟨A2, k2, rfl, -⟩ := s2
  go_enter Tryd.func8, Tryd.ntmps8
  go_wp2_with fail
  refine (eqPlacedS_same _ _ _ _ (H1.out.below (by go_grown)) (H2.out.below (by go_grown)) hn).mono ?_
  rintro e w1 ⟨rfl, hb⟩
  go_wp2
  go_ret
  exact ⟨rfl, bnext (show Below w.heap.size w _ by go_grown) hb⟩

/-! ### marks -/
/-- Block g is a row of n elements of nine cells, whatever they are. -/
def RowX (t : TypeId) (w : World) (g n : Nat) : Prop := ∃ cs : Array Value, w.heap[g]? = some (.cells cs t (0, 0)) ∧ cs.size = n * 9
theorem RowX.of {α : Type} {cel : α → List Value} {t : TypeId} {w : World} {g k n : Nat} {xs : List α} (h : RowN cel t w g xs k n) : RowX t w g n := by
  obtain ⟨cs, h1, h2, _⟩ := h
  exact ⟨cs, h1, h2⟩
theorem RowX.below {t : TypeId} {w w' : World} {B g n : Nat} (h : RowX t w g n) (hb : Below B w w') (hg : g < B) : RowX t w' g n := by
  obtain ⟨cs, h, h2⟩ := h
  exact ⟨cs, (hb.block g hg).trans h, h2⟩
/-- A book in a place that is marked from the number y on. -/
def mkPV (y : Int) : Pl := ⟨IntKind.i16.wrap y, ⟨IntKind.i16.wrap (y + 1), IntKind.u8.wrap (y + 1 + 1), IntKind.u8.wrap (y + 1 + 1 + 1), IntKind.u8.wrap (y + 1 + 1 + 1 + 1), IntKind.i16.wrap (y + 1 + 1 + 1 + 1 + 1), IntKind.i16.wrap (y + 1 + 1 + 1 + 1 + 1 + 1), IntKind.i16.wrap (y + 1 + 1 + 1 + 1 + 1 + 1 + 1), IntKind.i16.wrap (y + 1 + 1 + 1 + 1 + 1 + 1 + 1 + 1)⟩⟩
def mkP (k0 : Int) (j : Nat) : Pl := mkPV (k0 + 9 * (j : Int))
def mkPL (k0 : Int) (n : Nat) : List Pl := (List.range n).map (mkP k0)
theorem mkPL_length (k0 : Int) (n : Nat) : (mkPL k0 n).length = n := by simp [mkPL]
theorem mkPL_get {k0 : Int} {n i : Nat} (h : i < (mkPL k0 n).length) : (mkPL k0 n)[i] = mkP k0 i := by simp [mkPL]
theorem rowMP {t : TypeId} {w : World} {g n : Nat} (k0 : Int) (m : Nat) (h : RowX t w g n) : RowN Pl.cells t w g (mkPL k0 m) 0 n := by
  obtain ⟨cs, h1, h2⟩ := h
  exact ⟨cs, h1, h2, fun i _ h => absurd h (Nat.not_lt_zero _)⟩

set_option maxHeartbeats 8000000 in
theorem markPlacedS_val (g n N c : Nat) (k0 : Int) (w : World) (h : RowX 45 w g N) (hN : n ≤ N) (hn : n ≤ 1048576) (hk0 : 0 ≤ k0) (hk1 : k0 ≤ 20000000) :
    Calls Tryd.prog 21 #[.slice (some ⟨g, 0, none⟩) n c, .int .i64 k0] w fun e w' => e = .returned (.int .i64 (k0 + 9 * n)) ∧ RowN Pl.cells 45 w' g (mkPL k0 n) n N ∧ w.grownBy w' (some g) := by
  have HR := Lib.hid (rowMP k0 n h)
  clear h
  go_enter Tryd.func21, Tryd.ntmps21
  go_wp2
  go_loopw [1, 5, 6] (fun x i _ wr => ∃ (j : Nat) (y : Int), y = k0 + 9 * (j : Int) ∧ j ≤ n ∧ i = .int .i64 j ∧ x = .int .i64 y ∧ RowN Pl.cells 45 wr g (mkPL k0 n) j N ∧ w.grownBy wr (some g)) (fun _ i _ _ => n - (intOf i).toNat)
  case atStart => exact ⟨0, k0, by simp, Nat.zero_le _, rfl, rfl, HR.out, World.grownBy.refl w _⟩
  case round =>
    obtain ⟨j, y, hy, hj, rfl, rfl, hm, hgr⟩ := hrel
    have HG := Lib.hid hgr
    have HW := Lib.hid hm
    clear hgr
    by_cases hlt : j < n
    · obtain ⟨⟨u0, c0⟩, ⟨u1, c1⟩, ⟨u2, c2⟩, ⟨u3, c3⟩, ⟨u4, c4⟩, ⟨u5, c5⟩, ⟨u6, c6⟩, ⟨u7, c7⟩, ⟨u8, c8⟩⟩ := hm.cells9 j (by omega)
      have fz := hm.frozen
      have hy0 : 0 ≤ y := by omega
      have hy1 : y ≤ 40000000 := by omega
      have HY := Lib.hid hy
      have hjl : j < (mkPL k0 n).length := by rw [mkPL_length]; exact hlt
      have HC := Lib.hid (show ((mkPL k0 n)[j]'hjl).cells = (mkPV y).cells by rw [mkPL_get hjl, mkP, ← hy])
      have HL := Lib.hid (show (mkPL k0 n).length ≤ N by rw [mkPL_length]; exact hN)
      have HJ := Lib.hid hjl
      clear hm hy
      go_wp2
      refine wp_loop_rounds 4 ?_
      rw [rounds_succ]; go_wp2
      rw [rounds_succ]; go_wp2
      rw [rounds_succ]; go_wp2
      rw [rounds_succ]; go_wp2
      go_roundw
      case rel => exact ⟨j + 1, y + 1 + 1 + 1 + 1 + 1 + 1 + 1 + 1 + 1, by have := HY.out; omega, by omega, by go_num, rfl, HW.out.step HJ.out HL.out _ _ _ _ _ _ _ _ _ HC.out Pl.nine, only_set2 (only_set2 (only_set2 (only_set2 (only_set2 (only_set2 (only_set2 (only_set2 (only_set2 HG.out _ _) _ _) _ _) _ _) _ _) _ _) _ _) _ _) _ _⟩
      case measure => simp [intOf]; omega
    · obtain rfl : j = n := by omega
      have HY := Lib.hid hy
      clear hy hm
      go_wp2
      go_ret
      exact ⟨by rw [← HY.out]; rfl, HW.out, HG.out⟩

set_option maxHeartbeats 8000000 in
theorem heldPlacedS_any (v : Value) (n : Nat) (k0 : Int) (w : World) (hn : n ≤ 1048576) (hk0 : 0 ≤ k0) (hk1 : k0 ≤ 20000000) (hs : PlsOf w v (mkPL k0 n)) :
    Calls Tryd.prog 22 #[v, .int .i64 k0] w fun e w' => e = .returned (.int .i64 (k0 + 9 * n)) ∧ w = w' := by
  obtain ⟨A, c, rfl, hs⟩ := hs
  have el := mkPL_length k0 n
  rw [el] at hs ⊢
  have HS := Lib.hid hs
  clear hs el
  go_enter Tryd.func22, Tryd.ntmps22
  go_wp2
  go_loopw [1, 5, 6] (fun x i _ wr => ∃ (j : Nat) (y : Int), y = k0 + 9 * (j : Int) ∧ j ≤ n ∧ i = .int .i64 j ∧ x = .int .i64 y ∧ wr = w) (fun _ i _ _ => n - (intOf i).toNat)
  case atStart => exact ⟨0, k0, by simp, Nat.zero_le _, rfl, rfl, rfl⟩
  case round =>
    obtain ⟨j, y, hy, hj, rfl, rfl, rfl⟩ := hrel
    by_cases hlt : j < n
    · obtain ⟨ga, oa, rfl, hga, hat⟩ := HS.out (by omega)
      have hjl : j < (mkPL k0 n).length := by rw [mkPL_length]; exact hlt
      obtain ⟨p0, p1, p2, p3, p4, p5, p6, p7, p8⟩ := plAt_some hat hjl
      rw [mkPL_get hjl, mkP, ← hy] at p0 p1 p2 p3 p4 p5 p6 p7 p8
      simp only [mkPV] at p0 p1 p2 p3 p4 p5 p6 p7 p8
      have hy0 : 0 ≤ y := by omega
      have hy1 : y ≤ 40000000 := by omega
      have HY := Lib.hid hy
      clear hy hat hjl
      go_wp2
      refine wp_loop_rounds 4 ?_
      rw [rounds_succ]; go_wp2
      rw [rounds_succ]; go_wp2
      rw [rounds_succ]; go_wp2
      rw [rounds_succ]; go_wp2
      go_roundw
      case rel => exact ⟨j + 1, y + 1 + 1 + 1 + 1 + 1 + 1 + 1 + 1 + 1, by have := HY.out; omega, by omega, by go_num, by first | rfl | trivial, by first | rfl | trivial⟩
      case measure => simp [intOf]; omega
    · obtain rfl : j = n := by omega
      have HY := Lib.hid hy
      clear hy
      go_wp2
      go_ret
      exact ⟨by rw [← HY.out]; rfl, rfl⟩

theorem grownAl {w w' : World} {o : Obj} {row : Option Nat} (h : (w.alloc o).grownBy w' row) : w.grownBy w' row :=
  ⟨h.os, h.tape, h.output, Nat.le_trans (by simp) h.size, fun k hk hne => (h.block k (by simp; omega) hne).trans (Below.heap_alloc w o k hk)⟩
set_option maxHeartbeats 1000000 in
theorem markPlRes_any (v : Value) (ys : List Pl) (base : Nat) (k0 : Int) (w : World) (h : ResN Pl.cells 45 w base v ys) (hn : ys.length ≤ 1048576) (hk0 : 0 ≤ k0) (hk1 : k0 ≤ 20000000) :
    Calls Tryd.prog 21 #[v, .int .i64 k0] w fun e w' => e = .returned (.int .i64 (k0 + 9 * (ys.length : Nat))) ∧ ResN Pl.cells 45 w' base v (mkPL k0 ys.length) ∧ w.grownBy w' v.ownBlock := by
  rcases h with ⟨rfl, rfl⟩ | ⟨g, N, rfl, h1, hr, hN⟩
  · go_enter Tryd.func21, Tryd.ntmps21
    go_wp2
    refine wp_loop_rounds 1 ?_
    rw [rounds_succ]
    go_wp2
    go_ret
    exact ⟨by simp, .inl ⟨rfl, rfl⟩, World.grownBy.refl w _⟩
  · refine (markPlacedS_val g ys.length N N k0 w (RowX.of hr) hN hn hk0 hk1).mono ?_
    rintro e w' ⟨rfl, hm, hg⟩
    exact ⟨rfl, .inr ⟨g, N, by rw [mkPL_length], h1, by rw [mkPL_length]; exact hm, by rw [mkPL_length]; exact hN⟩, hg⟩

set_option maxHeartbeats 1000000 in
theorem markRack_any (n : Int) (v : Value) (ys : List Pl) (base : Nat) (k0 : Int) (w : World) (h : ResN Pl.cells 45 w base v ys) (hn : ys.length ≤ 1048576) (hk0 : 0 ≤ k0) (hk1 : k0 ≤ 20000000) :
    Calls Tryd.prog 9 #[.agg #[.int .i16 n, v], .int .i64 k0] w fun e w' => e = .returned (.int .i64 (k0 + 9 * (ys.length : Nat))) ∧ ResN Pl.cells 45 w' base v (mkPL k0 ys.length) ∧ w.grownBy w' v.ownBlock := by
  have HA := Lib.hid (h.below ((Below.refl w.heap.size w).alloc (Nat.le_refl _) (.cells #[.int .i16 n, v] 29)))
  obtain ⟨A, m, c, rfl⟩ : ∃ A m c, v = .slice A m c := by rcases h with ⟨rfl, _⟩ | ⟨g, N, rfl, _⟩ <;> exact ⟨_, _, _, rfl⟩
  clear h
  go_enter Tryd.func9, Tryd.ntmps9
  go_wp2_with fail
  refine (markPlRes_any _ ys base k0 _ HA.out hn hk0 hk1).mono ?_
  rintro e w1 ⟨rfl, hm, k1⟩
  have HM := Lib.hid hm
  clear hm
  go_wp2
  go_ret
  exact ⟨rfl, HM.out, grownAl k1⟩

set_option maxHeartbeats 1000000 in
theorem markRackRow_any (nn : Int) (g n : Nat) (k0 : Int) (w : World) (h : RowX 45 w g n) (hn : n ≤ 1048576) (hk0 : 0 ≤ k0) (hk1 : k0 ≤ 20000000) :
    Calls Tryd.prog 9 #[.agg #[.int .i16 nn, .slice (some ⟨g, 0, none⟩) n n], .int .i64 k0] w fun e w' => e = .returned (.int .i64 (k0 + 9 * n)) ∧ True ∧ w.grownBy w' (some g) := by
  have HA := Lib.hid (h.below ((Below.refl w.heap.size w).alloc (Nat.le_refl _) (.cells #[.int .i16 nn, .slice (some ⟨g, 0, none⟩) n n] 29)) (by obtain ⟨cs, h1, _⟩ := h; exact (Array.getElem?_eq_some_iff.1 h1).1))
  clear h
  go_enter Tryd.func9, Tryd.ntmps9
  go_wp2_with fail
  refine (markPlacedS_val g n n n k0 _ HA.out (Nat.le_refl _) hn hk0 hk1).mono ?_
  rintro e w1 ⟨rfl, -, k1⟩
  go_wp2
  go_ret
  exact ⟨rfl, trivial, grownAl k1⟩

set_option maxHeartbeats 1000000 in
theorem heldRack_any (n : Int) (v : Value) (m : Nat) (k0 : Int) (w : World) (hn : m ≤ 1048576) (hk0 : 0 ≤ k0) (hk1 : k0 ≤ 20000000) (hs : PlsOf w v (mkPL k0 m)) :
    Calls Tryd.prog 10 #[.agg #[.int .i16 n, v], .int .i64 k0] w fun e w' => e = .returned (.int .i64 (k0 + 9 * m)) ∧ Below w.heap.size w w' := by
  have HA := Lib.hid (hs.below ((Below.refl w.heap.size w).alloc (Nat.le_refl _) (.cells #[.int .i16 n, v] 29)))
  obtain ⟨A, c, rfl, -⟩ := hs
  have nn : ¬ (k0 + 9 * (m : Int) < 0) := by omega
  go_enter Tryd.func10, Tryd.ntmps10
  go_wp2_with fail
  refine (heldPlacedS_any _ m k0 _ hn hk0 hk1 HA.out).mono ?_
  rintro e w1 ⟨rfl, rfl⟩
  go_wp2
  go_ret
  exact ⟨rfl, by go_grown⟩

end Go.Proofs.YtgmipobohnagnaaDoor
