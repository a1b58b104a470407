/- A list of acts that a call hands back: how it reads, the law's comparison and marks. Condition: at most 300 acts. -/
import Derived.Test.YtkojnepgeegalaaDoorRdU0
import Derived.Test.YtkojnepgeegalaaDoorWReadAct
import Derived.Test.YtkojnepgeegalaaDoorQuiet
namespace Go.Proofs.YtkojnepgeegalaaDoor
set_option linter.unusedSimpArgs false
set_option linter.unusedVariables false
set_option maxRecDepth 100000
open Go.RowKit

def axC (ms : List Ax) : List Value := ms.flatMap (fun m => [.int .i8 (m.1 : Int), .int .i8 (m.2.1 : Int), .int .i8 (m.2.2 : Int)])
theorem axC_snoc (ms : List Ax) (x : Ax) : axC (ms ++ [x]) = axC ms ++ [.int .i8 (x.1 : Int), .int .i8 (x.2.1 : Int), .int .i8 (x.2.2 : Int)] := by simp [axC]
theorem cell3_new (w : World) (a b c : Value) (t : TypeId) : ∀ (j : Nat) (u : Value), [a, b, c][j]? = some u → (w.alloc (.cells #[a, b, c] t)).cell? (Addr.add ⟨w.heap.size, 0, none⟩ j) = some u := by
  intro j u hu
  rw [Addr.add_lit, Nat.zero_add, cell_of_row _ _ j _ _ _ (heap_alloc_new w _)]
  match j, hu with
  | 0, hu => simpa using hu
  | 1, hu => simpa using hu
  | 2, hu => simpa using hu
theorem one3 (a b c : Int) : ∀ u ∈ [Value.int .i8 a, Value.int .i8 b, Value.int .i8 c], u.oneCell' = true := by
  intro u hu
  simp at hu
  rcases hu with rfl | rfl | rfl <;> rfl
theorem infoAct : (Tryd.prog.info? 42).map (fun i => (i.zero, i.size, i.bytes)) = some (some (.agg #[.int .i8 0, .int .i8 0, .int .i8 0]), 3, 3) := by kernel_rfl
/-- No list, or a block of its own. -/
def ResX (w : World) (base : Nat) (v : Value) (ms : List (Int × Int × Int)) : Prop :=
  (v = .slice none 0 0 ∧ ms = []) ∨ ∃ g N, v = .slice (some ⟨g, 0, none⟩) ms.length N ∧ base ≤ g ∧ ∃ cs : Array Value, w.heap[g]? = some (.cells cs 42 (0, 0)) ∧ ms.length * 3 ≤ cs.size ∧ ∀ (i : Nat) (hi : i < ms.length), cs[i * 3]? = some (.int .i8 ms[i].1) ∧ cs[i * 3 + 1]? = some (.int .i8 ms[i].2.1) ∧ cs[i * 3 + 2]? = some (.int .i8 ms[i].2.2)
theorem ResX.below {w w' : World} {base : Nat} {v : Value} {ms : List (Int × Int × Int)} (h : ResX w base v ms) (hb : Below w.heap.size w w') : ResX w' base v ms := by
  rcases h with h | ⟨g, N, rfl, h1, cs, h2, h3⟩
  · exact .inl h
  · exact .inr ⟨g, N, rfl, h1, cs, (hb.block g (Array.getElem?_eq_some_iff.1 h2).1).trans h2, h3⟩
theorem ResX.other {w w' : World} {base : Nat} {v : Value} {ms : List (Int × Int × Int)} {row : Option Nat} (h : ResX w base v ms) (hg : w.grownBy w' row) (hne : ∀ k, v.ownBlock = some k → some k ≠ row) : ResX w' base v ms := by
  rcases h with h | ⟨g, N, rfl, h1, cs, h2, h3⟩
  · exact .inl h
  · exact .inr ⟨g, N, rfl, h1, cs, (hg.block g (Array.getElem?_eq_some_iff.1 h2).1 (hne g rfl)).trans h2, h3⟩
theorem ResX.lt {w : World} {base : Nat} {v : Value} {ms : List (Int × Int × Int)} (h : ResX w base v ms) : ∀ k, v.ownBlock = some k → base ≤ k ∧ k < w.heap.size := by
  intro k hk
  rcases h with ⟨rfl, _⟩ | ⟨g, N, rfl, h1, cs, h2, _⟩
  · cases hk
  · obtain rfl : g = k := by injection hk
    exact ⟨h1, (Array.getElem?_eq_some_iff.1 h2).1⟩
def axI (ms : List Ax) : List (Int × Int × Int) := ms.map (fun m => ((m.1 : Int), (m.2.1 : Int), (m.2.2 : Int)))
theorem axI_length (ms : List Ax) : (axI ms).length = ms.length := by simp [axI]
theorem axC_at : ∀ (ms : List Ax) (i : Nat) (h : i < ms.length), (axC ms)[i * 3]? = some (.int .i8 (ms[i].1 : Int)) ∧ (axC ms)[i * 3 + 1]? = some (.int .i8 (ms[i].2.1 : Int)) ∧ (axC ms)[i * 3 + 2]? = some (.int .i8 (ms[i].2.2 : Int))
  | [], i, h => absurd h (Nat.not_lt_zero _)
  | m :: t, 0, _ => by simp [axC]
  | m :: t, i + 1, h => by
    have ih := axC_at t i (by simpa using h)
    have e : axC (m :: t) = [.int .i8 (m.1 : Int), .int .i8 (m.2.1 : Int), .int .i8 (m.2.2 : Int)] ++ axC t := by simp [axC]
    rw [e, List.getElem?_append_right (by simp; omega), List.getElem?_append_right (by simp; omega), List.getElem?_append_right (by simp; omega)]
    simp only [List.length_cons, List.length_nil, Nat.zero_add, Nat.reduceAdd, List.getElem_cons_succ]
    rw [show (i + 1) * 3 - 3 = i * 3 by omega, show (i + 1) * 3 + 1 - 3 = i * 3 + 1 by omega, show (i + 1) * 3 + 2 - 3 = i * 3 + 2 by omega]
    exact ih
theorem ResX.of {w : World} {base : Nat} {v : Value} {ms : List Ax} (h : w.ownsRow base 42 3 v ms.length (axC ms)) : ResX w base v (axI ms) := by
  rcases h.2 with ⟨rfl, h0⟩ | ⟨g, cap, cur, rfl, hb, hg, hc, _, hs, ht⟩
  · exact .inl ⟨rfl, by rw [List.eq_nil_of_length_eq_zero h0]; rfl⟩
  · refine .inr ⟨g, cap, by rw [axI_length], hb, cur, hg, by rw [axI_length]; omega, fun i hi => ?_⟩
    have hi' : i < ms.length := by rw [axI_length] at hi; exact hi
    obtain ⟨a, b, c⟩ := axC_at ms i hi'
    rw [← ht] at a b c
    rw [List.getElem?_take, if_pos (by omega), Array.getElem?_toList] at a b c
    have e : (axI ms)[i] = ((ms[i].1 : Int), (ms[i].2.1 : Int), (ms[i].2.2 : Int)) := by simp [axI]
    rw [e]
    exact ⟨a, b, c⟩

set_option maxHeartbeats 4000000 in
theorem eqAxS_same (v1 v2 : Value) (b1 b2 : Nat) (ms : List (Int × Int × Int)) (w : World) (hs1 : ResX w b1 v1 ms) (hs2 : ResX w b2 v2 ms) (hn : ms.length ≤ 300) :
    Calls Tryd.prog 28 #[v1, v2] w fun e w' => e = .returned (.bool true) ∧ Below w.heap.size w w' := by
  have H1 := Lib.hid hs1
  have H2 := Lib.hid hs2
  obtain ⟨A1, k1, rfl⟩ : ∃ A k, v1 = .slice A ms.length k := by
    rcases hs1 with ⟨rfl, rfl⟩ | ⟨g, N, rfl, _⟩
    · exact ⟨none, 0, rfl⟩
    · exact ⟨_, N, rfl⟩
  obtain ⟨A2, k2, rfl⟩ : ∃ A k, v2 = .slice A ms.length k := by
    rcases hs2 with ⟨rfl, rfl⟩ | ⟨g, N, rfl, _⟩
    · exact ⟨none, 0, rfl⟩
    · exact ⟨_, N, rfl⟩
  clear hs1 hs2
  have at_ : ∀ (W : World) (A : Option Addr) (k b : Nat) (i : Nat) (hi : i < ms.length), ResX W b (.slice A ms.length k) ms → ∃ g, A = some ⟨g, 0, none⟩ ∧ g < W.heap.size ∧ W.cell? ⟨g, i * 3, none⟩ = some (.int .i8 ms[i].1) ∧ W.cell? ⟨g, i * 3 + 1, none⟩ = some (.int .i8 ms[i].2.1) ∧ W.cell? ⟨g, i * 3 + 2, none⟩ = some (.int .i8 ms[i].2.2) := by
    intro W A k b i hi h
    rcases h with ⟨_, rfl⟩ | ⟨g, N, e, h1, cs, h2, h3, h4⟩
    · exact absurd hi (Nat.not_lt_zero _)
    · injection e with e1 _ _
      exact ⟨g, e1, (Array.getElem?_eq_some_iff.1 h2).1, (cell_of_row W g _ cs _ _ h2).trans (h4 i hi).1, (cell_of_row W g _ cs _ _ h2).trans (h4 i hi).2.1, (cell_of_row W g _ cs _ _ h2).trans (h4 i hi).2.2⟩
  have AT := Lib.hid at_
  clear at_
  go_enter Tryd.func28, Tryd.ntmps28
  go_wp2
  go_loopw [5] (fun i wr => ∃ k : Nat, k ≤ ms.length ∧ i = .int .i64 k ∧ Below w.heap.size w wr) (fun i _ => ms.length - (intOf i).toNat)
  case atStart => exact ⟨0, Nat.zero_le _, rfl, Below.refl _ _⟩
  case round =>
    obtain ⟨k, hk, rfl, hb⟩ := hrel
    by_cases hlt : k < ms.length
    · obtain ⟨g1, rfl, z1, p0, p1, p2⟩ := AT.out _ _ _ _ k hlt (H1.out.below hb)
      obtain ⟨g2, rfl, z2, q0, q1, q2⟩ := AT.out _ _ _ _ k hlt (H2.out.below hb)
      have p0 := belowBy_cell z1 p0; have p1 := belowBy_cell z1 p1; have p2 := belowBy_cell z1 p2
      have q0 := belowBy_cell z2 q0; have q1 := belowBy_cell z2 q1; have q2 := belowBy_cell z2 q2
      go_wp2
      refine wp_region_below (by kernel_rfl) (by kernel_rfl) ?_
      repeat (quiet_step ((go_at_call 25; exact calls_below (eqAct_same _ _ _ _))))
      refine wpQuiet_nil ?_
      rintro _ ⟨⟨wq, hq⟩, rfl⟩
      clear p0 p1 p2 q0 q1 q2
      go_wp2
      go_roundw
      case rel => exact ⟨k + 1, by omega, by go_num, hb.trans (hq.mono hb.size)⟩
      case measure => simp [intOf]; omega
    · obtain rfl : k = ms.length := by omega
      go_wp2
      go_ret
      exact ⟨rfl, hb⟩

/-! ### marks -/
def w8 (y : Int) : Int := IntKind.i8.wrap y
theorem w8_run (y : Int) : IntKind.i8.wrap y = w8 y := rfl
def mkX (n : Nat) : List (Int × Int × Int) := (List.range n).map (fun j : Nat => (w8 (1 + 3 * (j : Int)), w8 (1 + 3 * (j : Int) + 1), w8 (1 + 3 * (j : Int) + 1 + 1)))
theorem mkX_length (n : Nat) : (mkX n).length = n := by simp [mkX]
theorem mkX_get {n i : Nat} (h : i < (mkX n).length) : (mkX n)[i] = (w8 (1 + 3 * (i : Int)), w8 (1 + 3 * (i : Int) + 1), w8 (1 + 3 * (i : Int) + 1 + 1)) := by simp [mkX]
/-- Block g, the first j acts of which are marked. -/
def MkX (w : World) (g n j : Nat) : Prop := ∃ cs : Array Value, w.heap[g]? = some (.cells cs 42 (0, 0)) ∧ n * 3 ≤ cs.size ∧ ∀ i, i < j → cs[i * 3]? = some (.int .i8 (w8 (1 + 3 * (i : Int)))) ∧ cs[i * 3 + 1]? = some (.int .i8 (w8 (1 + 3 * (i : Int) + 1))) ∧ cs[i * 3 + 2]? = some (.int .i8 (w8 (1 + 3 * (i : Int) + 1 + 1)))
theorem MkX.cell {w : World} {g n j : Nat} (h : MkX w g n j) (o : Nat) (ho : o < n * 3) : ∃ u, w.cell? ⟨g, o, none⟩ = some u := by
  obtain ⟨cs, h1, h2, _⟩ := h
  exact ⟨_, (cell_of_row w g _ cs _ _ h1).trans (Array.getElem?_eq_getElem (by omega))⟩
theorem MkX.frozen {w : World} {g n j : Nat} (h : MkX w g n j) (o : Nat) : w.frozen? ⟨g, o, none⟩ = false := by
  obtain ⟨cs, h1, _⟩ := h
  exact frozen_of_row w g _ cs _ h1
theorem MkX.step {w : World} {g n j : Nat} (h : MkX w g n j) (hj : j < n) : MkX (((w.setCell ⟨g, j * 3, none⟩ (.int .i8 (w8 (1 + 3 * (j : Int))))).setCell ⟨g, j * 3 + 1, none⟩ (.int .i8 (w8 (1 + 3 * (j : Int) + 1)))).setCell ⟨g, j * 3 + 2, none⟩ (.int .i8 (w8 (1 + 3 * (j : Int) + 1 + 1)))) g n (j + 1) := by
  obtain ⟨cs, h1, h2, h3⟩ := h
  refine ⟨_, heap_setCell_same _ _ _ _ _ _ (heap_setCell_same _ _ _ _ _ _ (heap_setCell_same _ _ _ _ _ _ h1)), by simpa using h2, fun i hi => ?_⟩
  simp only [Array.getElem?_setIfInBounds, Array.size_setIfInBounds]
  by_cases e : i = j
  · subst e
    refine ⟨?_, ?_, ?_⟩
    · rw [if_neg (by omega), if_neg (by omega), if_pos rfl, if_pos (by omega)]
    · rw [if_neg (by omega), if_pos rfl, if_pos (by omega)]
    · rw [if_pos rfl, if_pos (by omega)]
  · obtain ⟨a, b, c⟩ := h3 i (by omega)
    refine ⟨?_, ?_, ?_⟩
    · rw [if_neg (by omega), if_neg (by omega), if_neg (by omega)]; exact a
    · rw [if_neg (by omega), if_neg (by omega), if_neg (by omega)]; exact b
    · rw [if_neg (by omega), if_neg (by omega), if_neg (by omega)]; exact c

set_option maxHeartbeats 4000000 in
theorem markAx_any (v : Value) (base : Nat) (ms : List (Int × Int × Int)) (w : World) (h : ResX w base v ms) (hn : ms.length ≤ 300) :
    Calls Tryd.prog 29 #[v, .int .i64 1] w fun e w' => e = .returned (.int .i64 (1 + 3 * (ms.length : Int))) ∧ ResX w' base v (mkX ms.length) ∧ w.grownBy w' v.ownBlock := by
  rcases h with ⟨rfl, rfl⟩ | ⟨g, N, rfl, h1, cs, h2, h3, -⟩
  · go_enter Tryd.func29, Tryd.ntmps29
    go_wp2
    refine wp_loop_rounds 1 ?_
    rw [rounds_succ]
    go_wp2
    go_ret
    exact ⟨rfl, .inl ⟨rfl, rfl⟩, World.grownBy.refl w _⟩
  · have H0 := Lib.hid (show MkX w g ms.length 0 from ⟨cs, h2, h3, fun i hi => absurd hi (Nat.not_lt_zero _)⟩)
    obtain ⟨n, hnn⟩ : ∃ n, ms.length = n := ⟨_, rfl⟩
    rw [hnn] at hn H0 ⊢
    clear h2 h3 hnn
    have WR := fun y => w8_run y
    go_enter Tryd.func29, Tryd.ntmps29
    go_wp2
    go_loopw [1, 5] (fun x_ i wr => ∃ (j : Nat) (y : Int), y = 1 + 3 * (j : Int) ∧ j ≤ n ∧ i = .int .i64 (j : Int) ∧ x_ = .int .i64 y ∧ MkX wr g n j ∧ w.grownBy wr (some g)) (fun _ i _ => n - (intOf i).toNat)
    case atStart => exact ⟨0, 1, rfl, Nat.zero_le _, rfl, rfl, H0.out, World.grownBy.refl w _⟩
    case round =>
      obtain ⟨j, y, hy, hj, rfl, rfl, hrow, hgr⟩ := hrel
      have HG := Lib.hid hgr
      have HW := Lib.hid hrow
      have y0 : 1 ≤ y := by omega
      have y1 : y ≤ 1000 := by omega
      have HY := Lib.hid hy
      clear hgr hy
      by_cases hlt : j < n
      · obtain ⟨u0, c0⟩ := hrow.cell (j * 3) (by omega)
        obtain ⟨u1, c1⟩ := hrow.cell (j * 3 + 1) (by omega)
        obtain ⟨u2, c2⟩ := hrow.cell (j * 3 + 2) (by omega)
        have fz := hrow.frozen
        have ST := Lib.hid (hrow.step hlt)
        rw [← HY.out] at ST
        clear hrow
        go_wp2
        go_roundw
        case rel => exact ⟨j + 1, y + 1 + 1 + 1, by have := HY.out; omega, by omega, by go_num, rfl, ST.out, only_set2 (only_set2 (only_set2 HG.out _ _) _ _) _ _⟩
        case measure => simp [intOf]; omega
      · obtain rfl : j = n := by omega
        clear hrow
        go_wp2
        go_ret
        obtain ⟨cs, h2, h3, h4⟩ := HW.out
        exact ⟨by rw [← HY.out]; rfl, .inr ⟨g, N, by rw [mkX_length], h1, cs, h2, by rw [mkX_length]; exact h3, fun i hi => by rw [mkX_get]; rw [mkX_length] at hi; exact h4 i hi⟩, HG.out⟩

set_option maxHeartbeats 4000000 in
theorem heldAx_any (v : Value) (base n : Nat) (w : World) (h : ResX w base v (mkX n)) (hn : n ≤ 300) :
    Calls Tryd.prog 30 #[v, .int .i64 1] w fun e w' => e = .returned (.int .i64 (1 + 3 * (n : Int))) ∧ w = w' := by
  rcases h with ⟨rfl, h0⟩ | ⟨g, N, rfl, h1, cs, h2, h3, h4⟩
  · obtain rfl : n = 0 := by have := congrArg List.length h0; rw [mkX_length] at this; simpa using this
    go_enter Tryd.func30, Tryd.ntmps30
    go_wp2
    refine wp_loop_rounds 1 ?_
    rw [rounds_succ]
    go_wp2
    go_ret
    exact ⟨rfl, rfl⟩
  · have HC := Lib.hid (fun (i : Nat) (hi : i < n) => show w.cell? ⟨g, i * 3, none⟩ = some (.int .i8 (w8 (1 + 3 * (i : Int)))) ∧ w.cell? ⟨g, i * 3 + 1, none⟩ = some (.int .i8 (w8 (1 + 3 * (i : Int) + 1))) ∧ w.cell? ⟨g, i * 3 + 2, none⟩ = some (.int .i8 (w8 (1 + 3 * (i : Int) + 1 + 1))) by
      obtain ⟨a, b, c⟩ := h4 i (by rw [mkX_length]; exact hi)
      rw [mkX_get] at a b c
      exact ⟨(cell_of_row w g _ cs _ _ h2).trans a, (cell_of_row w g _ cs _ _ h2).trans b, (cell_of_row w g _ cs _ _ h2).trans c⟩)
    rw [mkX_length]
    clear h2 h3 h4
    have WR := fun y => w8_run y
    go_enter Tryd.func30, Tryd.ntmps30
    go_wp2
    go_loopw [1, 5] (fun x_ i wr => ∃ (j : Nat) (y : Int), y = 1 + 3 * (j : Int) ∧ j ≤ n ∧ i = .int .i64 (j : Int) ∧ x_ = .int .i64 y ∧ w = wr) (fun _ i _ => n - (intOf i).toNat)
    case atStart => exact ⟨0, 1, rfl, Nat.zero_le _, rfl, rfl, rfl⟩
    case round =>
      obtain ⟨j, y, hy, hj, rfl, rfl, hw⟩ := hrel
      subst hw
      have y0 : 1 ≤ y := by omega
      have y1 : y ≤ 1000 := by omega
      have HY := Lib.hid hy
      clear hy
      by_cases hlt : j < n
      · obtain ⟨c0, c1, c2⟩ := HC.out j hlt
        rw [← HY.out] at c0 c1 c2
        go_wp2
        go_roundw
        case rel => exact ⟨j + 1, y + 1 + 1 + 1, by have := HY.out; omega, by omega, by go_num, rfl, by first | rfl | trivial⟩
        case measure => simp [intOf]; omega
      · obtain rfl : j = n := by omega
        go_wp2
        go_ret
        exact ⟨by rw [← HY.out]; rfl, rfl⟩

end Go.Proofs.YtkojnepgeegalaaDoor
