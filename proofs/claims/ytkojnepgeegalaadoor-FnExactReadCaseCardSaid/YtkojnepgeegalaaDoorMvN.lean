/- A list of moves that a call hands back (no sorting needed): how it reads, the law's comparison and marks. Condition: at most 300 moves. Never with XSwp. -/
import Derived.Test.YtkojnepgeegalaaDoorRd
import Derived.Test.YtkojnepgeegalaaDoorQuiet
namespace Go.Proofs.YtkojnepgeegalaaDoor
set_option linter.unusedSimpArgs false
set_option linter.unusedVariables false
set_option maxRecDepth 100000
open Go.RowKit

def mvC (ms : List (Nat × Nat)) : List Value := ms.flatMap (fun m => [.int .i16 (m.1 : Int), .int .i16 (m.2 : Int)])
theorem mvC_snoc (ms : List (Nat × Nat)) (a b : Nat) : mvC (ms ++ [(a, b)]) = mvC ms ++ [.int .i16 (a : Int), .int .i16 (b : Int)] := by simp [mvC]
theorem cell2_new (w : World) (a b : Value) (t : TypeId) : ∀ (j : Nat) (u : Value), [a, b][j]? = some u → (w.alloc (.cells #[a, b] t)).cell? (Addr.add ⟨w.heap.size, 0, none⟩ j) = some u := by
  intro j u hu
  rw [Addr.add_lit, Nat.zero_add, cell_of_row _ _ j _ _ _ (heap_alloc_new w _)]
  match j, hu with
  | 0, hu => simpa using hu
  | 1, hu => simpa using hu
/-- No list, or a block of its own. -/
def ResM (w : World) (base : Nat) (v : Value) (ms : List (Int × Int)) : Prop :=
  (v = .slice none 0 0 ∧ ms = []) ∨ ∃ g N, v = .slice (some ⟨g, 0, none⟩) ms.length N ∧ base ≤ g ∧ ∃ cs : Array Value, w.heap[g]? = some (.cells cs 83 (0, 0)) ∧ ms.length * 2 ≤ cs.size ∧ ∀ (i : Nat) (hi : i < ms.length), cs[i * 2]? = some (.int .i16 ms[i].1) ∧ cs[i * 2 + 1]? = some (.int .i16 ms[i].2)
theorem ResM.below {w w' : World} {base : Nat} {v : Value} {ms : List (Int × Int)} (h : ResM w base v ms) (hb : Below w.heap.size w w') : ResM w' base v ms := by
  rcases h with h | ⟨g, N, rfl, h1, cs, h2, h3⟩
  · exact .inl h
  · exact .inr ⟨g, N, rfl, h1, cs, (hb.block g (Array.getElem?_eq_some_iff.1 h2).1).trans h2, h3⟩
theorem ResM.other {w w' : World} {base : Nat} {v : Value} {ms : List (Int × Int)} {row : Option Nat} (h : ResM w base v ms) (hg : w.grownBy w' row) (hne : ∀ k, v.ownBlock = some k → some k ≠ row) : ResM w' base v ms := by
  rcases h with h | ⟨g, N, rfl, h1, cs, h2, h3⟩
  · exact .inl h
  · exact .inr ⟨g, N, rfl, h1, cs, (hg.block g (Array.getElem?_eq_some_iff.1 h2).1 (hne g rfl)).trans h2, h3⟩
theorem ResM.lt {w : World} {base : Nat} {v : Value} {ms : List (Int × Int)} (h : ResM w base v ms) : ∀ k, v.ownBlock = some k → base ≤ k ∧ k < w.heap.size := by
  intro k hk
  rcases h with ⟨rfl, _⟩ | ⟨g, N, rfl, h1, cs, h2, _⟩
  · cases hk
  · obtain rfl : g = k := by injection hk
    exact ⟨h1, (Array.getElem?_eq_some_iff.1 h2).1⟩
def mvI (ms : List (Nat × Nat)) : List (Int × Int) := ms.map (fun m => ((m.1 : Int), (m.2 : Int)))
theorem mvI_length (ms : List (Nat × Nat)) : (mvI ms).length = ms.length := by simp [mvI]
theorem mvC_at : ∀ (ms : List (Nat × Nat)) (i : Nat) (h : i < ms.length), (mvC ms)[i * 2]? = some (.int .i16 (ms[i].1 : Int)) ∧ (mvC ms)[i * 2 + 1]? = some (.int .i16 (ms[i].2 : Int))
  | [], i, h => absurd h (Nat.not_lt_zero _)
  | m :: t, 0, _ => by simp [mvC]
  | m :: t, i + 1, h => by
    have ih := mvC_at t i (by simpa using h)
    have e : mvC (m :: t) = [.int .i16 (m.1 : Int), .int .i16 (m.2 : Int)] ++ mvC t := by simp [mvC]
    rw [e, List.getElem?_append_right (by simp; omega), List.getElem?_append_right (by simp; omega)]
    simp only [List.length_cons, List.length_nil, Nat.zero_add, Nat.reduceAdd, List.getElem_cons_succ]
    rw [show (i + 1) * 2 - 2 = i * 2 by omega, show (i + 1) * 2 + 1 - 2 = i * 2 + 1 by omega]
    exact ih
theorem ResM.of {w : World} {base : Nat} {v : Value} {ms : List (Nat × Nat)} (h : w.ownsRow base 83 2 v ms.length (mvC ms)) : ResM w base v (mvI ms) := by
  rcases h.2 with ⟨rfl, h0⟩ | ⟨g, cap, cur, rfl, hb, hg, hc, _, hs, ht⟩
  · exact .inl ⟨rfl, by rw [List.eq_nil_of_length_eq_zero h0]; rfl⟩
  · refine .inr ⟨g, cap, by rw [mvI_length], hb, cur, hg, by rw [mvI_length]; omega, fun i hi => ?_⟩
    have hi' : i < ms.length := by rw [mvI_length] at hi; exact hi
    obtain ⟨a, b⟩ := mvC_at ms i hi'
    rw [← ht] at a b
    rw [List.getElem?_take, if_pos (by omega), Array.getElem?_toList] at a b
    have e : (mvI ms)[i] = ((ms[i].1 : Int), (ms[i].2 : Int)) := by simp [mvI]
    rw [e]
    exact ⟨a, b⟩

set_option maxHeartbeats 1000000 in
theorem eqMv_same (f t : Int) (w : World) :
    Calls Tryd.prog 51 #[.agg #[.int .i16 f, .int .i16 t], .agg #[.int .i16 f, .int .i16 t]] w fun e w' => e = .returned (.bool true) ∧ Below w.heap.size w w' := by
  go_enter Tryd.func51, Tryd.ntmps51
  go_wp2
  go_ret
  exact ⟨rfl, by go_grown⟩

set_option maxHeartbeats 4000000 in
theorem eqMvS_same (v1 v2 : Value) (b1 b2 : Nat) (ms : List (Int × Int)) (w : World) (hs1 : ResM w b1 v1 ms) (hs2 : ResM w b2 v2 ms) (hn : ms.length ≤ 300) :
    Calls Tryd.prog 20 #[v1, v2] w fun e w' => e = .returned (.bool true) ∧ Below w.heap.size w w' := by
  have H1 := Lib.hid hs1
  have H2 := Lib.hid hs2
  obtain ⟨A1, k1, rfl⟩ : ∃ A k, v1 = .slice A ms.length k := by
    rcases hs1 with ⟨rfl, rfl⟩ | ⟨g, N, rfl, _⟩
    · exact ⟨none, 0, rfl⟩
    · exact ⟨_, N, rfl⟩
  obtain ⟨A2, k2, rfl⟩ : ∃ A k, v2 = .slice A ms.length k := by
    rcases hs2 with ⟨rfl, rfl⟩ | ⟨g, N, rfl, _⟩
    · exact ⟨none, 0, rfl⟩
    · exact ⟨_, N, rfl⟩
  clear hs1 hs2
  have at_ : ∀ (W : World) (A : Option Addr) (k b : Nat) (i : Nat) (hi : i < ms.length), ResM W b (.slice A ms.length k) ms → ∃ g, A = some ⟨g, 0, none⟩ ∧ g < W.heap.size ∧ W.cell? ⟨g, i * 2, none⟩ = some (.int .i16 ms[i].1) ∧ W.cell? ⟨g, i * 2 + 1, none⟩ = some (.int .i16 ms[i].2) := by
    intro W A k b i hi h
    rcases h with ⟨_, rfl⟩ | ⟨g, N, e, h1, cs, h2, h3, h4⟩
    · exact absurd hi (Nat.not_lt_zero _)
    · injection e with e1 _ _
      exact ⟨g, e1, (Array.getElem?_eq_some_iff.1 h2).1, (cell_of_row W g _ cs _ _ h2).trans (h4 i hi).1, (cell_of_row W g _ cs _ _ h2).trans (h4 i hi).2⟩
  have AT := Lib.hid at_
  clear at_
  go_enter Tryd.func20, Tryd.ntmps20
  go_wp2
  go_loopw [5] (fun i wr => ∃ k : Nat, k ≤ ms.length ∧ i = .int .i64 k ∧ Below w.heap.size w wr) (fun i _ => ms.length - (intOf i).toNat)
  case atStart => exact ⟨0, Nat.zero_le _, rfl, Below.refl _ _⟩
  case round =>
    obtain ⟨k, hk, rfl, hb⟩ := hrel
    by_cases hlt : k < ms.length
    · obtain ⟨g1, rfl, z1, p0, p1⟩ := AT.out _ _ _ _ k hlt (H1.out.below hb)
      obtain ⟨g2, rfl, z2, q0, q1⟩ := AT.out _ _ _ _ k hlt (H2.out.below hb)
      have p0 := belowBy_cell z1 p0; have p1 := belowBy_cell z1 p1
      have q0 := belowBy_cell z2 q0; have q1 := belowBy_cell z2 q1
      go_wp2
      refine wp_region_below (by kernel_rfl) (by kernel_rfl) ?_
      repeat (quiet_step ((go_at_call 51; exact calls_below (eqMv_same _ _ _))))
      refine wpQuiet_nil ?_
      rintro _ ⟨⟨wq, hq⟩, rfl⟩
      clear p0 p1 q0 q1
      go_wp2
      go_roundw
      case rel => exact ⟨k + 1, by omega, by go_num, hb.trans (hq.mono hb.size)⟩
      case measure => simp [intOf]; omega
    · obtain rfl : k = ms.length := by omega
      go_wp2
      go_ret
      exact ⟨rfl, hb⟩

/-! ### marks -/
def mkM (n : Nat) : List (Int × Int) := (List.range n).map (fun j : Nat => (1 + 2 * (j : Int), 1 + 2 * (j : Int) + 1))
theorem mkM_length (n : Nat) : (mkM n).length = n := by simp [mkM]
theorem mkM_get {n i : Nat} (h : i < (mkM n).length) : (mkM n)[i] = (1 + 2 * (i : Int), 1 + 2 * (i : Int) + 1) := by simp [mkM]
/-- Block g, the first j moves of which are marked. -/
def MkR (w : World) (g n j : Nat) : Prop := ∃ cs : Array Value, w.heap[g]? = some (.cells cs 83 (0, 0)) ∧ n * 2 ≤ cs.size ∧ ∀ i, i < j → cs[i * 2]? = some (.int .i16 (1 + 2 * (i : Int))) ∧ cs[i * 2 + 1]? = some (.int .i16 (1 + 2 * (i : Int) + 1))
theorem MkR.cell {w : World} {g n j : Nat} (h : MkR w g n j) (o : Nat) (ho : o < n * 2) : ∃ u, w.cell? ⟨g, o, none⟩ = some u := by
  obtain ⟨cs, h1, h2, _⟩ := h
  exact ⟨_, (cell_of_row w g _ cs _ _ h1).trans (Array.getElem?_eq_getElem (by omega))⟩
theorem MkR.frozen {w : World} {g n j : Nat} (h : MkR w g n j) (o : Nat) : w.frozen? ⟨g, o, none⟩ = false := by
  obtain ⟨cs, h1, _⟩ := h
  exact frozen_of_row w g _ cs _ h1
theorem MkR.step {w : World} {g n j : Nat} (h : MkR w g n j) (hj : j < n) : MkR ((w.setCell ⟨g, j * 2, none⟩ (.int .i16 (1 + 2 * (j : Int)))).setCell ⟨g, j * 2 + 1, none⟩ (.int .i16 (1 + 2 * (j : Int) + 1))) g n (j + 1) := by
  obtain ⟨cs, h1, h2, h3⟩ := h
  refine ⟨_, heap_setCell_same _ _ _ _ _ _ (heap_setCell_same _ _ _ _ _ _ h1), by simpa using h2, fun i hi => ?_⟩
  simp only [Array.getElem?_setIfInBounds, Array.size_setIfInBounds]
  by_cases e : i = j
  · subst e
    rw [if_neg (by omega), if_pos rfl, if_pos (by omega), if_pos rfl, if_pos (by omega)]
    exact ⟨rfl, rfl⟩
  · obtain ⟨a, b⟩ := h3 i (by omega)
    rw [if_neg (by omega), if_neg (by omega), if_neg (by omega), if_neg (by omega)]
    exact ⟨a, b⟩

set_option maxHeartbeats 4000000 in
theorem markMv_any (v : Value) (base : Nat) (ms : List (Int × Int)) (w : World) (h : ResM w base v ms) (hn : ms.length ≤ 300) :
    Calls Tryd.prog 21 #[v, .int .i64 1] w fun e w' => e = .returned (.int .i64 (1 + 2 * (ms.length : Int))) ∧ ResM w' base v (mkM ms.length) ∧ w.grownBy w' v.ownBlock := by
  rcases h with ⟨rfl, rfl⟩ | ⟨g, N, rfl, h1, cs, h2, h3, -⟩
  · go_enter Tryd.func21, Tryd.ntmps21
    go_wp2
    refine wp_loop_rounds 1 ?_
    rw [rounds_succ]
    go_wp2
    go_ret
    exact ⟨rfl, .inl ⟨rfl, rfl⟩, World.grownBy.refl w _⟩
  · have H0 := Lib.hid (show MkR w g ms.length 0 from ⟨cs, h2, h3, fun i hi => absurd hi (Nat.not_lt_zero _)⟩)
    obtain ⟨n, hnn⟩ : ∃ n, ms.length = n := ⟨_, rfl⟩
    rw [hnn] at hn H0 ⊢
    clear h2 h3 hnn
    go_enter Tryd.func21, Tryd.ntmps21
    go_wp2
    go_loopw [1, 5] (fun x_ i wr => ∃ (j : Nat) (y : Int), y = 1 + 2 * (j : Int) ∧ j ≤ n ∧ i = .int .i64 (j : Int) ∧ x_ = .int .i64 y ∧ MkR wr g n j ∧ w.grownBy wr (some g)) (fun _ i _ => n - (intOf i).toNat)
    case atStart => exact ⟨0, 1, rfl, Nat.zero_le _, rfl, rfl, H0.out, World.grownBy.refl w _⟩
    case round =>
      obtain ⟨j, y, hy, hj, rfl, rfl, hrow, hgr⟩ := hrel
      have HG := Lib.hid hgr
      have HW := Lib.hid hrow
      have y0 : 1 ≤ y := by omega
      have y1 : y ≤ 1000 := by omega
      have HY := Lib.hid hy
      clear hgr hy
      by_cases hlt : j < n
      · obtain ⟨u0, c0⟩ := hrow.cell (j * 2) (by omega)
        obtain ⟨u1, c1⟩ := hrow.cell (j * 2 + 1) (by omega)
        have fz := hrow.frozen
        have ST := Lib.hid (hrow.step hlt)
        rw [← HY.out] at ST
        have hw1 : IntKind.i16.wrap y = y := IntWalk.i16_in _ (by omega)
        have hw2 : IntKind.i16.wrap (y + 1) = y + 1 := IntWalk.i16_in _ (by omega)
        clear hrow
        go_wp2
        go_roundw
        case rel => exact ⟨j + 1, y + 1 + 1, by have := HY.out; omega, by omega, by go_num, rfl, ST.out, only_set2 (only_set2 HG.out _ _) _ _⟩
        case measure => simp [intOf]; omega
      · obtain rfl : j = n := by omega
        clear hrow
        go_wp2
        go_ret
        obtain ⟨cs, h2, h3, h4⟩ := HW.out
        exact ⟨by rw [← HY.out]; rfl, .inr ⟨g, N, by rw [mkM_length], h1, cs, h2, by rw [mkM_length]; exact h3, fun i hi => by rw [mkM_get]; rw [mkM_length] at hi; exact h4 i hi⟩, HG.out⟩

set_option maxHeartbeats 4000000 in
theorem heldMv_any (v : Value) (base n : Nat) (w : World) (h : ResM w base v (mkM n)) (hn : n ≤ 300) :
    Calls Tryd.prog 22 #[v, .int .i64 1] w fun e w' => e = .returned (.int .i64 (1 + 2 * (n : Int))) ∧ w = w' := by
  rcases h with ⟨rfl, h0⟩ | ⟨g, N, rfl, h1, cs, h2, h3, h4⟩
  · obtain rfl : n = 0 := by have := congrArg List.length h0; rw [mkM_length] at this; simpa using this
    go_enter Tryd.func22, Tryd.ntmps22
    go_wp2
    refine wp_loop_rounds 1 ?_
    rw [rounds_succ]
    go_wp2
    go_ret
    exact ⟨rfl, rfl⟩
  · have HC := Lib.hid (fun (i : Nat) (hi : i < n) => show w.cell? ⟨g, i * 2, none⟩ = some (.int .i16 (1 + 2 * (i : Int))) ∧ w.cell? ⟨g, i * 2 + 1, none⟩ = some (.int .i16 (1 + 2 * (i : Int) + 1)) by
      obtain ⟨a, b⟩ := h4 i (by rw [mkM_length]; exact hi)
      rw [mkM_get] at a b
      exact ⟨(cell_of_row w g _ cs _ _ h2).trans a, (cell_of_row w g _ cs _ _ h2).trans b⟩)
    rw [mkM_length]
    clear h2 h3 h4
    go_enter Tryd.func22, Tryd.ntmps22
    go_wp2
    go_loopw [1, 5] (fun x_ i wr => ∃ (j : Nat) (y : Int), y = 1 + 2 * (j : Int) ∧ j ≤ n ∧ i = .int .i64 (j : Int) ∧ x_ = .int .i64 y ∧ w = wr) (fun _ i _ => n - (intOf i).toNat)
    case atStart => exact ⟨0, 1, rfl, Nat.zero_le _, rfl, rfl, rfl⟩
    case round =>
      obtain ⟨j, y, hy, hj, rfl, rfl, hw⟩ := hrel
      subst hw
      have y0 : 1 ≤ y := by omega
      have y1 : y ≤ 1000 := by omega
      have HY := Lib.hid hy
      clear hy
      by_cases hlt : j < n
      · obtain ⟨c0, c1⟩ := HC.out j hlt
        rw [← HY.out] at c0 c1
        have hw1 : IntKind.i16.wrap y = y := IntWalk.i16_in _ (by omega)
        have hw2 : IntKind.i16.wrap (y + 1) = y + 1 := IntWalk.i16_in _ (by omega)
        go_wp2
        go_roundw
        case rel => exact ⟨j + 1, y + 1 + 1, by have := HY.out; omega, by omega, by go_num, rfl, by first | rfl | trivial⟩
        case measure => simp [intOf]; omega
      · obtain rfl : j = n := by omega
        go_wp2
        go_ret
        exact ⟨by rw [← HY.out]; rfl, rfl⟩

end Go.Proofs.YtkojnepgeegalaaDoor
