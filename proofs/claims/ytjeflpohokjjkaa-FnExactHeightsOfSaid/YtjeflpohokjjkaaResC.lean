/- A list of books that a call hands back: how it reads, the law's marks in it, from any number on: contracts. Condition: at most 1048576 books. -/
import Derived.Maps.AppendAt
import Derived.Shelf.GgSortFunc.RowK
import Derived.Test.YtjeflpohokjjkaaToBookS
import Derived.Test.YtjeflpohokjjkaaFlat
import Derived.Test.YtjeflpohokjjkaaQuiet
import Derived.Test.YtjeflpohokjjkaaNums
import Derived.Test.YtjeflpohokjjkaaOwn
namespace Go.Proofs.Ytjeflpohokjjkaa
set_option linter.unusedSimpArgs false
set_option linter.unusedVariables false
set_option maxRecDepth 100000
open Go.RowKit Go.Sort

/-- Block g is a row of n books, whatever they are. -/
def RowG (w : World) (g n : Nat) : Prop := ∃ cs : Array Value, w.heap[g]? = some (.cells cs 46 (0, 0)) ∧ cs.size = n * 8

theorem RowG.set {w : World} {g n : Nat} (h : RowG w g n) (o : Nat) (u : Value) : RowG (w.setCell ⟨g, o, none⟩ u) g n := by
  obtain ⟨cs, h1, h2⟩ := h
  exact ⟨_, heap_setCell_same _ _ _ _ _ _ h1, by simpa using h2⟩
theorem RowG.of {w : World} {g k n : Nat} {xs : List Bk} (h : RowK w g xs k n) : RowG w g n := by
  obtain ⟨cs, h1, h2, _⟩ := h
  exact ⟨cs, h1, h2⟩
theorem RowG.below {w w' : World} {B g n : Nat} (h : RowG w g n) (hb : Below B w w') (hg : g < B) : RowG w' g n := by
  obtain ⟨cs, h, h2⟩ := h
  exact ⟨cs, (hb.block g hg).trans h, h2⟩
theorem RowG.cell {w : World} {g n : Nat} (h : RowG w g n) (o : Nat) (ho : o < n * 8) : ∃ u, w.cell? ⟨g, o, none⟩ = some u := by
  obtain ⟨cs, h, h2⟩ := h
  rw [cell_of_row w g _ cs _ _ h]
  exact ⟨cs[o]'(by omega), Array.getElem?_eq_getElem (by omega)⟩
theorem RowG.frozen {w : World} {g n : Nat} (h : RowG w g n) (o : Nat) : w.frozen? ⟨g, o, none⟩ = false := by
  obtain ⟨cs, h, _⟩ := h
  exact frozen_of_row w g _ cs _ h
/-- A book that is marked from the number y on. -/
def mkV (y : Int) : Bk := ⟨IntKind.i16.wrap y, IntKind.u8.wrap (y + 1), IntKind.u8.wrap (y + 1 + 1), IntKind.u8.wrap (y + 1 + 1 + 1), IntKind.i16.wrap (y + 1 + 1 + 1 + 1), IntKind.i16.wrap (y + 1 + 1 + 1 + 1 + 1), IntKind.i16.wrap (y + 1 + 1 + 1 + 1 + 1 + 1), IntKind.i16.wrap (y + 1 + 1 + 1 + 1 + 1 + 1 + 1)⟩
def mkB (k0 : Int) (j : Nat) : Bk := mkV (k0 + 8 * (j : Int))
def mkL (k0 : Int) (n : Nat) : List Bk := (List.range n).map (mkB k0)
theorem mkL_length (k0 : Int) (n : Nat) : (mkL k0 n).length = n := by simp [mkL]
theorem mkL_get {k0 : Int} {n i : Nat} (h : i < (mkL k0 n).length) : (mkL k0 n)[i] = mkB k0 i := by simp [mkL]

/-- Block g is a row of n books, the first j of which are marked. -/
def RowM (k0 : Int) (w : World) (g n j : Nat) : Prop := ∃ cs : Array Value, w.heap[g]? = some (.cells cs 46 (0, 0)) ∧ cs.size = n * 8 ∧ ∀ i, i < j → ∀ r, r < 8 → cs[i * 8 + r]? = (mkB k0 i).cells[r]?
theorem RowM.of {k0 : Int} {w : World} {g n : Nat} (h : RowG w g n) : RowM k0 w g n 0 := by
  obtain ⟨cs, h1, h2⟩ := h
  exact ⟨cs, h1, h2, fun i hi => absurd hi (Nat.not_lt_zero _)⟩
theorem RowM.g {k0 : Int} {w : World} {g n j : Nat} (h : RowM k0 w g n j) : RowG w g n := by
  obtain ⟨cs, h1, h2, _⟩ := h
  exact ⟨cs, h1, h2⟩
set_option maxHeartbeats 1000000 in
theorem RowM.step {k0 : Int} {w : World} {g n j : Nat} (h : RowM k0 w g n j) (hj : j < n) (v0 v1 v2 v3 v4 v5 v6 v7 : Value) (e : (mkB k0 j).cells = [v0, v1, v2, v3, v4, v5, v6, v7]) :
    RowM k0 ((((((((w.setCell ⟨g, j * 8, none⟩ v0).setCell ⟨g, j * 8 + 1, none⟩ v1).setCell ⟨g, j * 8 + 2, none⟩ v2).setCell ⟨g, j * 8 + 3, none⟩ v3).setCell ⟨g, j * 8 + 4, none⟩ v4).setCell ⟨g, j * 8 + 5, none⟩ v5).setCell ⟨g, j * 8 + 6, none⟩ v6).setCell ⟨g, j * 8 + 7, none⟩ v7) g n (j + 1) := by
  obtain ⟨cs, h1, h2, h3⟩ := h
  have s0 := heap_setCell_same _ g (j * 8) _ _ v0 h1
  have s1 := heap_setCell_same _ g (j * 8 + 1) _ _ v1 s0
  have s2 := heap_setCell_same _ g (j * 8 + 2) _ _ v2 s1
  have s3 := heap_setCell_same _ g (j * 8 + 3) _ _ v3 s2
  have s4 := heap_setCell_same _ g (j * 8 + 4) _ _ v4 s3
  have s5 := heap_setCell_same _ g (j * 8 + 5) _ _ v5 s4
  have s6 := heap_setCell_same _ g (j * 8 + 6) _ _ v6 s5
  have s7 := heap_setCell_same _ g (j * 8 + 7) _ _ v7 s6
  refine ⟨_, s7, by simpa using h2, fun i hi r hr => ?_⟩
  clear s0 s1 s2 s3 s4 s5 s6 s7
  simp only [Array.getElem?_setIfInBounds, Array.size_setIfInBounds, h2]
  by_cases hij : i = j
  · subst hij
    rw [e]
    have : r = 0 ∨ r = 1 ∨ r = 2 ∨ r = 3 ∨ r = 4 ∨ r = 5 ∨ r = 6 ∨ r = 7 := by omega
    rcases this with rfl | rfl | rfl | rfl | rfl | rfl | rfl | rfl
    all_goals (repeat first | rw [if_neg (by omega)] | rw [if_pos (by omega), if_pos (by omega)] | rw [if_pos (by omega)])
    all_goals rfl
  · have hlt : i < j := by omega
    rw [if_neg (by omega), if_neg (by omega), if_neg (by omega), if_neg (by omega), if_neg (by omega), if_neg (by omega), if_neg (by omega), if_neg (by omega)]
    exact h3 i hlt r hr
theorem RowM.slice {k0 : Int} {w : World} {g n N : Nat} (h : RowM k0 w g N n) (c : Nat) : SliceOf w (.slice (some ⟨g, 0, none⟩) n c) (mkL k0 n) := by
  obtain ⟨cs, h1, h2, h3⟩ := h
  refine ⟨_, c, by rw [mkL_length], fun _ => ⟨g, 0, rfl, (Array.getElem?_eq_some_iff.1 h1).1, fun i hi j v hv => ?_⟩⟩
  rw [mkL_get] at hv
  have hj : j < 8 := by have := (List.getElem?_eq_some_iff.1 hv).1; simpa [Bk.cells] using this
  have hi' : i < n := by rw [mkL_length] at hi; exact hi
  rw [cell_of_row w g _ cs _ _ h1, Nat.zero_add, h3 i hi' j hj]
  exact hv

set_option maxHeartbeats 8000000 in
theorem markBookS_val (g n N c : Nat) (k0 : Int) (w : World) (h : RowG w g N) (hN : n ≤ N) (hn : n ≤ 1048576) (hk0 : 0 ≤ k0) (hk1 : k0 ≤ 9000000) :
    Calls Try.prog 12 #[.slice (some ⟨g, 0, none⟩) n c, .int .i64 k0] w fun e w' => e = .returned (.int .i64 (k0 + 8 * n)) ∧ RowM k0 w' g N n ∧ w.grownBy w' (some g) := by
  have HR := Lib.hid (RowM.of (k0 := k0) h)
  clear h
  go_enter Try.func12, Try.ntmps12
  go_wp2
  go_loopw [1, 5, 6] (fun x i _ wr => ∃ (j : Nat) (y : Int), y = k0 + 8 * (j : Int) ∧ j ≤ n ∧ i = .int .i64 j ∧ x = .int .i64 y ∧ RowM k0 wr g N j ∧ w.grownBy wr (some g)) (fun _ i _ _ => n - (intOf i).toNat)
  case atStart => exact ⟨0, k0, by simp, Nat.zero_le _, rfl, rfl, HR.out, World.grownBy.refl w _⟩
  case round =>
    obtain ⟨j, y, hy, hj, rfl, rfl, hm, hgr⟩ := hrel
    have HG := Lib.hid hgr
    have HW := Lib.hid hm
    have hrow := hm.g
    clear hgr hm
    by_cases hlt : j < n
    · obtain ⟨u0, c0⟩ := hrow.cell (j * 8) (by omega)
      obtain ⟨u1, c1⟩ := hrow.cell (j * 8 + 1) (by omega)
      obtain ⟨u2, c2⟩ := hrow.cell (j * 8 + 2) (by omega)
      obtain ⟨u3, c3⟩ := hrow.cell (j * 8 + 3) (by omega)
      obtain ⟨u4, c4⟩ := hrow.cell (j * 8 + 4) (by omega)
      obtain ⟨u5, c5⟩ := hrow.cell (j * 8 + 5) (by omega)
      obtain ⟨u6, c6⟩ := hrow.cell (j * 8 + 6) (by omega)
      obtain ⟨u7, c7⟩ := hrow.cell (j * 8 + 7) (by omega)
      have fz := hrow.frozen
      have hy0 : 0 ≤ y := by omega
      have hy1 : y ≤ 18000000 := by omega
      have HY := Lib.hid hy
      clear hrow hy
      go_wp2
      refine wp_loop_rounds 4 ?_
      rw [rounds_succ]; go_wp2
      rw [rounds_succ]; go_wp2
      rw [rounds_succ]; go_wp2
      rw [rounds_succ]; go_wp2
      go_roundw
      case rel => exact ⟨j + 1, y + 1 + 1 + 1 + 1 + 1 + 1 + 1 + 1, by have := HY.out; omega, by omega, by go_num, rfl, HW.out.step (Nat.lt_of_lt_of_le hlt hN) _ _ _ _ _ _ _ _ (by rw [mkB, ← HY.out]; rfl), only_set2 (only_set2 (only_set2 (only_set2 (only_set2 (only_set2 (only_set2 (only_set2 HG.out _ _) _ _) _ _) _ _) _ _) _ _) _ _) _ _⟩
      case measure => simp [intOf]; omega
    · obtain rfl : j = n := by omega
      have HY := Lib.hid hy
      clear hy hrow
      go_wp2
      go_ret
      exact ⟨by rw [← HY.out]; rfl, HW.out, HG.out⟩

/-- No list, or a block of its own. -/
def ResB (w : World) (base : Nat) (v : Value) (ys : List Bk) : Prop :=
  (v = .slice none 0 0 ∧ ys = []) ∨ ∃ g N, v = .slice (some ⟨g, 0, none⟩) ys.length N ∧ base ≤ g ∧ RowK w g ys ys.length N ∧ ys.length ≤ N
theorem RowK.at_ {w : World} {g N : Nat} {ys : List Bk} (h : RowK w g ys ys.length N) : BooksAt w g 0 ys := by
  obtain ⟨cs, h, _, h3⟩ := h
  intro i hi j v hv
  rw [cell_of_row w g _ cs _ _ h, Nat.zero_add]
  exact h3 i hi hi j v hv
theorem ResB.slice {w : World} {base : Nat} {v : Value} {ys : List Bk} (h : ResB w base v ys) : SliceOf w v ys := by
  rcases h with ⟨rfl, rfl⟩ | ⟨g, N, rfl, hb, hr, hn⟩
  · exact ⟨none, 0, rfl, fun h => absurd h (Nat.lt_irrefl _)⟩
  · exact ⟨_, N, rfl, fun _ => ⟨g, 0, rfl, hr.lt, hr.at_⟩⟩
theorem ResB.below {w w' : World} {base : Nat} {v : Value} {ys : List Bk} (h : ResB w base v ys) (hb : Below w.heap.size w w') : ResB w' base v ys := by
  rcases h with h | ⟨g, N, rfl, h1, hr, hn⟩
  · exact .inl h
  · exact .inr ⟨g, N, rfl, h1, hr.below hb hr.lt, hn⟩
theorem ResB.mono {w : World} {base base' : Nat} {v : Value} {ys : List Bk} (h : ResB w base v ys) (hb : base' ≤ base) : ResB w base' v ys := by
  rcases h with h | ⟨g, N, rfl, h1, hr, hn⟩
  · exact .inl h
  · exact .inr ⟨g, N, rfl, Nat.le_trans hb h1, hr, hn⟩
theorem ResB.lt {w : World} {base : Nat} {v : Value} {ys : List Bk} (h : ResB w base v ys) : ∀ k, v.ownBlock = some k → base ≤ k ∧ k < w.heap.size := by
  intro k hk
  rcases h with ⟨rfl, _⟩ | ⟨g, N, rfl, h1, hr, hn⟩
  · cases hk
  · obtain rfl : g = k := by injection hk
    exact ⟨h1, hr.lt⟩
theorem ResB.other {w w' : World} {base : Nat} {v : Value} {ys : List Bk} {row : Option Nat} (h : ResB w base v ys) (hg : w.grownBy w' row) (hne : ∀ k, v.ownBlock = some k → some k ≠ row) : ResB w' base v ys := by
  rcases h with h | ⟨g, N, rfl, h1, hr, hn⟩
  · exact .inl h
  · obtain ⟨cs, e1, e2⟩ := hr
    exact .inr ⟨g, N, rfl, h1, ⟨cs, (hg.block g (Array.getElem?_eq_some_iff.1 e1).1 (hne g rfl)).trans e1, e2⟩, hn⟩
theorem flatB_at {ys : List Bk} {i j : Nat} (hi : i < ys.length) (hj : j < 8) : (flatB ys)[i * 8 + j]? = (ys[i].cells)[j]? := by
  have hl : i * 8 + j < (flatB ys).length := by rw [flatB_length]; omega
  have hu : (flatB ys)[i * 8 + j]? = some (flatB ys)[i * 8 + j] := List.getElem?_eq_getElem hl
  obtain ⟨hi', h1⟩ := flatB_get hu
  have e1 : (i * 8 + j) / 8 = i := by omega
  have e2 : (i * 8 + j) % 8 = j := by omega
  simp only [e1, e2] at h1
  rw [hu, h1]
theorem rowK_of_own {w : World} {base g n cap : Nat} {ys : List Bk} (h : w.ownsRow base 46 8 (.slice (some ⟨g, 0, none⟩) n cap) n (flatB ys)) (hn : n = ys.length) : base ≤ g ∧ RowK w g ys ys.length cap ∧ ys.length ≤ cap := by
  rcases h.2 with ⟨h, _⟩ | ⟨g', cap', cur, h, hb, hg, hc, _, hs, ht⟩
  · cases h
  · injection h with h1 h2 h3
    injection h1 with h1
    injection h1 with h1
    subst h1 h3 hn
    refine ⟨hb, ⟨cur, hg, hs, fun i hi _ j v hv => ?_⟩, hc⟩
    have hj : j < 8 := by have := (List.getElem?_eq_some_iff.1 hv).1; rwa [cells_len] at this
    have e := flatB_at hi hj
    rw [← ht, List.getElem?_take, if_pos (by omega), Array.getElem?_toList] at e
    rw [e]
    exact hv
theorem ResB.of {w : World} {base n : Nat} {v : Value} {ys : List Bk} (h : w.ownsRow base 46 8 v n (flatB ys)) (hn : n = ys.length) : ResB w base v ys := by
  rcases h.2 with ⟨rfl, h0⟩ | ⟨g, cap, cur, rfl, _⟩
  · exact .inl ⟨rfl, List.eq_nil_of_length_eq_zero (by omega)⟩
  · obtain ⟨h1, h2, h3⟩ := rowK_of_own h hn
    exact .inr ⟨g, cap, by rw [hn], h1, h2, h3⟩

theorem RowM.row {k0 : Int} {w : World} {g n N : Nat} (h : RowM k0 w g N n) : RowK w g (mkL k0 n) n N := by
  obtain ⟨cs, h1, h2, h3⟩ := h
  refine ⟨cs, h1, h2, fun i hi hik j v hv => ?_⟩
  rw [mkL_get] at hv
  have hj : j < 8 := by have := (List.getElem?_eq_some_iff.1 hv).1; rwa [cells_len] at this
  rw [h3 i hik j hj]
  exact hv

set_option maxHeartbeats 1000000 in
theorem markRes_any (v : Value) (ys : List Bk) (base : Nat) (k0 : Int) (w : World) (h : ResB w base v ys) (hn : ys.length ≤ 1048576) (hk0 : 0 ≤ k0) (hk1 : k0 ≤ 9000000) :
    Calls Try.prog 12 #[v, .int .i64 k0] w fun e w' => e = .returned (.int .i64 (k0 + 8 * (ys.length : Nat))) ∧ ResB w' base v (mkL k0 ys.length) ∧ w.grownBy w' v.ownBlock := by
  rcases h with ⟨rfl, rfl⟩ | ⟨g, N, rfl, h1, hr, hN⟩
  · go_enter Try.func12, Try.ntmps12
    go_wp2
    refine wp_loop_rounds 1 ?_
    rw [rounds_succ]
    go_wp2
    go_ret
    exact ⟨by simp, .inl ⟨rfl, rfl⟩, World.grownBy.refl w _⟩
  · refine (markBookS_val g ys.length N N k0 w ⟨_, hr.choose_spec.1, hr.choose_spec.2.1⟩ hN hn hk0 hk1).mono ?_
    rintro e w' ⟨rfl, hm, hg⟩
    exact ⟨rfl, .inr ⟨g, N, by rw [mkL_length], h1, by rw [mkL_length]; exact hm.row, by rw [mkL_length]; exact hN⟩, hg⟩

end Go.Proofs.Ytjeflpohokjjkaa
