/- Moves as plain data: how they read when they come in; the law's copies, comparisons and marks: contracts. Condition: no longer than the law tests. -/
import Derived.Test.YtkclobdealnkhaaDoorTab
namespace Go.Proofs.YtkclobdealnkhaaDoor
set_option linter.unusedSimpArgs false
set_option linter.unusedVariables false
set_option maxRecDepth 100000
open Go.ChangeShapes Go.WideShapes Go.ChangeAt Go.RowKit Go.Deep

structure Mv where
  f : Int
  t : Int
  deriving DecidableEq, Inhabited
structure Mv.Wf (m : Mv) : Prop where
  f : -32768 ≤ m.f ∧ m.f ≤ 32767
  t : -32768 ≤ m.t ∧ m.t ≤ 32767
def MovesAt (w : World) (g o : Nat) (ms : List Mv) : Prop := ∀ (i : Nat) (hi : i < ms.length), w.cell? ⟨g, o + i * 2, none⟩ = some (.int .i16 ms[i].f) ∧ w.cell? ⟨g, o + i * 2 + 1, none⟩ = some (.int .i16 ms[i].t)
def MovesOf (w : World) (v : Value) (ms : List Mv) : Prop :=
  ∃ A c, v = .slice A ms.length c ∧ (0 < ms.length → ∃ g o, A = some ⟨g, o, none⟩ ∧ g < w.heap.size ∧ MovesAt w g o ms)
theorem MovesAt.below {w w' : World} {B g o : Nat} {ms : List Mv} (h : MovesAt w g o ms) (hb : Below B w w') (hg : g < B) : MovesAt w' g o ms :=
  fun i hi => ⟨(hb.cell (p := ⟨g, o + i * 2, none⟩) hg).trans (h i hi).1, (hb.cell (p := ⟨g, o + i * 2 + 1, none⟩) hg).trans (h i hi).2⟩
theorem MovesOf.below {w w' : World} {v : Value} {ms : List Mv} (h : MovesOf w v ms) (hb : Below w.heap.size w w') : MovesOf w' v ms := by
  obtain ⟨A, c, rfl, h⟩ := h
  refine ⟨A, c, rfl, fun h0 => ?_⟩
  obtain ⟨g, o, rfl, hg, hh⟩ := h h0
  exact ⟨g, o, rfl, Nat.lt_of_lt_of_le hg hb.size, hh.below hb hg⟩

theorem cellsMove : Tryd.prog.cellsOf 78 = 2 := by kernel_rfl
section
variable {H : Type} {enc : TypeId × Value → H} {w : World} {base : Nat} {spare : Nat → Bool} {held : Bool}
theorem move_of_trod {fuel : Nat} {cs : List Value} {x : DataW H × List MemPlace} (h : DataW.trod enc Tryd.prog w base spare held fuel 78 cs = some x) : ∃ m : Mv, m.Wf ∧ cs = [.int .i16 m.f, .int .i16 m.t] := by
  obtain ⟨xs, n, _, _, hlen, hxl, hf⟩ := DataW.trod_struct Tryd.underlying78 h
  rw [cellsMove] at hlen
  match cs, hlen with
  | [c0, c1], _ =>
    match xs, hxl with
    | [y0, y1], _ =>
      have h0 : DataW.trod enc Tryd.prog w base spare held n 24 ((List.drop 0 [c0, c1]).take (Tryd.prog.cellsOf 24)) = some y0 := hf 0 _ rfl
      have h1 : DataW.trod enc Tryd.prog w base spare held n 24 ((List.drop 1 [c0, c1]).take (Tryd.prog.cellsOf 24)) = some y1 := hf 1 _ rfl
      simp only [cells16, List.drop_zero, List.drop_succ_cons, List.take_succ_cons, List.take_zero] at h0 h1
      obtain ⟨a0, e0, _, w0⟩ := DataW.trod_int Tryd.underlying24 h0
      obtain ⟨a1, e1, _, w1⟩ := DataW.trod_int Tryd.underlying24 h1
      simp only [List.cons.injEq, and_true] at e0 e1
      subst e0 e1
      exact ⟨⟨a0, a1⟩, ⟨bounds_i16 w0, bounds_i16 w1⟩, rfl⟩
/-- Moves that came in. -/
theorem moves_of_arg {r : Reach} {b0 : Nat} {v : Value} {d : DataW H} {p : List MemPlace} (hv : Value.okWide Tryd.prog w r b0 34 v) (h : DataW.Trod enc Tryd.prog w base spare held 34 v d p) :
    ∃ ms : List Mv, (∀ m ∈ ms, m.Wf) ∧ MovesOf w v ms ∧ ms.length ≤ maxLen := by
  obtain ⟨a, len, cap, rfl⟩ := okWide_slice Tryd.underlying34 hv
  obtain ⟨fuel, hf⟩ := h
  rcases open_slice Tryd.underlying34 hf with ⟨hcs, _⟩ | ⟨a', l', c', m, n, D, Pl, hcs, _, hl, hm, hmm, _, hi⟩
  · simp [Value.cells] at hcs
    obtain ⟨rfl, rfl, rfl⟩ := hcs
    exact ⟨[], by simp, ⟨_, _, rfl, fun h => absurd h (Nat.lt_irrefl _)⟩, by simp⟩
  · simp [Value.cells] at hcs
    obtain ⟨rfl, rfl, rfl⟩ := hcs
    have hlm : len ≤ m := by rw [hmm]; split <;> omega
    obtain ⟨ms, hxl, hx⟩ := list_ofG len (fun i (b : Mv) => b.Wf ∧ w.cells? base (a'.add (i * Tryd.prog.cellsOf 78)) (Tryd.prog.cellsOf 78) = some [.int .i16 b.f, .int .i16 b.t]) (fun i h => by
      obtain ⟨cs', h1, h2⟩ := hi i (by omega)
      obtain ⟨b, hb, rfl⟩ := move_of_trod h2
      exact ⟨b, hb, h1⟩)
    subst hxl
    refine ⟨ms, fun b hb => ?_, ⟨_, _, rfl, fun h0 => ?_⟩, by omega⟩
    · obtain ⟨i, hi, rfl⟩ := List.getElem_of_mem hb
      exact (hx i hi).1
    · have hc : ∀ i (hi : i < ms.length) (j : Nat), j < 2 → w.cell? (a'.add (i * 2 + j)) = [Value.int .i16 ms[i].f, Value.int .i16 ms[i].t][j]? := by
        intro i hi j hj
        have h2 := (hx i hi).2
        rw [cellsMove] at h2
        have h3 := (World.cells?_some h2).2.2 j hj
        rw [← h3, add_add]
      have hs : a'.spot = none := by
        have h1 : w.cell? (a'.add (0 * 2 + 0)) = some _ := hc 0 h0 0 (by omega)
        simpa [Addr.add] using World.cell?_spot h1
      obtain ⟨g, o, sp⟩ := a'
      simp only at hs
      subst hs
      refine ⟨g, o, rfl, ?_, fun i hi => ⟨?_, ?_⟩⟩
      · have h1 : w.cell? (Addr.add ⟨g, o, none⟩ (0 * 2 + 0)) = some _ := hc 0 h0 0 (by omega)
        have h2 := block_lt_of_cell h1
        rwa [block_of_add] at h2
      · have h1 := hc i hi 0 (by omega)
        rw [Addr.add_lit] at h1
        exact h1
      · have h1 := hc i hi 1 (by omega)
        rw [Addr.add_lit, ← Nat.add_assoc] at h1
        exact h1
end

set_option maxHeartbeats 1000000 in
theorem szMoveS_left (A : Option Addr) (n c : Nat) (L : Int) (w : World) (hn : n ≤ 9223372036854775807) (h0 : 0 ≤ L) (h1 : L ≤ 1048576) :
    Calls Tryd.prog 13 #[.slice A n c, .int .i64 L] w fun e w' => e = .returned (.int .i64 (if (n : Int) ≤ L then L - (n : Int) else -1)) ∧ w = w' := by
  by_cases h : (n : Int) ≤ L
  · have h' : ¬ (L - (n : Int) < 0) := by omega
    rw [if_pos h]
    go_enter Tryd.func13, Tryd.ntmps13
    go_wp2
    go_ret
    exact ⟨rfl, rfl⟩
  · have h' : (L - (n : Int) < 0) := by omega
    rw [if_neg h]
    go_enter Tryd.func13, Tryd.ntmps13
    go_wp2
    go_ret
    exact ⟨rfl, rfl⟩

/-- Block g is a row of n moves, the first k of which are those of the list. -/
def MRowK (w : World) (g : Nat) (ms : List Mv) (k n : Nat) : Prop :=
  ∃ cs : Array Value, w.heap[g]? = some (.cells cs 26 (0, 0)) ∧ cs.size = n * 2 ∧ ∀ (i : Nat) (hi : i < ms.length), i < k → cs[i * 2]? = some (.int .i16 ms[i].f) ∧ cs[i * 2 + 1]? = some (.int .i16 ms[i].t)
def MRow (w : World) (g : Nat) (ms : List Mv) : Prop := MRowK w g ms ms.length ms.length
theorem MRowK.lt {w : World} {g k n : Nat} {ms : List Mv} (h : MRowK w g ms k n) : g < w.heap.size := by
  obtain ⟨cs, h, _⟩ := h
  exact (Array.getElem?_eq_some_iff.1 h).1
theorem MRowK.below {w w' : World} {B g k n : Nat} {ms : List Mv} (h : MRowK w g ms k n) (hb : Below B w w') (hg : g < B) : MRowK w' g ms k n := by
  obtain ⟨cs, h, h2⟩ := h
  exact ⟨cs, (hb.block g hg).trans h, h2⟩
theorem MRowK.cell {w : World} {g k n : Nat} {ms : List Mv} (h : MRowK w g ms k n) (o : Nat) (ho : o < n * 2) : ∃ u, w.cell? ⟨g, o, none⟩ = some u := by
  obtain ⟨cs, h, h2, _⟩ := h
  rw [cell_of_row w g _ cs _ _ h]
  exact ⟨cs[o]'(by omega), Array.getElem?_eq_getElem (by omega)⟩
theorem MRowK.frozen {w : World} {g k n : Nat} {ms : List Mv} (h : MRowK w g ms k n) (o : Nat) : w.frozen? ⟨g, o, none⟩ = false := by
  obtain ⟨cs, h, _⟩ := h
  exact frozen_of_row w g _ cs _ h
theorem MRowK.step {w : World} {g k n : Nat} {ms : List Mv} (h : MRowK w g ms k n) (hk : k < ms.length) (hn : k < n) : MRowK ((w.setCell ⟨g, k * 2, none⟩ (.int .i16 ms[k].f)).setCell ⟨g, k * 2 + 1, none⟩ (.int .i16 ms[k].t)) g ms (k + 1) n := by
  obtain ⟨cs, h1, h2, h3⟩ := h
  refine ⟨_, heap_setCell_same _ _ _ _ _ _ (heap_setCell_same _ _ _ _ _ _ h1), by simpa using h2, fun i hi hik => ?_⟩
  simp only [Array.getElem?_setIfInBounds, Array.size_setIfInBounds, h2]
  by_cases e : i = k
  · subst e
    constructor
    · rw [if_neg (by omega), if_pos (by omega), if_pos (by omega)]
    · rw [if_pos (by omega), if_pos (by omega)]
  · rw [if_neg (by omega), if_neg (by omega), if_neg (by omega), if_neg (by omega)]
    exact h3 i hi (by omega)
theorem MRow.slice {w : World} {g : Nat} {ms : List Mv} (h : MRow w g ms) : MovesOf w (.slice (some ⟨g, 0, none⟩) ms.length ms.length) ms := by
  have hlt := MRowK.lt h
  obtain ⟨cs, h1, h2, h3⟩ := h
  refine ⟨_, _, rfl, fun _ => ⟨g, 0, rfl, hlt, fun i hi => ?_⟩⟩
  rw [cell_of_row w g _ cs _ _ h1, cell_of_row w g _ cs _ _ h1, Nat.zero_add]
  exact h3 i hi hi
theorem infoMove : (Tryd.prog.info? 26).map (fun i => (i.zero, i.size, i.bytes)) = some (some (.agg #[.int .i16 0, .int .i16 0]), 2, 4) := by kernel_rfl
theorem MRowK.made (w : World) (zs : Array Value) (ms : List Mv) (n : Nat) : MRowK (w.alloc (.cells (madeCells zs (n * 2)) 26)) w.heap.size ms 0 n :=
  ⟨_, heap_alloc_new w _, size_madeCells _ _, fun _ _ h => absurd h (Nat.not_lt_zero _)⟩

set_option maxHeartbeats 1000000 in
theorem toMove_any (m : Mv) (w : World) :
    Calls Tryd.prog 41 #[.agg #[.int .i16 m.f, .int .i16 m.t]] w fun e w' => e = .returned (.agg #[.int .i16 m.f, .int .i16 m.t]) ∧ Below w.heap.size w w' := by
  go_enter Tryd.func41, Tryd.ntmps41
  go_wp2
  go_returns
  exact ⟨rfl, by go_grown⟩
set_option maxHeartbeats 2000000 in
theorem toMoveS_any (v : Value) (ms : List Mv) (w : World) (hs : MovesOf w v ms) (hn : ms.length ≤ 1048576) :
    Calls Tryd.prog 15 #[v] w fun e w' => ∃ g, e = .returned (.slice (some ⟨g, 0, none⟩) ms.length ms.length) ∧ w.heap.size ≤ g ∧ MRow w' g ms ∧ Below w.heap.size w w' := by
  obtain ⟨A, c, rfl, hs⟩ := hs
  obtain ⟨i0, hi, hz0, hz1, hz2⟩ := info_parts infoMove
  have hmk := fun W => run_make_rowN (P := Tryd.prog) 38 26 i0 _ Tryd.underlying38 hi hz0 .i64 .i64 ms.length ms.length (Nat.le_refl _) (by rw [hz2]; omega) (by omega) W
  rw [hz1] at hmk
  have HM := Lib.hid (MRowK.made w (Value.agg #[.int .i16 0, .int .i16 0]).cells ms ms.length)
  have HS := Lib.hid hs
  clear hi hz0 hz1 hz2 hs
  go_enter Tryd.func15, Tryd.ntmps15
  go_wp2
  go_loopw [4] (fun i wr => ∃ k : Nat, k ≤ ms.length ∧ i = .int .i64 k ∧ MRowK wr w.heap.size ms k ms.length ∧ Below w.heap.size w wr) (fun i _ => ms.length - (intOf i).toNat)
  case atStart => exact ⟨0, Nat.zero_le _, rfl, HM.out, (Below.refl _ _).alloc (Nat.le_refl _) _⟩
  case round =>
    obtain ⟨k, hk, rfl, hrow, hb⟩ := hrel
    by_cases hlt : k < ms.length
    · obtain ⟨ga, oa, rfl, hga, hat⟩ := HS.out (by omega)
      obtain ⟨p0, p1⟩ := hat.below hb hga k hlt
      have HR := Lib.hid hrow
      clear hat hrow
      go_wp2_with fail
      refine (toMove_any ms[k] _).mono ?_
      rintro e w1 ⟨rfl, h1⟩
      have hr1 := HR.out.below h1 HR.out.lt
      obtain ⟨u0, q0⟩ := hr1.cell (k * 2) (by omega)
      obtain ⟨u1, q1⟩ := hr1.cell (k * 2 + 1) (by omega)
      have fz := hr1.frozen
      go_wp2
      go_roundw
      case rel => exact ⟨k + 1, by omega, by go_num, hr1.step hlt hlt, ((hb.trans (h1.mono hb.size)).setCell (p := ⟨_, _, none⟩) (Nat.le_refl _) _).setCell (p := ⟨_, _, none⟩) (Nat.le_refl _) _⟩
      case measure => simp [intOf]; omega
    · obtain rfl : k = ms.length := by omega
      have HR := Lib.hid hrow
      clear hrow
      go_wp2
      go_ret
      exact ⟨_, rfl, Nat.le_refl _, HR.out, hb⟩

set_option maxHeartbeats 1000000 in
theorem eqMove_same (m : Mv) (w : World) :
    Calls Tryd.prog 11 #[.agg #[.int .i16 m.f, .int .i16 m.t], .agg #[.int .i16 m.f, .int .i16 m.t]] w fun e w' => e = .returned (.bool true) ∧ Below w.heap.size w w' := by
  go_enter Tryd.func11, Tryd.ntmps11
  go_wp2
  go_ret
  exact ⟨rfl, by go_grown⟩

set_option maxHeartbeats 2000000 in
theorem eqMoveS_same (v1 v2 : Value) (ms : List Mv) (w : World) (hs1 : MovesOf w v1 ms) (hs2 : MovesOf w v2 ms) (hn : ms.length ≤ maxLen) :
    Calls Tryd.prog 17 #[v1, v2] w fun e w' => e = .returned (.bool true) ∧ Below w.heap.size w w' := by
  obtain ⟨A1, k1, rfl, hs1⟩ := hs1
  obtain ⟨A2, k2, rfl, hs2⟩ := hs2
  unfold maxLen at hn
  have H1 := Lib.hid hs1
  have H2 := Lib.hid hs2
  clear hs1 hs2
  go_enter Tryd.func17, Tryd.ntmps17
  go_wp2
  go_loopw [5] (fun i wr => ∃ k : Nat, k ≤ ms.length ∧ i = .int .i64 k ∧ Below w.heap.size w wr) (fun i _ => ms.length - (intOf i).toNat)
  case atStart => exact ⟨0, Nat.zero_le _, rfl, Below.refl _ _⟩
  case round =>
    obtain ⟨k, hk, rfl, hb⟩ := hrel
    by_cases hlt : k < ms.length
    · obtain ⟨g1, o1, rfl, hg1, ha1⟩ := H1.out (by omega)
      obtain ⟨g2, o2, rfl, hg2, ha2⟩ := H2.out (by omega)
      obtain ⟨p0, p1⟩ := ha1.below hb hg1 k hlt
      obtain ⟨q0, q1⟩ := ha2.below hb hg2 k hlt
      have z1 := Nat.lt_of_lt_of_le hg1 hb.size
      have z2 := Nat.lt_of_lt_of_le hg2 hb.size
      have p0 := belowBy_cell z1 p0; have p1 := belowBy_cell z1 p1
      have q0 := belowBy_cell z2 q0; have q1 := belowBy_cell z2 q1
      clear ha1 ha2
      go_wp2
      refine wp_region_below (by kernel_rfl) (by kernel_rfl) ?_
      repeat (quiet_step ((go_at_call 11; exact calls_below (eqMove_same _ _))))
      refine wpQuiet_nil ?_
      rintro _ ⟨⟨wq, hq⟩, rfl⟩
      clear p0 p1 q0 q1
      go_wp2
      go_roundw
      case rel => exact ⟨k + 1, by omega, by go_num, hb.trans (hq.mono hb.size)⟩
      case measure => simp [intOf]; omega
    · obtain rfl : k = ms.length := by omega
      go_wp2
      go_ret
      exact ⟨rfl, hb⟩

/-- Block g is a row of n moves. -/
def MRowG (w : World) (g n : Nat) : Prop := ∃ cs : Array Value, w.heap[g]? = some (.cells cs 26 (0, 0)) ∧ cs.size = n * 2
theorem MRowG.of {w : World} {g k n : Nat} {ms : List Mv} (h : MRowK w g ms k n) : MRowG w g n := by
  obtain ⟨cs, h1, h2, _⟩ := h
  exact ⟨cs, h1, h2⟩
theorem MRowG.set {w : World} {g n : Nat} (h : MRowG w g n) (o : Nat) (u : Value) : MRowG (w.setCell ⟨g, o, none⟩ u) g n := by
  obtain ⟨cs, h1, h2⟩ := h
  exact ⟨_, heap_setCell_same _ _ _ _ _ _ h1, by simpa using h2⟩
theorem MRowG.below {w w' : World} {B g n : Nat} (h : MRowG w g n) (hb : Below B w w') (hg : g < B) : MRowG w' g n := by
  obtain ⟨cs, h, h2⟩ := h
  exact ⟨cs, (hb.block g hg).trans h, h2⟩
theorem MRowG.kept {w w' : World} {g n : Nat} {row : Option Nat} (h : MRowG w g n) (hk : w.grownBy w' row) (hg : some g ≠ row) : MRowG w' g n := by
  obtain ⟨cs, h, h2⟩ := h
  exact ⟨cs, (hk.block g (Array.getElem?_eq_some_iff.1 h).1 hg).trans h, h2⟩
theorem MRowG.cell {w : World} {g n : Nat} (h : MRowG w g n) (o : Nat) (ho : o < n * 2) : ∃ u, w.cell? ⟨g, o, none⟩ = some u := by
  obtain ⟨cs, h, h2⟩ := h
  rw [cell_of_row w g _ cs _ _ h]
  exact ⟨cs[o]'(by omega), Array.getElem?_eq_getElem (by omega)⟩
theorem MRowG.frozen {w : World} {g n : Nat} (h : MRowG w g n) (o : Nat) : w.frozen? ⟨g, o, none⟩ = false := by
  obtain ⟨cs, h, _⟩ := h
  exact frozen_of_row w g _ cs _ h

end Go.Proofs.YtkclobdealnkhaaDoor
