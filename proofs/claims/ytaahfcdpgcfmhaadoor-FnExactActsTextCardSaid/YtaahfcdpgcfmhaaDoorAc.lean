/- Acts as plain data: how they read when they come in; the law's copies and comparisons: contracts. Condition: no longer than the law tests. -/
import Derived.Test.YtaahfcdpgcfmhaaDoorTab
namespace Go.Proofs.YtaahfcdpgcfmhaaDoor
set_option linter.unusedSimpArgs false
set_option linter.unusedVariables false
set_option maxRecDepth 100000
open Go.ChangeShapes Go.WideShapes Go.ChangeAt Go.RowKit Go.Deep

structure Ac where
  wt : Int
  wo : Int
  bo : Int
  deriving DecidableEq, Inhabited
structure Ac.Wf (a : Ac) : Prop where
  wt : -128 ≤ a.wt ∧ a.wt ≤ 127
  wo : -128 ≤ a.wo ∧ a.wo ≤ 127
  bo : -128 ≤ a.bo ∧ a.bo ≤ 127
def ActsAt (w : World) (g o : Nat) (ms : List Ac) : Prop := ∀ (i : Nat) (hi : i < ms.length), w.cell? ⟨g, o + i * 3, none⟩ = some (.int .i8 ms[i].wt) ∧ w.cell? ⟨g, o + i * 3 + 1, none⟩ = some (.int .i8 ms[i].wo) ∧ w.cell? ⟨g, o + i * 3 + 2, none⟩ = some (.int .i8 ms[i].bo)
def ActsOf (w : World) (v : Value) (ms : List Ac) : Prop :=
  ∃ A c, v = .slice A ms.length c ∧ (0 < ms.length → ∃ g o, A = some ⟨g, o, none⟩ ∧ g < w.heap.size ∧ ActsAt w g o ms)
theorem ActsAt.below {w w' : World} {B g o : Nat} {ms : List Ac} (h : ActsAt w g o ms) (hb : Below B w w') (hg : g < B) : ActsAt w' g o ms :=
  fun i hi => ⟨(hb.cell (p := ⟨g, o + i * 3, none⟩) hg).trans (h i hi).1, (hb.cell (p := ⟨g, o + i * 3 + 1, none⟩) hg).trans (h i hi).2.1, (hb.cell (p := ⟨g, o + i * 3 + 2, none⟩) hg).trans (h i hi).2.2⟩
theorem ActsOf.below {w w' : World} {v : Value} {ms : List Ac} (h : ActsOf w v ms) (hb : Below w.heap.size w w') : ActsOf w' v ms := by
  obtain ⟨A, c, rfl, h⟩ := h
  refine ⟨A, c, rfl, fun h0 => ?_⟩
  obtain ⟨g, o, rfl, hg, hh⟩ := h h0
  exact ⟨g, o, rfl, Nat.lt_of_lt_of_le hg hb.size, hh.below hb hg⟩

theorem cellsAct : Tryd.prog.cellsOf 87 = 3 := by kernel_rfl
theorem cellsI8 : Tryd.prog.cellsOf 85 = 1 := by kernel_rfl
section
variable {H : Type} {enc : TypeId × Value → H} {w : World} {base : Nat} {spare : Nat → Bool} {held : Bool}
theorem act_of_trod {fuel : Nat} {cs : List Value} {x : DataW H × List MemPlace} (h : DataW.trod enc Tryd.prog w base spare held fuel 87 cs = some x) : ∃ p : Ac, p.Wf ∧ cs = [.int .i8 p.wt, .int .i8 p.wo, .int .i8 p.bo] := by
  obtain ⟨xs, n, _, _, hlen, hxl, hf⟩ := DataW.trod_struct Tryd.underlying87 h
  rw [cellsAct] at hlen
  match cs, hlen with
  | [c0, c1, c2], _ =>
    match xs, hxl with
    | [y0, y1, y2], _ =>
      have h0 : DataW.trod enc Tryd.prog w base spare held n 85 ((List.drop 0 [c0, c1, c2]).take (Tryd.prog.cellsOf 85)) = some y0 := hf 0 _ rfl
      have h1 : DataW.trod enc Tryd.prog w base spare held n 85 ((List.drop 1 [c0, c1, c2]).take (Tryd.prog.cellsOf 85)) = some y1 := hf 1 _ rfl
      have h2 : DataW.trod enc Tryd.prog w base spare held n 85 ((List.drop 2 [c0, c1, c2]).take (Tryd.prog.cellsOf 85)) = some y2 := hf 2 _ rfl
      simp only [cellsI8, List.drop_zero, List.drop_succ_cons, List.take_succ_cons, List.take_zero] at h0 h1 h2
      obtain ⟨a0, e0, _, w0⟩ := DataW.trod_int Tryd.underlying85 h0
      obtain ⟨a1, e1, _, w1⟩ := DataW.trod_int Tryd.underlying85 h1
      obtain ⟨a2, e2, _, w2⟩ := DataW.trod_int Tryd.underlying85 h2
      simp only [List.cons.injEq, and_true] at e0 e1 e2
      subst e0 e1 e2
      exact ⟨⟨a0, a1, a2⟩, ⟨bounds_i8 w0, bounds_i8 w1, bounds_i8 w2⟩, rfl⟩
/-- An act by value. -/
theorem act_of_arg {r : Reach} {b0 : Nat} {v : Value} {d : DataW H} {p : List MemPlace} (hv : Value.okWide Tryd.prog w r b0 87 v) (h : DataW.Trod enc Tryd.prog w base spare held 87 v d p) :
    ∃ p : Ac, p.Wf ∧ v = .agg #[.int .i8 p.wt, .int .i8 p.wo, .int .i8 p.bo] := by
  obtain ⟨cs, rfl, _⟩ := okWide_struct Tryd.underlying87 hv
  obtain ⟨fuel, hf⟩ := h
  obtain ⟨b, hb, e⟩ := act_of_trod hf
  refine ⟨b, hb, ?_⟩
  have e' : cs.toList = [.int .i8 b.wt, .int .i8 b.wo, .int .i8 b.bo] := by simpa [Value.cells] using e
  have : cs = [Value.int .i8 b.wt, .int .i8 b.wo, .int .i8 b.bo].toArray := by rw [← e']
  rw [this]
/-- Acts that came in. -/
theorem acts_of_arg {r : Reach} {b0 : Nat} {v : Value} {d : DataW H} {p : List MemPlace} (hv : Value.okWide Tryd.prog w r b0 92 v) (h : DataW.Trod enc Tryd.prog w base spare held 92 v d p) :
    ∃ ms : List Ac, (∀ m ∈ ms, m.Wf) ∧ ActsOf w v ms ∧ ms.length ≤ maxLen := by
  obtain ⟨a, len, cap, rfl⟩ := okWide_slice Tryd.underlying92 hv
  obtain ⟨fuel, hf⟩ := h
  rcases open_slice Tryd.underlying92 hf with ⟨hcs, _⟩ | ⟨a', l', c', m, n, D, Pl, hcs, _, hl, hm, hmm, _, hi⟩
  · simp [Value.cells] at hcs
    obtain ⟨rfl, rfl, rfl⟩ := hcs
    exact ⟨[], by simp, ⟨_, _, rfl, fun h => absurd h (Nat.lt_irrefl _)⟩, by simp⟩
  · simp [Value.cells] at hcs
    obtain ⟨rfl, rfl, rfl⟩ := hcs
    have hlm : len ≤ m := by rw [hmm]; split <;> omega
    obtain ⟨ms, hxl, hx⟩ := list_ofG len (fun i (b : Ac) => b.Wf ∧ w.cells? base (a'.add (i * Tryd.prog.cellsOf 87)) (Tryd.prog.cellsOf 87) = some [.int .i8 b.wt, .int .i8 b.wo, .int .i8 b.bo]) (fun i h => by
      obtain ⟨cs', h1, h2⟩ := hi i (by omega)
      obtain ⟨b, hb, rfl⟩ := act_of_trod h2
      exact ⟨b, hb, h1⟩)
    subst hxl
    refine ⟨ms, fun b hb => ?_, ⟨_, _, rfl, fun h0 => ?_⟩, by omega⟩
    · obtain ⟨i, hi, rfl⟩ := List.getElem_of_mem hb
      exact (hx i hi).1
    · have hc : ∀ i (hi : i < ms.length) (j : Nat), j < 3 → w.cell? (a'.add (i * 3 + j)) = [Value.int .i8 ms[i].wt, Value.int .i8 ms[i].wo, Value.int .i8 ms[i].bo][j]? := by
        intro i hi j hj
        have h2 := (hx i hi).2
        rw [cellsAct] at h2
        have h3 := (World.cells?_some h2).2.2 j hj
        rw [← h3, add_add]
      have hs : a'.spot = none := by
        have h1 : w.cell? (a'.add (0 * 3 + 0)) = some _ := hc 0 h0 0 (by omega)
        simpa [Addr.add] using World.cell?_spot h1
      obtain ⟨g, o, sp⟩ := a'
      simp only at hs
      subst hs
      refine ⟨g, o, rfl, ?_, fun i hi => ⟨?_, ?_, ?_⟩⟩
      · have h1 : w.cell? (Addr.add ⟨g, o, none⟩ (0 * 3 + 0)) = some _ := hc 0 h0 0 (by omega)
        have h2 := block_lt_of_cell h1
        rwa [block_of_add] at h2
      · have h1 := hc i hi 0 (by omega)
        rw [Addr.add_lit] at h1
        exact h1
      · have h1 := hc i hi 1 (by omega)
        rw [Addr.add_lit, ← Nat.add_assoc] at h1
        exact h1
      · have h1 := hc i hi 2 (by omega)
        rw [Addr.add_lit, ← Nat.add_assoc] at h1
        exact h1
end

set_option maxHeartbeats 1000000 in
theorem szActS_left (A : Option Addr) (n c : Nat) (L : Int) (w : World) (hn : n ≤ 9223372036854775807) (h0 : 0 ≤ L) (h1 : L ≤ 1048576) :
    Calls Tryd.prog 56 #[.slice A n c, .int .i64 L] w fun e w' => e = .returned (.int .i64 (if (n : Int) ≤ L then L - (n : Int) else -1)) ∧ w = w' := by
  by_cases h : (n : Int) ≤ L
  · have h' : ¬ (L - (n : Int) < 0) := by omega
    rw [if_pos h]
    go_enter Tryd.func56, Tryd.ntmps56
    go_wp2
    go_ret
    exact ⟨rfl, rfl⟩
  · have h' : (L - (n : Int) < 0) := by omega
    rw [if_neg h]
    go_enter Tryd.func56, Tryd.ntmps56
    go_wp2
    go_ret
    exact ⟨rfl, rfl⟩

/-- Block g is a row of n acts, the first k of which are those of the list. -/
def ARowK (w : World) (g : Nat) (ms : List Ac) (k n : Nat) : Prop :=
  ∃ cs : Array Value, w.heap[g]? = some (.cells cs 89 (0, 0)) ∧ cs.size = n * 3 ∧ ∀ (i : Nat) (hi : i < ms.length), i < k → cs[i * 3]? = some (.int .i8 ms[i].wt) ∧ cs[i * 3 + 1]? = some (.int .i8 ms[i].wo) ∧ cs[i * 3 + 2]? = some (.int .i8 ms[i].bo)
def ARow (w : World) (g : Nat) (ms : List Ac) : Prop := ARowK w g ms ms.length ms.length
theorem ARowK.lt {w : World} {g k n : Nat} {ms : List Ac} (h : ARowK w g ms k n) : g < w.heap.size := by
  obtain ⟨cs, h, _⟩ := h
  exact (Array.getElem?_eq_some_iff.1 h).1
theorem ARowK.below {w w' : World} {B g k n : Nat} {ms : List Ac} (h : ARowK w g ms k n) (hb : Below B w w') (hg : g < B) : ARowK w' g ms k n := by
  obtain ⟨cs, h, h2⟩ := h
  exact ⟨cs, (hb.block g hg).trans h, h2⟩
theorem ARowK.cell {w : World} {g k n : Nat} {ms : List Ac} (h : ARowK w g ms k n) (o : Nat) (ho : o < n * 3) : ∃ u, w.cell? ⟨g, o, none⟩ = some u := by
  obtain ⟨cs, h, h2, _⟩ := h
  rw [cell_of_row w g _ cs _ _ h]
  exact ⟨cs[o]'(by omega), Array.getElem?_eq_getElem (by omega)⟩
theorem ARowK.frozen {w : World} {g k n : Nat} {ms : List Ac} (h : ARowK w g ms k n) (o : Nat) : w.frozen? ⟨g, o, none⟩ = false := by
  obtain ⟨cs, h, _⟩ := h
  exact frozen_of_row w g _ cs _ h
theorem ARowK.step {w : World} {g k n : Nat} {ms : List Ac} (h : ARowK w g ms k n) (hk : k < ms.length) (hn : k < n) : ARowK (((w.setCell ⟨g, k * 3, none⟩ (.int .i8 ms[k].wt)).setCell ⟨g, k * 3 + 1, none⟩ (.int .i8 ms[k].wo)).setCell ⟨g, k * 3 + 2, none⟩ (.int .i8 ms[k].bo)) g ms (k + 1) n := by
  obtain ⟨cs, h1, h2, h3⟩ := h
  refine ⟨_, heap_setCell_same _ _ _ _ _ _ (heap_setCell_same _ _ _ _ _ _ (heap_setCell_same _ _ _ _ _ _ h1)), by simpa using h2, fun i hi hik => ?_⟩
  simp only [Array.getElem?_setIfInBounds, Array.size_setIfInBounds, h2]
  by_cases e : i = k
  · subst e
    refine ⟨?_, ?_, ?_⟩
    · rw [if_neg (by omega), if_neg (by omega), if_pos (by omega), if_pos (by omega)]
    · rw [if_neg (by omega), if_pos (by omega), if_pos (by omega)]
    · rw [if_pos (by omega), if_pos (by omega)]
  · refine ⟨?_, ?_, ?_⟩
    · rw [if_neg (by omega), if_neg (by omega), if_neg (by omega)]; exact (h3 i hi (by omega)).1
    · rw [if_neg (by omega), if_neg (by omega), if_neg (by omega)]; exact (h3 i hi (by omega)).2.1
    · rw [if_neg (by omega), if_neg (by omega), if_neg (by omega)]; exact (h3 i hi (by omega)).2.2
theorem ARow.slice {w : World} {g : Nat} {ms : List Ac} (h : ARow w g ms) : ActsOf w (.slice (some ⟨g, 0, none⟩) ms.length ms.length) ms := by
  have hlt := ARowK.lt h
  obtain ⟨cs, h1, h2, h3⟩ := h
  refine ⟨_, _, rfl, fun _ => ⟨g, 0, rfl, hlt, fun i hi => ?_⟩⟩
  rw [cell_of_row w g _ cs _ _ h1, cell_of_row w g _ cs _ _ h1, cell_of_row w g _ cs _ _ h1, Nat.zero_add]
  exact h3 i hi hi
theorem infoAct : (Tryd.prog.info? 89).map (fun i => (i.zero, i.size, i.bytes)) = some (some (.agg #[.int .i8 0, .int .i8 0, .int .i8 0]), 3, 3) := by kernel_rfl
theorem ARowK.made (w : World) (zs : Array Value) (ms : List Ac) (n : Nat) : ARowK (w.alloc (.cells (madeCells zs (n * 3)) 89)) w.heap.size ms 0 n :=
  ⟨_, heap_alloc_new w _, size_madeCells _ _, fun _ _ h => absurd h (Nat.not_lt_zero _)⟩

set_option maxHeartbeats 1000000 in
theorem toAct_any (m : Ac) (w : World) :
    Calls Tryd.prog 54 #[.agg #[.int .i8 m.wt, .int .i8 m.wo, .int .i8 m.bo]] w fun e w' => e = .returned (.agg #[.int .i8 m.wt, .int .i8 m.wo, .int .i8 m.bo]) ∧ Below w.heap.size w w' := by
  go_enter Tryd.func54, Tryd.ntmps54
  go_wp2
  go_returns
  exact ⟨rfl, by go_grown⟩

set_option maxHeartbeats 2000000 in
theorem toActS_any (v : Value) (ms : List Ac) (w : World) (hs : ActsOf w v ms) (hn : ms.length ≤ 1048576) :
    Calls Tryd.prog 58 #[v] w fun e w' => ∃ g, e = .returned (.slice (some ⟨g, 0, none⟩) ms.length ms.length) ∧ w.heap.size ≤ g ∧ ARow w' g ms ∧ Below w.heap.size w w' := by
  obtain ⟨A, c, rfl, hs⟩ := hs
  obtain ⟨i0, hi, hz0, hz1, hz2⟩ := info_parts infoAct
  have hmk := fun W => run_make_rowN (P := Tryd.prog) 95 89 i0 _ Tryd.underlying95 hi hz0 .i64 .i64 ms.length ms.length (Nat.le_refl _) (by rw [hz2]; omega) (by omega) W
  rw [hz1] at hmk
  have HM := Lib.hid (ARowK.made w (Value.agg #[.int .i8 0, .int .i8 0, .int .i8 0]).cells ms ms.length)
  have HS := Lib.hid hs
  clear hi hz0 hz1 hz2 hs
  go_enter Tryd.func58, Tryd.ntmps58
  go_wp2
  go_loopw [4] (fun i wr => ∃ k : Nat, k ≤ ms.length ∧ i = .int .i64 k ∧ ARowK wr w.heap.size ms k ms.length ∧ Below w.heap.size w wr) (fun i _ => ms.length - (intOf i).toNat)
  case atStart => exact ⟨0, Nat.zero_le _, rfl, HM.out, (Below.refl _ _).alloc (Nat.le_refl _) _⟩
  case round =>
    obtain ⟨k, hk, rfl, hrow, hb⟩ := hrel
    by_cases hlt : k < ms.length
    · obtain ⟨ga, oa, rfl, hga, hat⟩ := HS.out (by omega)
      obtain ⟨p0, p1, p2⟩ := hat.below hb hga k hlt
      have HR := Lib.hid hrow
      clear hat hrow
      go_wp2_with fail
      refine (toAct_any ms[k] _).mono ?_
      rintro e w1 ⟨rfl, h1⟩
      have hr1 := HR.out.below h1 HR.out.lt
      obtain ⟨u0, q0⟩ := hr1.cell (k * 3) (by omega)
      obtain ⟨u1, q1⟩ := hr1.cell (k * 3 + 1) (by omega)
      obtain ⟨u2, q2⟩ := hr1.cell (k * 3 + 2) (by omega)
      have fz := hr1.frozen
      go_wp2
      go_roundw
      case rel => exact ⟨k + 1, by omega, by go_num, hr1.step hlt hlt, (((hb.trans (h1.mono hb.size)).setCell (p := ⟨_, _, none⟩) (Nat.le_refl _) _).setCell (p := ⟨_, _, none⟩) (Nat.le_refl _) _).setCell (p := ⟨_, _, none⟩) (Nat.le_refl _) _⟩
      case measure => simp [intOf]; omega
    · obtain rfl : k = ms.length := by omega
      have HR := Lib.hid hrow
      clear hrow
      go_wp2
      go_ret
      exact ⟨_, rfl, Nat.le_refl _, HR.out, hb⟩

set_option maxHeartbeats 1000000 in
theorem eqAct_same (m : Ac) (w : World) :
    Calls Tryd.prog 115 #[.agg #[.int .i8 m.wt, .int .i8 m.wo, .int .i8 m.bo], .agg #[.int .i8 m.wt, .int .i8 m.wo, .int .i8 m.bo]] w fun e w' => e = .returned (.bool true) ∧ Below w.heap.size w w' := by
  go_enter Tryd.func115, Tryd.ntmps115
  go_wp2
  go_ret
  exact ⟨rfl, by go_grown⟩

set_option maxHeartbeats 2000000 in
theorem eqActS_same (v1 v2 : Value) (ms : List Ac) (w : World) (hs1 : ActsOf w v1 ms) (hs2 : ActsOf w v2 ms) (hn : ms.length ≤ maxLen) :
    Calls Tryd.prog 60 #[v1, v2] w fun e w' => e = .returned (.bool true) ∧ Below w.heap.size w w' := by
  obtain ⟨A1, k1, rfl, hs1⟩ := hs1
  obtain ⟨A2, k2, rfl, hs2⟩ := hs2
  unfold maxLen at hn
  have H1 := Lib.hid hs1
  have H2 := Lib.hid hs2
  clear hs1 hs2
  go_enter Tryd.func60, Tryd.ntmps60
  go_wp2
  go_loopw [5] (fun i wr => ∃ k : Nat, k ≤ ms.length ∧ i = .int .i64 k ∧ Below w.heap.size w wr) (fun i _ => ms.length - (intOf i).toNat)
  case atStart => exact ⟨0, Nat.zero_le _, rfl, Below.refl _ _⟩
  case round =>
    obtain ⟨k, hk, rfl, hb⟩ := hrel
    by_cases hlt : k < ms.length
    · obtain ⟨g1, o1, rfl, hg1, ha1⟩ := H1.out (by omega)
      obtain ⟨g2, o2, rfl, hg2, ha2⟩ := H2.out (by omega)
      obtain ⟨p0, p1, p2⟩ := ha1.below hb hg1 k hlt
      obtain ⟨q0, q1, q2⟩ := ha2.below hb hg2 k hlt
      have z1 := Nat.lt_of_lt_of_le hg1 hb.size
      have z2 := Nat.lt_of_lt_of_le hg2 hb.size
      have p0 := belowBy_cell z1 p0; have p1 := belowBy_cell z1 p1; have p2 := belowBy_cell z1 p2
      have q0 := belowBy_cell z2 q0; have q1 := belowBy_cell z2 q1; have q2 := belowBy_cell z2 q2
      clear ha1 ha2
      go_wp2
      refine wp_region_below (by kernel_rfl) (by kernel_rfl) ?_
      repeat (quiet_step ((go_at_call 115; exact calls_below (eqAct_same _ _))))
      refine wpQuiet_nil ?_
      rintro _ ⟨⟨wq, hq⟩, rfl⟩
      clear p0 p1 p2 q0 q1 q2
      go_wp2
      go_roundw
      case rel => exact ⟨k + 1, by omega, by go_num, hb.trans (hq.mono hb.size)⟩
      case measure => simp [intOf]; omega
    · obtain rfl : k = ms.length := by omega
      go_wp2
      go_ret
      exact ⟨rfl, hb⟩
end Go.Proofs.YtaahfcdpgcfmhaaDoor
