/- The heights of shelves on pegs, from the lowest on, by the program's iterator; the first that is high enough: contracts. Condition: valid pegs. -/
import Derived.RangeFuncNested
import Derived.RangeFuncBound
import Derived.RangeFuncCalls
import Derived.RangeFuncLeaves
import Derived.Shelf.Abstract
import Derived.Shelf.RegionOpen
import Derived.OwnWalkIn
import Derived.TacticsInMore
import Derived.LoopNIn
import Derived.LoopIn
import Derived.Test.YtjeflpohokjjkaaPegV
namespace Go.Proofs.Ytjeflpohokjjkaa
set_option linter.unusedSimpArgs false
set_option linter.unusedVariables false
set_option maxRecDepth 100000
open Go.RowKit Go.Shelf
attribute [local go_sem] Oper.semAt_some

theorem below_grown {w w' : World} {row : Option Nat} (h : Below w.heap.size w w') : w.grownBy w' row := ⟨h.os, h.tape, h.output, h.size, fun i hi _ => h.block i hi⟩
theorem low_grown {w w' : World} {B : Nat} {row : Option Nat} (h : Below B w w') (hr : ∀ k, B ≤ k → k < w.heap.size → some k = row) : w.grownBy w' row :=
  ⟨h.os, h.tape, h.output, h.size, fun i hi hne => h.block i (by
    rcases Nat.lt_or_ge i B with h | h
    · exact h
    · exact absurd (hr i h hi) hne)⟩

/-- Block g is a box of pegs. -/
def PB (W : World) (g : Nat) (x s b : Int) : Prop := W.heap[g]? = some (.cells #[.int .i16 x, .int .i16 s, .int .i16 b] 30 (0, 0))
section
variable {W W' : World} {g : Nat} {x s b : Int}
theorem PB.lt (h : PB W g x s b) : g < W.heap.size := (Array.getElem?_eq_some_iff.1 h).1
theorem PB.c0 (h : PB W g x s b) : W.cell? ⟨g, 0, none⟩ = some (.int .i16 x) := cell_of_row W g 0 _ _ _ h
theorem PB.c1 (h : PB W g x s b) : W.cell? ⟨g, 1, none⟩ = some (.int .i16 s) := cell_of_row W g 1 _ _ _ h
theorem PB.c2 (h : PB W g x s b) : W.cell? ⟨g, 2, none⟩ = some (.int .i16 b) := cell_of_row W g 2 _ _ _ h
theorem PB.fz (h : PB W g x s b) (i : Nat) : W.frozen? ⟨g, i, none⟩ = false := frozen_of_row W g i _ _ h
theorem PB.below {n : Nat} (h : PB W g x s b) (hb : Below n W W') (hg : g < n) : PB W' g x s b := (hb.block g hg).trans h
theorem PB.later (h : PB W g x s b) (hb : Below W.heap.size W W') : PB W' g x s b := h.below hb h.lt
theorem PB.new (W : World) (x s b : Int) : PB (W.alloc (.cells #[.int .i16 x, .int .i16 s, .int .i16 b] 30)) W.heap.size x s b := World.alloc_heap_new W _
theorem PB.pin (h : PB W g x s b) (bo : Int) (hb : b = bo) : PegIn W g ⟨x, s, bo⟩ := ⟨h.c0, h.c1, by rw [h.c2, hb]⟩
theorem PB.set0 (h : PB W g x s b) (y : Int) : PB (W.setCell ⟨g, 0, none⟩ (.int .i16 y)) g y s b := by
  unfold PB at *
  rw [heap_setCell_same _ _ _ _ _ _ h]
  rfl
theorem PB.set1 (h : PB W g x s b) (y : Int) : PB (W.setCell ⟨g, 1, none⟩ (.int .i16 y)) g x y b := by
  unfold PB at *
  rw [heap_setCell_same _ _ _ _ _ _ h]
  rfl
theorem PB.set2 (h : PB W g x s b) (y : Int) : PB (W.setCell ⟨g, 2, none⟩ (.int .i16 y)) g x s y := by
  unfold PB at *
  rw [heap_setCell_same _ _ _ _ _ _ h]
  rfl
theorem PB.far (h : PB W g x s b) {k : Nat} (hne : g ≠ k) (o : Nat) (v : Value) : PB (W.setCell ⟨k, o, none⟩ v) g x s b := (Below.heap_setCell W ⟨k, o, none⟩ v g (by simpa using hne)).trans h
end

/-- What a round that goes on keeps: the boxes of pegs. -/
def KpP (W W' : World) : Prop := W.heap.size ≤ W'.heap.size ∧ ∀ (g : Nat) (a : Array Value), W.heap[g]? = some (.cells a 30 (0, 0)) → W'.heap[g]? = some (.cells a 30 (0, 0))
theorem kpP_t {A B C : World} (h : KpP A B) (k : KpP B C) : KpP A C := ⟨Nat.le_trans h.1 k.1, fun g a hg => k.2 g a (h.2 g a hg)⟩
theorem kpP_b {w : World} (W : World) (l : Nat) (o o' : Obj) (_ : w.heap.size ≤ l) (h : W.heap[l]? = some o) (hc : o.isCells = false) (_ : o.isWalk = false) : KpP W (W.putObj l o') :=
  ⟨by simp, fun g a hg => (World.putObj_heap_other (fun e => by subst e; rw [h] at hg; cases hg; cases hc)).trans hg⟩
theorem kpP_below {W W' : World} (h : Below W.heap.size W W') : KpP W W' := ⟨h.size, fun g a hg => (h.block g (Array.getElem?_eq_some_iff.1 hg).1).trans hg⟩
theorem kpP_grown {W W' : World} {row : Option Nat} (h : W.grownBy W' row) (hr : ∀ k, row = some k → ∃ (o : Obj), W.heap[k]? = some o ∧ ∀ a, o ≠ .cells a 30 (0, 0)) : KpP W W' :=
  ⟨h.size, fun g a hg => (h.block g (Array.getElem?_eq_some_iff.1 hg).1 (fun e => by obtain ⟨o, h1, h2⟩ := hr g e.symm; rw [h1] at hg; cases hg; exact h2 a rfl)).trans hg⟩

def lowOf (W : World) (v : Value) : Int := match v with
  | .pointer (some a) => (match W.cell? a with | some (.int _ x) => x | _ => 0)
  | _ => 0
theorem lowOf_eq {W : World} {g : Nat} {x s b : Int} (h : PB W g x s b) : lowOf W (.pointer (some ⟨g, 0, none⟩)) = x := by
  unfold lowOf
  simp only [h.c0]

set_option maxHeartbeats 1000000 in
theorem high_any (x s b : Int) (w : World) (h1 : -32768 ≤ x) (h2 : x ≤ 32767) :
    Calls Try.prog 38 #[.agg #[.int .i16 x, .int .i16 s, .int .i16 b]] w fun e w' => e = .returned (.int .i64 x) ∧ Below w.heap.size w w' := by
  have G0 := Lib.hid (show Below w.heap.size w (w.alloc (.cells #[.int .i16 x, .int .i16 s, .int .i16 b] 30)) by go_grown)
  go_enter Try.func38, Try.ntmps38
  go_wp2
  go_ret
  exact ⟨rfl, G0.out⟩

set_option maxHeartbeats 1000000 in
theorem upwards_any (p : Pg) (w : World) :
    Calls Try.prog 40 #[.agg #[.int .i16 p.lo, .int .i16 p.st, .int .i16 p.bo]] w fun e w' =>
      e = .returned (.func (.func 47) #[] #[.pointer (some ⟨w.heap.size, 0, none⟩)]) ∧ w.alloc (.cells #[.int .i16 p.lo, .int .i16 p.st, .int .i16 p.bo] 30) = w' := by
  go_enter Try.func40, Try.ntmps40
  go_wp2
  go_ret
  exact ⟨rfl, rfl⟩

/-- A height that the iterator gives. -/
abbrev PH := { x : Int // 50 ≤ x ∧ x ≤ 1000 }
def upS : Nat → Int → Int → List PH
  | 0, _, _ => []
  | f + 1, o, st => if h : 50 ≤ o ∧ o ≤ 1000 then ⟨o, h⟩ :: upS f (o + st) st else []
theorem upS_val : ∀ (f : Nat) (o st : Int), 50 ≤ o → 0 ≤ st → (upS f o st).map Subtype.val = upL f o st
  | 0, _, _, _, _ => rfl
  | f + 1, o, st, h1, h2 => by
    rw [upS, upL]
    by_cases h : o ≤ 1000
    · rw [dif_pos ⟨h1, h⟩, if_pos h, List.map_cons, upS_val f (o + st) st (by omega) h2]
    · rw [dif_neg (by omega), if_neg h]; rfl
theorem upS_succ {q : Nat} {x st : Int} (h1 : 50 ≤ x) (h : x ≤ 1000) : upS (q + 1) x st = ⟨x, h1, h⟩ :: upS q (x + st) st := by rw [upS, dif_pos ⟨h1, h⟩]
def upW (p : Pg) : List PH := upS 1001 p.lo p.st
theorem upW_val {p : Pg} (hp : pegsB p = true) : (upW p).map Subtype.val = upw p := by
  have := pegsB_true hp
  exact upS_val _ _ _ (by omega) (by omega)
theorem fromV_at {p : Pg} (hp : pegsB p = true) {high : Int} {pre : List PH} {x : PH} (h : pre ++ [x] <+: upW p) (h1 : ∀ y ∈ pre, y.1 < high) (h2 : high ≤ x.1) : fromV p high = some x.1 := by
  obtain ⟨r, hr⟩ := h
  unfold fromV
  rw [← upW_val hp, ← hr, List.find?_map, List.append_assoc, List.find?_append]
  have e : pre.find? ((fun x => decide (high ≤ x)) ∘ Subtype.val) = none := by
    rw [List.find?_eq_none]
    intro y hy
    have := h1 y hy
    simp; omega
  rw [e]
  simp [h2]
theorem fromV_none {p : Pg} (hp : pegsB p = true) {high : Int} (h1 : ∀ y ∈ upW p, y.1 < high) : fromV p high = none := by
  unfold fromV
  rw [← upW_val hp, List.find?_eq_none]
  intro y hy
  obtain ⟨z, hz, rfl⟩ := List.mem_map.1 hy
  have := h1 z hz
  simp; omega

set_option maxHeartbeats 8000000 in
/-- The iterator's contract. -/
theorem upw_stops (n : Nat) (hn : 1 ≤ n) (Bn : Nat) (p : Pg) (hp : pegsB p = true) (w : World) (hc : PB w Bn p.lo p.st p.bo) :
    SeqStopsK Fence.wide n Try.prog 47 #[.pointer (some ⟨Bn, 0, none⟩)] (fun x : PH => #[.agg #[.int .i16 x.1, .int .i16 p.st, .int .i16 p.bo]]) KpP (fun ys => ys = upW p) (fun pre => pre <+: upW p) (upW p).length w := by
  intro l J Jx W hW hJ hJx hY h0
  obtain ⟨⟨a1, a2⟩, ⟨b1, b2⟩, -⟩ := pegsB_true hp
  have hc' := hc.below hW hc.lt
  have c0 := hc'.c0
  have c1 := hc'.c1
  have c2 := hc'.c2
  have HY := Lib.hid hY
  have H0 := Lib.hid h0
  have HJ := Lib.hid hJ
  obtain ⟨U, hU⟩ : ∃ U, upS 1001 p.lo p.st = U := ⟨_, rfl⟩
  have EU := Lib.hid (show upW p = U from hU)
  have HU := Lib.hid hU
  clear hY h0 hJ hJx hc hU hp
  rw [EU.out]
  refine callsIn_of_wp Try.func47 rfl trivial ?_ rfl
  simp only [Try.ntmps47, List.size_toArray, List.length_cons, List.length_nil, Nat.reduceAdd, Nat.reduceSub, Array.replicate_succ, Array.replicate_zero, List.push_toArray, List.append_toArray, List.nil_append, List.cons_append]
  gi_wp2
  clear c0 c1 c2
  gi_loopw [3] (fun b_ wr => ∃ (g : Nat) (x : Int) (q : Nat) (pre : List PH), b_ = .pointer (some ⟨g, 0, none⟩) ∧ U = pre ++ upS q x p.st ∧ 50 ≤ x ∧ x ≤ 1100 ∧ (1001 - x).toNat ≤ q ∧ PB wr g x p.st p.bo ∧ J pre wr)
    (fun b_ wr => (1101 - lowOf wr b_).toNat)
  case atStart =>
    exact ⟨W.heap.size, p.lo, 1001, [], rfl, HU.out.symm, a1, by omega, by omega, PB.new W _ _ _, HJ.out _ _ _ none H0.out (World.grownBy_alloc W _ none) (fun r e => by cases e)⟩
  case round =>
    obtain ⟨g, x, q, pre, rfl, hx, x1, x2, hq, hpb, hJs⟩ := hrel
    have d0 := hpb.c0
    have d1 := hpb.c1
    have d2 := hpb.c2
    have HP := Lib.hid hpb
    have HX := Lib.hid hx
    have HS := Lib.hid hJs
    clear hx hJs hpb
    by_cases hle : x ≤ 1000
    · obtain ⟨q', rfl⟩ : ∃ q', q = q' + 1 := ⟨q - 1, by omega⟩
      have HX := Lib.hid (show U = pre ++ ⟨x, x1, hle⟩ :: upS q' (x + p.st) p.st by rw [HX.out, upS_succ x1 hle])
      gi_wp2_with fail
      refine ⟨trivial, (callsIn_wide.2 (high_any x p.st p.bo _ (by omega) (by omega))).mono ?_⟩
      rintro e w1 ⟨rfl, g1⟩
      have hp1 := HP.out.later g1
      have d0 := hp1.c0
      have d1 := hp1.c1
      have d2 := hp1.c2
      have HP1 := Lib.hid hp1
      obtain ⟨fn, tmps, assign, body, hy, hR⟩ := HY.out pre ⟨x, x1, hle⟩ w1 (HJ.out _ _ _ none HS.out (below_grown g1) (fun r e => by cases e)) (by rw [EU.out, HX.out]; simp)
      have hR := Lib.hid hR
      dsimp only at hy
      clear hp1
      gi_wp2
      refine hR.out.mono ?_
      rintro e W3 (⟨rfl, hJ3, hk3⟩ | ⟨rfl, hJx3⟩)
      · have hp3 : PB W3 g x p.st p.bo := hk3.2 _ _ HP1.out
        have d0 := hp3.c0
        have d1 := hp3.c1
        have d2 := hp3.c2
        have hw : IntKind.i16.wrap (x + p.st) = x + p.st := IntWalk.i16_in _ (by omega)
        have HJ3 := Lib.hid hJ3
        clear hJ3 hy hp3
        gi_wp2
        go_roundw
        case rel => exact ⟨W3.heap.size, x + p.st, q', pre ++ [⟨x, x1, hle⟩], rfl, by rw [HX.out]; simp, by omega, by omega, by omega, PB.new _ _ _ _, HJ.out _ _ _ none HJ3.out (World.grownBy_alloc W3 _ none) (fun r e => by cases e)⟩
        case measure => rw [lowOf_eq (PB.new _ _ _ _), lowOf_eq HP.out]; first | omega | (rw [hw]; omega)
      · gi_wp2
        refine bodyPost_ret (results_none rfl _ _ _) rfl ?_
        exact ⟨⟨_, rfl⟩, .inr ⟨pre ++ [⟨x, x1, hle⟩], ⟨upS q' (x + p.st) p.st, by rw [HX.out]; simp⟩, hJx3⟩⟩
    · have HX := Lib.hid (show U = pre by
        rw [HX.out]
        cases q with
        | zero => rw [upS, List.append_nil]
        | succ q => rw [upS, dif_neg (by omega), List.append_nil])
      gi_wp2_with fail
      refine ⟨trivial, (callsIn_wide.2 (high_any x p.st p.bo _ (by omega) (by omega))).mono ?_⟩
      rintro e w1 ⟨rfl, g1⟩
      gi_wp2
      go_end0
      exact ⟨⟨_, rfl⟩, .inl ⟨pre, HX.out.symm, HJ.out _ _ _ none HS.out (below_grown g1) (fun r e => by cases e)⟩⟩

theorem later_alloc {W : World} {k : Nat} {o : Obj} (h : W.heap[k]? = some o) (o' : Obj) : (W.alloc o').heap[k]? = some o := (Below.heap_alloc W o' k (Array.getElem?_eq_some_iff.1 h).1).trans h
theorem alloc5 (w : World) (a b c d e : Obj) : let W := ((((w.alloc a).alloc b).alloc c).alloc d).alloc e; W.heap[w.heap.size]? = some a ∧ W.heap[w.heap.size + 1]? = some b ∧ W.heap[w.heap.size + 1 + 1]? = some c ∧ W.heap[w.heap.size + 1 + 1 + 1]? = some d ∧ W.heap[w.heap.size + 1 + 1 + 1 + 1]? = some e ∧ W.heap.size = w.heap.size + 5 ∧ Below w.heap.size w W := by
  have e0 := World.alloc_heap_new w a
  have e1 := World.alloc_heap_new (w.alloc a) b
  have e2 := World.alloc_heap_new ((w.alloc a).alloc b) c
  have e3 := World.alloc_heap_new (((w.alloc a).alloc b).alloc c) d
  have e4 := World.alloc_heap_new ((((w.alloc a).alloc b).alloc c).alloc d) e
  simp only [World.size_alloc] at e1 e2 e3 e4
  exact ⟨later_alloc (later_alloc (later_alloc (later_alloc e0 _) _) _) _, later_alloc (later_alloc (later_alloc e1 _) _) _, later_alloc (later_alloc e2 _) _, later_alloc e3 _, e4, by simp, by go_grown⟩

def fromVal (p : Pg) (high : Int) : Value := match fromV p high with
  | some x => .tuple #[.agg #[.int .i16 x, .int .i16 p.st, .int .i16 p.bo], .bool true]
  | none => .tuple #[.agg #[.int .i16 0, .int .i16 0, .int .i16 0], .bool false]

set_option maxHeartbeats 8000000 in
theorem from_any (p : Pg) (hp : pegsB p = true) (high : Int) (w : World) :
    Calls Try.prog 35 #[.agg #[.int .i16 p.lo, .int .i16 p.st, .int .i16 p.bo], .int .i64 high] w fun e w' => e = .returned (fromVal p high) ∧ Below w.heap.size w w' := by
  have HP := Lib.hid hp
  clear hp
  refine (callsIn_wide (n := 3)).1 ?_
  refine callsIn_of_wp_marks Try.func35 rfl trivial ?_ rfl
  simp only [Try.ntmps35, List.size_toArray, List.length_cons, List.length_nil, Nat.reduceAdd, Nat.reduceSub, Array.replicate_succ, Array.replicate_zero, List.push_toArray, List.append_toArray, List.nil_append, List.cons_append]
  gi_wp2_with fail
  refine ⟨trivial, (callsIn_wide.2 (upwards_any p _)).mono ?_⟩
  rintro e w' ⟨rfl, rfl⟩
  gi_wp2
  obtain ⟨h0, h1, h2, h3, h4, h5, h6⟩ := alloc5 w (.cells #[.int .i16 p.lo, .int .i16 p.st, .int .i16 p.bo] 30) (.cells #[.int .i64 high] 2) (.cells #[.int .i16 0, .int .i16 0, .int .i16 0] 30) (.cells #[.bool false] 4) (.cells #[.int .i16 p.lo, .int .i16 p.st, .int .i16 p.bo] 30)
  generalize hW0 : World.alloc _ _ = W0 at h0 h1 h2 h3 h4 h5 h6 ⊢
  clear hW0 h0
  have HG := Lib.hid h6
  refine wpIn_rangeFunc_ownH rfl (by omega : 1 ≤ 3) (gf := 47) (lb := #[.pointer (some ⟨w.heap.size + 1 + 1 + 1 + 1, 0, none⟩)]) rfl trivial (enters_of Try.func47 (by kernel_rfl) rfl)
    (upw_stops 2 (by omega) (w.heap.size + 1 + 1 + 1 + 1) p HP.out W0 h4) kpP_t kpP_b (Below.refl _ _) (fun _ => rfl)
    (fun pre W => (∀ y ∈ pre, y.1 < high) ∧ W.heap[w.heap.size + 1]? = some (.cells #[.int .i64 high] 2 (0, 0)) ∧ PB W (w.heap.size + 1 + 1) 0 0 0 ∧ W.heap[w.heap.size + 1 + 1 + 1]? = some (.cells #[.bool false] 4 (0, 0)) ∧ Below w.heap.size w W)
    (fun c pre W => c = .ret ∧ (∃ pre' x, pre = pre' ++ [x] ∧ (∀ y ∈ pre', y.1 < high) ∧ high ≤ x.1 ∧ PB W (w.heap.size + 1 + 1) x.1 p.st p.bo) ∧ W.heap[w.heap.size + 1 + 1 + 1]? = some (.cells #[.bool true] 4 (0, 0)) ∧ Below w.heap.size w W)
    ?hI ?hIx ⟨by simp, h1, h2, h3, h6⟩
    (fun x a' W => ∃ g, w.heap.size + 1 + 1 + 1 < g ∧ PB W g x.1 p.st p.bo ∧ a' = { tmps := #[.agg #[.int .i16 p.lo, .int .i16 p.st, .int .i16 p.bo], .int .i64 high, .pointer (some ⟨w.heap.size, 0, none⟩), .pointer (some ⟨w.heap.size + 1, 0, none⟩), .pointer (some ⟨w.heap.size + 1 + 1, 0, none⟩), .pointer (some ⟨w.heap.size + 1 + 1 + 1, 0, none⟩), .pointer (some ⟨g, 0, none⟩), .agg #[.int .i16 p.lo, .int .i16 p.st, .int .i16 p.bo], .func (.func 47) #[] #[.pointer (some ⟨w.heap.size + 1 + 1 + 1 + 1, 0, none⟩)], .agg #[.int .i16 x.1, .int .i16 p.st, .int .i16 p.bo], undef, undef, undef, undef, undef, undef], defers := [] })
    ?hAx ?assign ?body ?done ?stop
  case hI =>
    rintro s X Y row ⟨e1, e2, e3, e4, e5⟩ hg hr
    have ne : ∀ k, k < W0.heap.size → some k ≠ row := fun k hk e => by have := (hr k e.symm).1; omega
    exact ⟨e1, (hg.block _ (Array.getElem?_eq_some_iff.1 e2).1 (ne _ (by omega))).trans e2, (hg.block _ e3.lt (ne _ (by omega))).trans e3, (hg.block _ (Array.getElem?_eq_some_iff.1 e4).1 (ne _ (by omega))).trans e4, e5.grown hg e5.size (fun k e => by have := (hr k e).1; omega)⟩
  case hIx =>
    rintro c s X Y row ⟨e1, ⟨pre', x, f1, f2, f3, e3⟩, e4, e5⟩ hg hr
    have ne : ∀ k, k < W0.heap.size → some k ≠ row := fun k hk e => by have := (hr k e.symm).1; omega
    exact ⟨e1, ⟨pre', x, f1, f2, f3, (hg.block _ e3.lt (ne _ (by omega))).trans e3⟩, (hg.block _ (Array.getElem?_eq_some_iff.1 e4).1 (ne _ (by omega))).trans e4, e5.grown hg e5.size (fun k e => by have := (hr k e).1; omega)⟩
  case hAx =>
    rintro x a' _ X Y row ⟨g, e1, e2, e3⟩ hg hr
    exact ⟨g, e1, (hg.block _ e2.lt (fun e => by obtain ⟨_, o, h1, h2⟩ := hr g e.symm; rw [show X.heap[g]? = _ from e2] at h1; cases h1; cases h2)).trans e2, e3⟩
  case assign =>
    rintro l pre x W K ⟨e1, e2, e3, e4, e5⟩ hK
    gi_wp2
    have bw : Below W.heap.size W (W.alloc (.cells #[.int .i16 x.1, .int .i16 p.st, .int .i16 p.bo] 30)) := (Below.refl _ W).alloc (Nat.le_refl _) _
    exact hK _ _ ((KeepsOthers.alloc _ _).from _) (kpP_below bw) ⟨e1, later_alloc e2 _, e3.later bw, later_alloc e4 _, bnext e5 bw⟩ ⟨W.heap.size, (Array.getElem?_eq_some_iff.1 e4).1, PB.new W _ _ _, rfl⟩
  case body =>
    rintro l pre x a' W hl _ ⟨e1, e2, e3, e4, e5⟩ ⟨g, hg, hpb, rfl⟩ hlt
    obtain ⟨x, x1, x2⟩ := x
    dsimp only at hpb
    have d0 := hpb.c0
    have d1 := hpb.c1
    have d2 := hpb.c2
    have ch : W.cell? ⟨w.heap.size + 1, 0, none⟩ = some (.int .i64 high) := cell_of_row W _ 0 _ _ _ e2
    have hmx : Try.prog.follows .mixedOrders = true := by kernel_rfl
    have HI := Lib.hid (show (∀ y ∈ pre, y.1 < high) ∧ PB W (w.heap.size + 1 + 1) 0 0 0 ∧ W.heap[w.heap.size + 1]? = some (.cells #[.int .i64 high] 2 (0, 0)) ∧ W.heap[w.heap.size + 1 + 1 + 1]? = some (.cells #[.bool false] 4 (0, 0)) ∧ Below w.heap.size w W from ⟨e1, e3, e2, e4, e5⟩)
    have HPB := Lib.hid hpb
    have zg := hpb.lt
    have zh := (Array.getElem?_eq_some_iff.1 e2).1
    clear e1 e2 e3 e4 e5 hpb
    by_cases hx : high ≤ x
    · have hd : decide (high ≤ x) = true := by simpa using hx
      gi_wp2
      gi_region_with_o (refine ⟨trivial, ?_⟩; gi_at_call 38; refine (CallsIn.inRound l (callsIn_wide.2 (high_any x p.st p.bo _ (by omega) (by omega)))).mono ?_; rintro e w1 ⟨rfl, g1⟩; have ch := (g1.cell (p := ⟨w.heap.size + 1, 0, none⟩) zh).trans ch)
      all_goals
        have hW1 : Below W.heap.size W w1 := (Below.refl _ W).drew.trans g1
        have hp1 := HPB.out.later hW1
        have d0 := hp1.c0
        have d1 := hp1.c1
        have d2 := hp1.c2
        have hr := HI.out.2.1.later hW1
        have r0 := hr.c0
        have r1 := hr.c1
        have r2 := hr.c2
        have f0 := hr.fz 0
        have f1 := hr.fz 1
        have f2 := hr.fz 2
        have hb := (hW1.block _ (Array.getElem?_eq_some_iff.1 HI.out.2.2.2.1).1).trans HI.out.2.2.2.1
        have b0 : w1.cell? ⟨w.heap.size + 1 + 1 + 1, 0, none⟩ = some (.bool false) := cell_of_row w1 _ 0 _ _ _ hb
        have b1 : w1.frozen? ⟨w.heap.size + 1 + 1 + 1, 0, none⟩ = false := frozen_of_row w1 _ 0 _ _ hb
        have HR := Lib.hid hr
        have HBB := Lib.hid hb
        clear hp1 hr hb
        gi_wp2
        refine ⟨((KeepsOthers.of_grownBy (below_grown hW1 (row := none)) (fun j o e => by cases e)).trans ((((KeepsOthers.setCell _ _ _).trans (KeepsOthers.setCell _ _ _)).trans (KeepsOthers.setCell _ _ _)).trans (KeepsOthers.setCell _ _ _))).from _, rfl, ⟨pre, ⟨x, x1, x2⟩, rfl, HI.out.1, hx, ?_⟩, ?_, ?_⟩
        · exact (((HR.out.set0 _).set1 _).set2 _).far (by omega) _ _
        · exact heap_setCell_same _ _ _ _ _ _ ((Below.heap_setCell _ ⟨_, _, none⟩ _ _ (by simp)).trans ((Below.heap_setCell _ ⟨_, _, none⟩ _ _ (by simp)).trans ((Below.heap_setCell _ ⟨_, _, none⟩ _ _ (by simp)).trans HBB.out)))
        · exact ((((bnext HI.out.2.2.2.2 hW1).setCell (p := ⟨_, _, none⟩) (by simp; omega) _).setCell (p := ⟨_, _, none⟩) (by simp; omega) _).setCell (p := ⟨_, _, none⟩) (by simp; omega) _).setCell (p := ⟨_, _, none⟩) (by simp; omega) _
    · have hd : decide (high ≤ x) = false := by simpa using hx
      gi_wp2
      gi_region_with_o (refine ⟨trivial, ?_⟩; gi_at_call 38; refine (CallsIn.inRound l (callsIn_wide.2 (high_any x p.st p.bo _ (by omega) (by omega)))).mono ?_; rintro e w1 ⟨rfl, g1⟩; have ch := (g1.cell (p := ⟨w.heap.size + 1, 0, none⟩) zh).trans ch)
      all_goals
        have hW1 : Below W.heap.size W w1 := (Below.refl _ W).drew.trans g1
        gi_wp2
        exact ⟨(KeepsOthers.of_grownBy (below_grown hW1 (row := none)) (fun j o e => by cases e)).from _, kpP_below hW1, (by
          intro y hy
          rcases List.mem_append.1 hy with hy | hy
          · exact HI.out.1 y hy
          · obtain rfl : y = ⟨x, x1, x2⟩ := by simpa using hy
            exact (by omega : x < high)), (hW1.block _ (Array.getElem?_eq_some_iff.1 HI.out.2.2.1).1).trans HI.out.2.2.1, HI.out.2.1.later hW1, (hW1.block _ (Array.getElem?_eq_some_iff.1 HI.out.2.2.2.1).1).trans HI.out.2.2.2.1, bnext HI.out.2.2.2.2 hW1⟩
  case done =>
    rintro D ys W hD rfl ⟨e1, e2, e3, e4, e5⟩ hK
    have E1 := Lib.hid (fromV_none HP.out e1)
    have HB := Lib.hid e4
    have HR := Lib.hid e3
    have r0 := e3.c0
    have r1 := e3.c1
    have r2 := e3.c2
    have f0 := e3.fz 0
    have f1 := e3.fz 1
    have f2 := e3.fz 2
    have b0 : W.cell? ⟨w.heap.size + 1 + 1 + 1, 0, none⟩ = some (.bool false) := cell_of_row W _ 0 _ _ _ e4
    have b1 : W.frozen? ⟨w.heap.size + 1 + 1 + 1, 0, none⟩ = false := frozen_of_row W _ 0 _ _ e4
    clear e1 e3 e4
    gi_wp2
    generalize hW5 : World.setCell _ _ _ = W5
    have k5 : W5.heap[D]? = some (.deferred (some [])) := by
      rw [← hW5]
      exact (Below.heap_setCell _ ⟨_, _, none⟩ _ _ (by simp; omega)).trans ((Below.heap_setCell _ ⟨_, _, none⟩ _ _ (by simp; omega)).trans ((Below.heap_setCell _ ⟨_, _, none⟩ _ _ (by simp; omega)).trans ((Below.heap_setCell _ ⟨_, _, none⟩ _ _ (by simp; omega)).trans hK)))
    have p5 : PB W5 (w.heap.size + 1 + 1) 0 0 0 := by rw [← hW5]; exact (((HR.out.set0 _).set1 _).set2 _).far (by omega) _ _
    have q5 : W5.heap[w.heap.size + 1 + 1 + 1]? = some (.cells #[.bool false] 4 (0, 0)) := by
      rw [← hW5]
      exact heap_setCell_same _ _ _ _ _ _ ((Below.heap_setCell _ ⟨_, _, none⟩ _ _ (by simp)).trans ((Below.heap_setCell _ ⟨_, _, none⟩ _ _ (by simp)).trans ((Below.heap_setCell _ ⟨_, _, none⟩ _ _ (by simp)).trans HB.out)))
    have g5 : Below w.heap.size w W5 := by
      rw [← hW5]
      exact (((e5.setCell (p := ⟨_, _, none⟩) (by simp; omega) _).setCell (p := ⟨_, _, none⟩) (by simp; omega) _).setCell (p := ⟨_, _, none⟩) (by simp; omega) _).setCell (p := ⟨_, _, none⟩) (by simp; omega) _
    clear hW5 r0 r1 r2 f0 f1 f2 b0 b1
    refine ⟨by simp, .inl ⟨_, _, rfl, run_takeDeferred k5, ?_⟩⟩
    have p6 : PB (W5.putObj D (.deferred none)) (w.heap.size + 1 + 1) 0 0 0 := (World.putObj_heap_other (by omega)).trans p5
    have q6 : (W5.putObj D (.deferred none)).heap[w.heap.size + 1 + 1 + 1]? = some (.cells #[.bool false] 4 (0, 0)) := (World.putObj_heap_other (by omega)).trans q5
    have c0 := p6.c0
    have c1 := p6.c1
    have c2 := p6.c2
    have t0 : (W5.putObj D (.deferred none)).cell? ⟨w.heap.size + 1 + 1 + 1, 0, none⟩ = some (.bool false) := cell_of_row _ _ 0 _ _ _ q6
    have g6 : Below w.heap.size w (W5.putObj D (.deferred none)) := g5.grown (grownBy_putObj' W5 D (.deferred none)) g5.size (fun k e => by cases e; omega)
    generalize W5.putObj D (.deferred none) = W6 at p6 q6 c0 c1 c2 t0 g6 ⊢
    refine ⟨fromVal p high, ?_, rfl, g6⟩
    unfold fromVal
    rw [E1.out]
    simp [results, Try.f35, go_sem, c0, c1, c2, t0]
  case stop =>
    rintro D c pre W hD hpre ⟨rfl, ⟨pre', x, rfl, f1, f2, f3⟩, e4, e5⟩ hK
    have E1 := Lib.hid (fromV_at HP.out hpre f1 f2)
    gi_wp2
    refine ⟨by simp, .inl ⟨_, _, rfl, run_takeDeferred hK, ?_⟩⟩
    have p6 : PB (W.putObj D (.deferred none)) (w.heap.size + 1 + 1) x.1 p.st p.bo := (World.putObj_heap_other (by omega)).trans f3
    have q6 : (W.putObj D (.deferred none)).heap[w.heap.size + 1 + 1 + 1]? = some (.cells #[.bool true] 4 (0, 0)) := (World.putObj_heap_other (by omega)).trans e4
    have c0 := p6.c0
    have c1 := p6.c1
    have c2 := p6.c2
    have t0 : (W.putObj D (.deferred none)).cell? ⟨w.heap.size + 1 + 1 + 1, 0, none⟩ = some (.bool true) := cell_of_row _ _ 0 _ _ _ q6
    have g6 : Below w.heap.size w (W.putObj D (.deferred none)) := e5.grown (grownBy_putObj' W D (.deferred none)) e5.size (fun k e => by cases e; omega)
    generalize W.putObj D (.deferred none) = W7 at p6 q6 c0 c1 c2 t0 g6 ⊢
    refine ⟨fromVal p high, ?_, rfl, g6⟩
    unfold fromVal
    rw [E1.out]
    simp [results, Try.f35, go_sem, c0, c1, c2, t0]

end Go.Proofs.Ytjeflpohokjjkaa
