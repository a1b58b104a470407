/- A region that draws its order, whose operations read and whose calls may make memory of their own: walked once, in the class of worlds in which all that was there stands. No condition. -/
import Derived.Test.YtjeflpohokjjkaaRow
import Derived.Deep.Quiet
namespace Go.Proofs.Ytjeflpohokjjkaa
set_option linter.unusedSimpArgs false
set_option linter.unusedVariables false
set_option maxRecDepth 100000
open Go.RowKit

structure BelowBy (w : World) where
  W : World
  h : Below w.heap.size w W

instance (w : World) : Inhabited (BelowBy w) := ⟨⟨w, Below.refl _ _⟩⟩

theorem wp_region_below {P : Program} {id : Nat} {Q : Exit → Act → World → Prop} {a : Act} {w : World} {l : List Oper} (hm : P.follows .mixedOrders = true) (hB : Region.lexB .any l.toArray = true)
    (h : wpQuiet P l.toArray (fun w' => ∃ p : BelowBy w, w' = p.W) (fun a' => ∀ w', (∃ p : BelowBy w, w' = p.W) → Q .normal a' w') l a) : (Code.region id l.toArray true).wp P Q a w :=
  wp_region_quiet (C := fun w' => ∃ p : BelowBy w, w' = p.W) hm hB ⟨⟨w.drew, (Below.refl _ _).drew⟩, rfl⟩ (by simpa using h)

theorem calls_below {P : Program} {f : FuncId} {args : Array Value} {w : World} {p : BelowBy w} {v : Value}
    (h : Calls P f args p.W fun e w' => e = .returned v ∧ Below p.W.heap.size p.W w') : Calls P f args p.W fun e w'' => e = .returned v ∧ ∃ p : BelowBy w, w'' = p.W :=
  h.mono fun _ w'' ⟨he, hb⟩ => ⟨he, ⟨w'', bnext p.h hb⟩, rfl⟩

theorem calls_same_below {P : Program} {f : FuncId} {args : Array Value} {w : World} {p : BelowBy w} {v : Value}
    (h : Calls P f args p.W fun e w' => e = .returned v ∧ p.W = w') : Calls P f args p.W fun e w'' => e = .returned v ∧ ∃ p : BelowBy w, w'' = p.W :=
  h.mono fun _ _ ⟨he, hb⟩ => ⟨he, p, hb.symm⟩

theorem belowBy_cell {w : World} {g o : Nat} {v : Value} (hg : g < w.heap.size) (h : w.cell? ⟨g, o, none⟩ = some v) (p : BelowBy w) : p.W.cell? ⟨g, o, none⟩ = some v := (p.h.cell (p := ⟨g, o, none⟩) hg).trans h

set_option maxHeartbeats 2000000 in
theorem eqByteA3_same (x y z : Int) (w : World) :
    Calls Try.prog 41 #[.agg #[.int .u8 x, .int .u8 y, .int .u8 z], .agg #[.int .u8 x, .int .u8 y, .int .u8 z]] w fun e w' => e = .returned (.bool true) ∧ Below w.heap.size w w' := by
  go_enter Try.func41, Try.ntmps41
  go_wp2
  refine wp_loop_rounds 4 ?_
  rw [rounds_succ]; go_wp2; go_quiet (fail); go_wp2
  rw [rounds_succ]; go_wp2; go_quiet (fail); go_wp2
  rw [rounds_succ]; go_wp2; go_quiet (fail); go_wp2
  rw [rounds_succ]; go_wp2
  go_ret
  exact ⟨rfl, below_drewN (by go_grown) _⟩

set_option maxHeartbeats 2000000 in
theorem eqBook_same (b : Bk) (w : World) :
    Calls Try.prog 23 #[.agg #[.int .i16 b.c, .int .u8 b.m0, .int .u8 b.m1, .int .u8 b.m2, .int .i16 b.v, .int .i16 b.wi, .int .i16 b.hi, .int .i16 b.we], .agg #[.int .i16 b.c, .int .u8 b.m0, .int .u8 b.m1, .int .u8 b.m2, .int .i16 b.v, .int .i16 b.wi, .int .i16 b.hi, .int .i16 b.we]] w fun e w' =>
      e = .returned (.bool true) ∧ Below w.heap.size w w' := by
  go_enter Try.func23, Try.ntmps23
  go_wp2_with fail
  refine (eqByteA3_same _ _ _ _).mono ?_
  rintro e w1 ⟨rfl, h1⟩
  obtain ⟨c1, f1⟩ := bcell h1
  go_wp2
  go_ret
  exact ⟨rfl, bnew _ (bnew _ h1)⟩

set_option maxHeartbeats 2000000 in
theorem eqBookS_same (v1 v2 : Value) (xs : List Bk) (w : World) (hs1 : SliceOf w v1 xs) (hs2 : SliceOf w v2 xs) (hn : xs.length ≤ maxLen) :
    Calls Try.prog 11 #[v1, v2] w fun e w' => e = .returned (.bool true) ∧ Below w.heap.size w w' := by
  obtain ⟨A1, k1, rfl, hs1⟩ := hs1
  obtain ⟨A2, k2, rfl, hs2⟩ := hs2
  unfold maxLen at hn
  have H1 := Lib.hid hs1
  have H2 := Lib.hid hs2
  clear hs1 hs2
  go_enter Try.func11, Try.ntmps11
  go_wp2
  go_loopw [5] (fun i wr => ∃ k : Nat, k ≤ xs.length ∧ i = .int .i64 k ∧ Below w.heap.size w wr) (fun i _ => xs.length - (intOf i).toNat)
  case atStart => exact ⟨0, Nat.zero_le _, rfl, Below.refl _ _⟩
  case round =>
    obtain ⟨k, hk, rfl, hb⟩ := hrel
    by_cases hlt : k < xs.length
    · obtain ⟨g1, o1, rfl, hg1, ha1⟩ := H1.out (by omega)
      obtain ⟨g2, o2, rfl, hg2, ha2⟩ := H2.out (by omega)
      obtain ⟨p0, p1, p2, p3, p4, p5, p6, p7⟩ := booksAt_some (ha1.below hb hg1) hlt
      obtain ⟨q0, q1, q2, q3, q4, q5, q6, q7⟩ := booksAt_some (ha2.below hb hg2) hlt
      have z1 := Nat.lt_of_lt_of_le hg1 hb.size
      have z2 := Nat.lt_of_lt_of_le hg2 hb.size
      have p0 := belowBy_cell z1 p0; have p1 := belowBy_cell z1 p1; have p2 := belowBy_cell z1 p2; have p3 := belowBy_cell z1 p3
      have p4 := belowBy_cell z1 p4; have p5 := belowBy_cell z1 p5; have p6 := belowBy_cell z1 p6; have p7 := belowBy_cell z1 p7
      have q0 := belowBy_cell z2 q0; have q1 := belowBy_cell z2 q1; have q2 := belowBy_cell z2 q2; have q3 := belowBy_cell z2 q3
      have q4 := belowBy_cell z2 q4; have q5 := belowBy_cell z2 q5; have q6 := belowBy_cell z2 q6; have q7 := belowBy_cell z2 q7
      clear ha1 ha2
      go_wp2
      refine wp_region_below (by kernel_rfl) (by kernel_rfl) ?_
      repeat (quiet_step ((go_at_call 23; exact calls_below (eqBook_same _ _))))
      refine wpQuiet_nil ?_
      rintro _ ⟨⟨wq, hq⟩, rfl⟩
      clear p0 p1 p2 p3 p4 p5 p6 p7 q0 q1 q2 q3 q4 q5 q6 q7
      go_wp2
      go_roundw
      case rel => exact ⟨k + 1, by omega, by go_num, hb.trans (hq.mono hb.size)⟩
      case measure => simp [intOf]; omega
    · obtain rfl : k = xs.length := by omega
      go_wp2
      go_ret
      exact ⟨rfl, hb⟩
end Go.Proofs.Ytjeflpohokjjkaa
