/- Levels: which one holds a book, by the model and by the program: contracts. Condition: numbers within their kinds. -/
import Derived.Test.YtlphpajpjpohmabOkH
namespace Go.Proofs.Ytlphpajpjpohmab
set_option linter.unusedSimpArgs false
set_option linter.unusedVariables false
set_option maxRecDepth 100000
open Go.RowKit

theorem infoLevel : (Try.prog.info? 98).map (fun i => (i.zero, i.size, i.bytes)) = some (some .nilIface, 1, 16) := by kernel_rfl

def lvV (i : Nat) (h : Int) : Value := .iface 101 (.agg #[.int .i64 (i : Int), .int .i64 h])
def topV : Value := .iface 103 (.agg #[])

set_option maxHeartbeats 1000000 in
theorem highKeyP_any (b : Bk) (hb : b.Wf) (w : World) :
    Calls Try.prog 100 #[.agg #[.int .i16 b.c, .int .u8 b.m0, .int .u8 b.m1, .int .u8 b.m2, .int .i16 b.v, .int .i16 b.wi, .int .i16 b.hi, .int .i16 b.we]] w fun e w' => e = .returned (.int .i64 b.hi) ∧ Below w.heap.size w w' := by
  have G0 := Lib.hid (show Below w.heap.size w (w.alloc (.cells #[.int .i16 b.c, .int .u8 b.m0, .int .u8 b.m1, .int .u8 b.m2, .int .i16 b.v, .int .i16 b.wi, .int .i16 b.hi, .int .i16 b.we] 59)) by go_grown)
  obtain ⟨_, _, _, _, _, _, ⟨h1, h2⟩, _⟩ := hb
  go_enter Try.func100, Try.ntmps100
  go_wp2
  go_ret
  exact ⟨rfl, G0.out⟩

set_option maxHeartbeats 2000000 in
theorem shelfHolds_any (i : Nat) (h : Int) (b : Bk) (hb : b.Wf) (w : World) :
    Calls Try.prog 99 #[.agg #[.int .i64 (i : Int), .int .i64 h], .agg #[.int .i16 b.c, .int .u8 b.m0, .int .u8 b.m1, .int .u8 b.m2, .int .i16 b.v, .int .i16 b.wi, .int .i16 b.hi, .int .i16 b.we]] w fun e w' => e = .returned (.bool (decide (b.hi ≤ h))) ∧ Below w.heap.size w w' := by
  have CC := Lib.hid (fun W => highKeyP_any b hb W)
  go_enter Try.func99, Try.ntmps99
  go_wp2
  generalize hw0 : World.alloc _ _ = W
  have p1 : W.cell? ⟨w.heap.size, 1, none⟩ = some (.int .i64 h) := by rw [← hw0]; clear hw0; go_simp
  have q0 : W.cell? ⟨w.heap.size + 1, 0, none⟩ = some (.int .i16 b.c) := by rw [← hw0]; clear hw0; go_simp
  have q1 : W.cell? ⟨w.heap.size + 1, 1, none⟩ = some (.int .u8 b.m0) := by rw [← hw0]; clear hw0; go_simp
  have q2 : W.cell? ⟨w.heap.size + 1, 2, none⟩ = some (.int .u8 b.m1) := by rw [← hw0]; clear hw0; go_simp
  have q3 : W.cell? ⟨w.heap.size + 1, 3, none⟩ = some (.int .u8 b.m2) := by rw [← hw0]; clear hw0; go_simp
  have q4 : W.cell? ⟨w.heap.size + 1, 4, none⟩ = some (.int .i16 b.v) := by rw [← hw0]; clear hw0; go_simp
  have q5 : W.cell? ⟨w.heap.size + 1, 5, none⟩ = some (.int .i16 b.wi) := by rw [← hw0]; clear hw0; go_simp
  have q6 : W.cell? ⟨w.heap.size + 1, 6, none⟩ = some (.int .i16 b.hi) := by rw [← hw0]; clear hw0; go_simp
  have q7 : W.cell? ⟨w.heap.size + 1, 7, none⟩ = some (.int .i16 b.we) := by rw [← hw0]; clear hw0; go_simp
  have z0 : w.heap.size < W.heap.size := by rw [← hw0]; clear hw0; simp; omega
  have z1 : w.heap.size + 1 < W.heap.size := by rw [← hw0]; clear hw0; simp
  have g0 : Below w.heap.size w W := by rw [← hw0]; clear hw0; go_grown
  clear hw0
  have p1 := belowBy_cell z0 p1
  have q0 := belowBy_cell z1 q0; have q1 := belowBy_cell z1 q1; have q2 := belowBy_cell z1 q2; have q3 := belowBy_cell z1 q3
  have q4 := belowBy_cell z1 q4; have q5 := belowBy_cell z1 q5; have q6 := belowBy_cell z1 q6; have q7 := belowBy_cell z1 q7
  refine wp_region_below (by kernel_rfl) (by kernel_rfl) ?_
  repeat (quiet_step ((go_at_call 100; exact calls_below (CC.out _))))
  refine wpQuiet_nil ?_
  rintro _ ⟨⟨wq, hq⟩, rfl⟩
  clear p1 q0 q1 q2 q3 q4 q5 q6 q7
  go_wp2
  go_ret
  exact ⟨rfl, bnext g0 hq⟩

set_option maxHeartbeats 1000000 in
theorem topHolds_any (b : Bk) (w : World) :
    Calls Try.prog 101 #[.agg #[], .agg #[.int .i16 b.c, .int .u8 b.m0, .int .u8 b.m1, .int .u8 b.m2, .int .i16 b.v, .int .i16 b.wi, .int .i16 b.hi, .int .i16 b.we]] w fun e w' => e = .returned (.bool true) ∧ Below w.heap.size w w' := by
  go_enter Try.func101, Try.ntmps101
  go_wp2
  go_ret
  exact ⟨rfl, by go_grown⟩

/-- A box with a book. -/
structure BkBox (w : World) (g : Nat) (b : Bk) : Prop where
  c0 : w.cell? ⟨g, 0, none⟩ = some (.int .i16 b.c)
  c1 : w.cell? ⟨g, 1, none⟩ = some (.int .u8 b.m0)
  c2 : w.cell? ⟨g, 2, none⟩ = some (.int .u8 b.m1)
  c3 : w.cell? ⟨g, 3, none⟩ = some (.int .u8 b.m2)
  c4 : w.cell? ⟨g, 4, none⟩ = some (.int .i16 b.v)
  c5 : w.cell? ⟨g, 5, none⟩ = some (.int .i16 b.wi)
  c6 : w.cell? ⟨g, 6, none⟩ = some (.int .i16 b.hi)
  c7 : w.cell? ⟨g, 7, none⟩ = some (.int .i16 b.we)
  lt : g < w.heap.size
theorem BkBox.below {w w' : World} {g : Nat} {b : Bk} (h : BkBox w g b) (hb : Below w.heap.size w w') : BkBox w' g b :=
  have k := fun (o : Nat) (v : Value) (e : w.cell? ⟨g, o, none⟩ = some v) => (hb.cell (p := ⟨g, o, none⟩) h.lt).trans e
  ⟨k _ _ h.c0, k _ _ h.c1, k _ _ h.c2, k _ _ h.c3, k _ _ h.c4, k _ _ h.c5, k _ _ h.c6, k _ _ h.c7, Nat.lt_of_lt_of_le h.lt hb.size⟩
theorem BkBox.new (w : World) (b : Bk) (t : TypeId) : BkBox (w.alloc (.cells #[.int .i16 b.c, .int .u8 b.m0, .int .u8 b.m1, .int .u8 b.m2, .int .i16 b.v, .int .i16 b.wi, .int .i16 b.hi, .int .i16 b.we] t)) w.heap.size b := by
  refine ⟨?_, ?_, ?_, ?_, ?_, ?_, ?_, ?_, by simp⟩ <;> go_simp

set_option maxHeartbeats 1000000 in
theorem levelFor1_shelf (i : Nat) (h : Int) (b : Bk) (hb : b.Wf) (bx : Nat) (w : World) (hx : BkBox w bx b) :
    Calls Try.prog 75 #[lvV i h, .pointer (some ⟨bx, 0, none⟩)] w fun e w' => e = .returned (.bool (decide (b.hi ≤ h))) ∧ Below w.heap.size w w' := by
  obtain ⟨p0, p1, p2, p3, p4, p5, p6, p7, -⟩ := hx
  unfold lvV
  go_enter Try.func75, Try.ntmps75
  go_wp2_with (go_at_call 99; refine (shelfHolds_any i h b hb _).mono ?_; rintro e w1 ⟨rfl, g1⟩)
  go_ret
  exact ⟨rfl, g1⟩
set_option maxHeartbeats 1000000 in
theorem levelFor1_top (b : Bk) (bx : Nat) (w : World) (hx : BkBox w bx b) :
    Calls Try.prog 75 #[topV, .pointer (some ⟨bx, 0, none⟩)] w fun e w' => e = .returned (.bool true) ∧ Below w.heap.size w w' := by
  obtain ⟨p0, p1, p2, p3, p4, p5, p6, p7, -⟩ := hx
  unfold topV
  go_enter Try.func75, Try.ntmps75
  go_wp2_with (go_at_call 101; refine (topHolds_any b _).mono ?_; rintro e w1 ⟨rfl, g1⟩)
  go_ret
  exact ⟨rfl, g1⟩

end Go.Proofs.Ytlphpajpjpohmab
