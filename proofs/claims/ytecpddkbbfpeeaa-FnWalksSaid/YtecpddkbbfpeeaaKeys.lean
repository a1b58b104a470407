/- The program's keys of a book, and its comparison of numbers: contracts. Condition: a book's numbers lie within their kinds. -/
import Derived.Test.YtecpddkbbfpeeaaCompare
import Derived.Laws.BitsAllLaws
import Derived.Laws.BitsLemmas
namespace Go.Proofs.Ytecpddkbbfpeeaa
set_option linter.unusedSimpArgs false
set_option linter.unusedVariables false
set_option maxRecDepth 100000
open Go.RowKit

theorem ofInt_i64 (a : Nat) (ha : a < 9223372036854775808) : (BitVec.ofInt 64 (a : Int)).toNat = a := by
  rw [BitVec.ofInt_natCast, BitVec.toNat_ofNat]; exact Nat.mod_eq_of_lt (by omega)
theorem i64_or_nat (a b : Nat) (ha : a < 9223372036854775808) (hb : b < 9223372036854775808) : bits .or .i64 (a : Int) (b : Int) = ((a ||| b : Nat) : Int) := by
  have hx : a ||| b < 2 ^ 63 := Nat.or_lt_two_pow (by omega) (by omega)
  show IntKind.i64.wrap ((BitVec.ofInt 64 (a : Int) ||| BitVec.ofInt 64 (b : Int)).toNat : Int) = _
  rw [BitVec.toNat_or, ofInt_i64 a ha, ofInt_i64 b hb, IntKind.wrap_i64]
  omega
theorem or_mark (x y z : Int) (hx : 0 ≤ x ∧ x ≤ 255) (hy : 0 ≤ y ∧ y ≤ 255) (hz : 0 ≤ z ∧ z ≤ 255) : bits .or .i64 (bits .or .i64 (x * 65536) (y * 256)) z = x * 65536 + y * 256 + z := by
  obtain ⟨a, rfl⟩ : ∃ a : Nat, x = a := ⟨x.toNat, by omega⟩
  obtain ⟨b, rfl⟩ : ∃ b : Nat, y = b := ⟨y.toNat, by omega⟩
  obtain ⟨c, rfl⟩ : ∃ c : Nat, z = c := ⟨z.toNat, by omega⟩
  have e1 : bits .or .i64 ((a : Int) * 65536) ((b : Int) * 256) = ((2 ^ 8 * (a * 256 + b) : Nat) : Int) := by
    rw [show (a : Int) * 65536 = ((2 ^ 16 * a : Nat) : Int) by omega, show (b : Int) * 256 = ((b * 256 : Nat) : Int) by omega, i64_or_nat _ _ (by omega) (by omega), ← Nat.two_pow_add_eq_or_of_lt (by omega)]
    omega
  rw [e1, i64_or_nat _ _ (by omega) (by omega), ← Nat.two_pow_add_eq_or_of_lt (by omega)]
  omega

set_option maxHeartbeats 400000 in
theorem classKey_any (b : Bk) (hb : b.Wf) (w : World) :
    Calls Try.prog 68 #[.agg #[.int .i16 b.c, .int .u8 b.m0, .int .u8 b.m1, .int .u8 b.m2, .int .i16 b.v, .int .i16 b.wi, .int .i16 b.hi, .int .i16 b.we]] w fun e w' => e = .returned (.int .i64 b.c) ∧ Below w.heap.size w w' := by
  obtain ⟨⟨c1, c2⟩, ⟨x1, x2⟩, ⟨y1, y2⟩, ⟨z1, z2⟩, ⟨v1, v2⟩, ⟨i1, i2⟩, ⟨j1, j2⟩, ⟨k1, k2⟩⟩ := hb
  go_enter Try.func68, Try.ntmps68
  go_wp2
  go_ret
  exact ⟨rfl, by go_grown⟩

set_option maxHeartbeats 400000 in
theorem volumeKey_any (b : Bk) (hb : b.Wf) (w : World) :
    Calls Try.prog 70 #[.agg #[.int .i16 b.c, .int .u8 b.m0, .int .u8 b.m1, .int .u8 b.m2, .int .i16 b.v, .int .i16 b.wi, .int .i16 b.hi, .int .i16 b.we]] w fun e w' => e = .returned (.int .i64 b.v) ∧ Below w.heap.size w w' := by
  obtain ⟨⟨c1, c2⟩, ⟨x1, x2⟩, ⟨y1, y2⟩, ⟨z1, z2⟩, ⟨v1, v2⟩, ⟨i1, i2⟩, ⟨j1, j2⟩, ⟨k1, k2⟩⟩ := hb
  go_enter Try.func70, Try.ntmps70
  go_wp2
  go_ret
  exact ⟨rfl, by go_grown⟩

set_option maxHeartbeats 400000 in
theorem wideKey_any (b : Bk) (hb : b.Wf) (w : World) :
    Calls Try.prog 31 #[.agg #[.int .i16 b.c, .int .u8 b.m0, .int .u8 b.m1, .int .u8 b.m2, .int .i16 b.v, .int .i16 b.wi, .int .i16 b.hi, .int .i16 b.we]] w fun e w' => e = .returned (.int .i64 b.wi) ∧ Below w.heap.size w w' := by
  obtain ⟨⟨c1, c2⟩, ⟨x1, x2⟩, ⟨y1, y2⟩, ⟨z1, z2⟩, ⟨v1, v2⟩, ⟨i1, i2⟩, ⟨j1, j2⟩, ⟨k1, k2⟩⟩ := hb
  go_enter Try.func31, Try.ntmps31
  go_wp2
  go_ret
  exact ⟨rfl, by go_grown⟩

set_option maxHeartbeats 400000 in
theorem highKey_any (b : Bk) (hb : b.Wf) (w : World) :
    Calls Try.prog 35 #[.agg #[.int .i16 b.c, .int .u8 b.m0, .int .u8 b.m1, .int .u8 b.m2, .int .i16 b.v, .int .i16 b.wi, .int .i16 b.hi, .int .i16 b.we]] w fun e w' => e = .returned (.int .i64 b.hi) ∧ Below w.heap.size w w' := by
  obtain ⟨⟨c1, c2⟩, ⟨x1, x2⟩, ⟨y1, y2⟩, ⟨z1, z2⟩, ⟨v1, v2⟩, ⟨i1, i2⟩, ⟨j1, j2⟩, ⟨k1, k2⟩⟩ := hb
  go_enter Try.func35, Try.ntmps35
  go_wp2
  go_ret
  exact ⟨rfl, by go_grown⟩

set_option maxHeartbeats 400000 in
theorem weightKey_any (b : Bk) (hb : b.Wf) (w : World) :
    Calls Try.prog 32 #[.agg #[.int .i16 b.c, .int .u8 b.m0, .int .u8 b.m1, .int .u8 b.m2, .int .i16 b.v, .int .i16 b.wi, .int .i16 b.hi, .int .i16 b.we]] w fun e w' => e = .returned (.int .i64 b.we) ∧ Below w.heap.size w w' := by
  obtain ⟨⟨c1, c2⟩, ⟨x1, x2⟩, ⟨y1, y2⟩, ⟨z1, z2⟩, ⟨v1, v2⟩, ⟨i1, i2⟩, ⟨j1, j2⟩, ⟨k1, k2⟩⟩ := hb
  go_enter Try.func32, Try.ntmps32
  go_wp2
  go_ret
  exact ⟨rfl, by go_grown⟩

set_option maxHeartbeats 400000 in
theorem markKey_any (b : Bk) (hb : b.Wf) (w : World) :
    Calls Try.prog 69 #[.agg #[.int .i16 b.c, .int .u8 b.m0, .int .u8 b.m1, .int .u8 b.m2, .int .i16 b.v, .int .i16 b.wi, .int .i16 b.hi, .int .i16 b.we]] w fun e w' => e = .returned (.int .i64 (b.m0 * 65536 + b.m1 * 256 + b.m2)) ∧ Below w.heap.size w w' := by
  obtain ⟨⟨c1, c2⟩, ⟨x1, x2⟩, ⟨y1, y2⟩, ⟨z1, z2⟩, ⟨v1, v2⟩, ⟨i1, i2⟩, ⟨j1, j2⟩, ⟨k1, k2⟩⟩ := hb
  go_enter Try.func69, Try.ntmps69
  go_wp2
  go_ret
  refine ⟨?_, by go_grown⟩
  show Ending.returned (Value.int IntKind.i64 (bits BinOp.or IntKind.i64 (bits BinOp.or IntKind.i64 (b.m0 * 65536) (b.m1 * 256)) b.m2)) = _
  rw [or_mark b.m0 b.m1 b.m2 ⟨x1, x2⟩ ⟨y1, y2⟩ ⟨z1, z2⟩]

set_option maxHeartbeats 400000 in
theorem isNaN_any (x : Int) (w : World) :
    Calls Try.prog 75 #[.int .i64 x] w fun e w' => e = .returned (.bool false) ∧ w = w' := by
  go_enter Try.func75, Try.ntmps75
  go_wp2
  go_ret
  exact ⟨rfl, rfl⟩

set_option maxHeartbeats 400000 in
theorem cmpCompare_any (x y : Int) (w : World) :
    Calls Try.prog 71 #[.int .i64 x, .int .i64 y] w fun e w' => e = .returned (.int .i64 (sgn x y)) ∧ w = w' := by
  by_cases h1 : x < y
  · have E := Lib.hid (show sgn x y = -1 by unfold sgn; rw [if_pos h1])
    go_enter Try.func71, Try.ntmps71
    go_wp2_with (go_at_call 75; refine (isNaN_any _ _).mono ?_; rintro e w' ⟨rfl, rfl⟩)
    go_ret
    exact ⟨by rw [E.out]; rfl, rfl⟩
  · by_cases h2 : y < x
    · have E := Lib.hid (show sgn x y = 1 by unfold sgn; rw [if_neg h1, if_pos h2])
      go_enter Try.func71, Try.ntmps71
      go_wp2_with (go_at_call 75; refine (isNaN_any _ _).mono ?_; rintro e w' ⟨rfl, rfl⟩)
      go_ret
      exact ⟨by rw [E.out]; rfl, rfl⟩
    · have E := Lib.hid (show sgn x y = 0 by unfold sgn; rw [if_neg h1, if_neg h2])
      go_enter Try.func71, Try.ntmps71
      go_wp2_with (go_at_call 75; refine (isNaN_any _ _).mono ?_; rintro e w' ⟨rfl, rfl⟩)
      go_ret
      exact ⟨by rw [E.out]; rfl, rfl⟩

end Go.Proofs.Ytecpddkbbfpeeaa
