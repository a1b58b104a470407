/- Orders: the law's copies, and which orders are valid: the model's functions and the program's, contracts. Condition: the order is no longer than a slice can be (the copies: than the law tests). -/
import Derived.Test.YtnkkabbndmfhmaaOrd
import Derived.Deep.Quiet
namespace Go.Proofs.Ytnkkabbndmfhmaa
set_option linter.unusedSimpArgs false
set_option linter.unusedVariables false
set_option maxRecDepth 100000
open Go.RowKit

theorem infoInt8 : (Try.prog.info? 73).map (fun i => (i.zero, i.size, i.bytes)) = some (some (.int .i8 0), 1, 1) := by kernel_rfl

set_option maxHeartbeats 2000000 in
theorem toInt8S_any (v : Value) (zs : List Int) (w : World) (hs : IntsOf .i8 w v zs) (hn : zs.length ≤ 1048576) :
    Calls Try.prog 11 #[v] w fun e w' => ∃ g, e = .returned (.slice (some ⟨g, 0, none⟩) zs.length zs.length) ∧ w.heap.size ≤ g ∧ IRow .i8 73 w' g zs ∧ Below w.heap.size w w' := by
  obtain ⟨A, c, rfl, hs⟩ := hs
  obtain ⟨i0, hi, hz0, hz1, hz2⟩ := info_parts infoInt8
  have hmk := fun W => run_make_rowN (P := Try.prog) 22 73 i0 _ Try.underlying22 hi hz0 .i64 .i64 zs.length zs.length (Nat.le_refl _) (by rw [hz2]; omega) (by omega) W
  rw [hz1, Nat.mul_one] at hmk
  have HM := Lib.hid (IRowK.made .i8 73 w (Value.int .i8 0).cells zs zs.length)
  have HS := Lib.hid hs
  clear hi hz0 hz1 hz2 hs
  go_enter Try.func11, Try.ntmps11
  go_wp2
  go_loopw [4] (fun i wr => ∃ k : Nat, k ≤ zs.length ∧ i = .int .i64 k ∧ IRowK .i8 73 wr w.heap.size zs k zs.length ∧ Below w.heap.size w wr) (fun i _ => zs.length - (intOf i).toNat)
  case atStart => exact ⟨0, Nat.zero_le _, rfl, HM.out, (Below.refl _ _).alloc (Nat.le_refl _) _⟩
  case round =>
    obtain ⟨k, hk, rfl, hrow, hb⟩ := hrel
    by_cases hlt : k < zs.length
    · obtain ⟨ga, oa, rfl, hga, hat⟩ := HS.out (by omega)
      have p0 := hat.below hb hga k hlt
      obtain ⟨u0, q0⟩ := hrow.cell k hlt
      have fz := hrow.frozen
      have HR := Lib.hid hrow
      clear hat hrow
      go_wp2
      go_roundw
      case rel => exact ⟨k + 1, by omega, by go_num, HR.out.step hlt hlt, hb.setCell (p := ⟨w.heap.size, k, none⟩) (Nat.le_refl _) _⟩
      case measure => simp [intOf]; omega
    · obtain rfl : k = zs.length := by omega
      have HR := Lib.hid hrow
      clear hrow
      go_wp2
      go_ret
      exact ⟨_, rfl, Nat.le_refl _, HR.out, hb⟩

set_option maxHeartbeats 2000000 in
theorem eqInt8S_same (v1 v2 : Value) (zs : List Int) (w : World) (hs1 : IntsOf .i8 w v1 zs) (hs2 : IntsOf .i8 w v2 zs) (hn : zs.length ≤ maxLen) :
    Calls Try.prog 15 #[v1, v2] w fun e w' => e = .returned (.bool true) ∧ Below w.heap.size w w' := by
  obtain ⟨A1, k1, rfl, hs1⟩ := hs1
  obtain ⟨A2, k2, rfl, hs2⟩ := hs2
  unfold maxLen at hn
  have H1 := Lib.hid hs1
  have H2 := Lib.hid hs2
  clear hs1 hs2
  go_enter Try.func15, Try.ntmps15
  go_wp2
  go_loopw [5] (fun i wr => ∃ k : Nat, k ≤ zs.length ∧ i = .int .i64 k ∧ Below w.heap.size w wr) (fun i _ => zs.length - (intOf i).toNat)
  case atStart => exact ⟨0, Nat.zero_le _, rfl, Below.refl _ _⟩
  case round =>
    obtain ⟨k, hk, rfl, hb⟩ := hrel
    by_cases hlt : k < zs.length
    · obtain ⟨g1, o1, rfl, hg1, ha1⟩ := H1.out (by omega)
      obtain ⟨g2, o2, rfl, hg2, ha2⟩ := H2.out (by omega)
      have p0 := ha1.below hb hg1 k hlt
      have q0 := ha2.below hb hg2 k hlt
      clear ha1 ha2
      go_wp2
      go_quiet (fail)
      clear p0 q0
      go_wp2
      go_roundw
      case rel => exact ⟨k + 1, by omega, by go_num, below_drewN hb _⟩
      case measure => simp [intOf]; omega
    · obtain rfl : k = zs.length := by omega
      go_wp2
      go_ret
      exact ⟨rfl, hb⟩

set_option maxHeartbeats 400000 in
theorem l01Field_any (z : Int) (w : World) (h0 : -128 ≤ z) (h1 : z ≤ 127) :
    Calls Try.prog 76 #[.int .i8 z] w fun e w' => e = .returned (.int .i8 (fieldOf z)) ∧ w = w' := by
  by_cases h : z < 0
  · by_cases h2 : z = -128
    · subst h2
      go_enter Try.func76, Try.ntmps76
      go_wp2
      go_ret
      exact ⟨rfl, rfl⟩
    · have e : fieldOf z = -z := by unfold fieldOf; rw [if_pos h, if_neg h2]
      have E := Lib.hid e
      clear e
      have hw : IntKind.i8.wrap (-z) = -z := IntWalk.i8_in _ (by omega)
      go_enter Try.func76, Try.ntmps76
      go_wp2
      go_ret
      exact ⟨by rw [E.out]; rfl, rfl⟩
  · have E := Lib.hid (show fieldOf z = z by unfold fieldOf; rw [if_neg h])
    go_enter Try.func76, Try.ntmps76
    go_wp2
    go_ret
    exact ⟨by rw [E.out]; rfl, rfl⟩
set_option maxHeartbeats 400000 in
theorem within8s_any (n low high : Int) (w : World) :
    Calls Try.prog 82 #[.int .i8 n, .int .i8 low, .int .i8 high] w fun e w' => e = .returned (.bool (inB n low high)) ∧ w = w' := by
  by_cases h1 : low ≤ n
  · by_cases h2 : n ≤ high
    · go_enter Try.func82, Try.ntmps82
      go_wp2
      go_ret
      exact ⟨by simp [inB, h1, h2], rfl⟩
    · go_enter Try.func82, Try.ntmps82
      go_wp2
      go_ret
      exact ⟨by simp [inB, h1, h2], rfl⟩
  · have h1' : n < low := by omega
    go_enter Try.func82, Try.ntmps82
    go_wp2
    go_ret
    exact ⟨by simp [inB, show ¬ low ≤ n from by omega], rfl⟩

set_option maxHeartbeats 400000 in
theorem withinInt_any (n low high : Int) (w : World) :
    Calls Try.prog 81 #[.int .i64 n, .int .i64 low, .int .i64 high] w fun e w' => e = .returned (.bool (inB n low high)) ∧ w = w' := by
  by_cases h1 : low ≤ n
  · by_cases h2 : n ≤ high
    · go_enter Try.func81, Try.ntmps81
      go_wp2
      go_ret
      exact ⟨by simp [inB, h1, h2], rfl⟩
    · go_enter Try.func81, Try.ntmps81
      go_wp2
      go_ret
      exact ⟨by simp [inB, h1, h2], rfl⟩
  · have h1' : n < low := by omega
    go_enter Try.func81, Try.ntmps81
    go_wp2
    go_ret
    exact ⟨by simp [inB, show ¬ low ≤ n from by omega], rfl⟩

end Go.Proofs.Ytnkkabbndmfhmaa
