/- P6Book and P6Pick: contracts. Condition: a code of at most 1048576 bytes. -/
import Derived.Test.YtimojjkblofhnaaSrc3
namespace Go.Proofs.Ytimojjkblofhnaa
set_option linter.unusedSimpArgs false
set_option linter.unusedVariables false
set_option maxRecDepth 100000
open Go.RowKit

theorem K8.keptB {W W' : World} {p B : Nat} {c m0 m1 m2 v wi hi we : Int} (h : K8 W p c m0 m1 m2 v wi hi we) (hb : Below B W W') (hp : p < B) : K8 W' p c m0 m1 m2 v wi hi we := (hb.block p hp).trans h
set_option maxHeartbeats 4000000 in
theorem p6Book_any {w : World} {cv : Value} {zs : List Int} (hc : IntsOf .u8 w cv zs) (hb : ∀ z ∈ zs, 0 ≤ z ∧ z ≤ 255) (hl : zs.length ≤ 1048576) :
    Calls Try.prog 5 #[cv] w fun e w' => ∃ b : Bk, e = .returned (.agg #[.int .i16 b.c, .int .u8 b.m0, .int .u8 b.m1, .int .u8 b.m2, .int .i16 b.v, .int .i16 b.wi, .int .i16 b.hi, .int .i16 b.we]) ∧ bookB b = true ∧ Below w.heap.size w w' := by
  have HC := Lib.hid hc
  obtain ⟨A, c, rfl, -⟩ := hc
  have BA := Lib.hid ((Below.refl w.heap.size w).alloc (Nat.le_refl _) (.cells #[.int .i16 0, .int .u8 0, .int .u8 0, .int .u8 0, .int .i16 0, .int .i16 0, .int .i16 0, .int .i16 0] 27))
  have R0 := Lib.hid (show K8 (w.alloc (.cells #[.int .i16 0, .int .u8 0, .int .u8 0, .int .u8 0, .int .i16 0, .int .i16 0, .int .i16 0, .int .i16 0] 27)) w.heap.size 0 0 0 0 0 0 0 0 from heap_alloc_new w _)
  go_enter Try.func5, Try.ntmps5
  go_upto_region 1 with (fail)
  generalize World.alloc w _ = W0 at BA R0 ⊢
  have z0 := R0.out.lt
  go_wp2_with fail
  refine (from_any _ rfl W0).mono ?_
  rintro e W1 ⟨g, rfl, s1⟩
  have S1 := Lib.hid s1
  clear s1
  go_wp2_with fail
  refine (one_any (HC.out.below BA.out) hb hl S1.out (by omega)).mono ?_
  rintro e W2 ⟨b, rfl, kb, s2⟩
  have KB := Lib.hid kb
  have R2 := Lib.hid (R0.out.keptB s2.bl z0)
  have B2 := Lib.hid (BA.out.trans (s2.bl.mono (by omega)))
  clear s2 kb
  have r0 := R2.out.c0
  have r1 := R2.out.c1
  have r2 := R2.out.c2
  have r3 := R2.out.c3
  have r4 := R2.out.c4
  have r5 := R2.out.c5
  have r6 := R2.out.c6
  have r7 := R2.out.c7
  have fz := R2.out.fz
  have KF := Lib.hid ((((((((R2.out.s0 b.c).s1 b.m0).s2 b.m1).s3 b.m2).s4 b.v).s5 b.wi).s6 b.hi).s7 b.we)
  have BF := Lib.hid ((((((((B2.out.setCell (p := ⟨w.heap.size, 0, none⟩) (Nat.le_refl _) (.int .i16 b.c)).setCell (p := ⟨w.heap.size, 1, none⟩) (Nat.le_refl _) (.int .u8 b.m0)).setCell (p := ⟨w.heap.size, 2, none⟩) (Nat.le_refl _) (.int .u8 b.m1)).setCell (p := ⟨w.heap.size, 3, none⟩) (Nat.le_refl _) (.int .u8 b.m2)).setCell (p := ⟨w.heap.size, 4, none⟩) (Nat.le_refl _) (.int .i16 b.v)).setCell (p := ⟨w.heap.size, 5, none⟩) (Nat.le_refl _) (.int .i16 b.wi)).setCell (p := ⟨w.heap.size, 6, none⟩) (Nat.le_refl _) (.int .i16 b.hi)).setCell (p := ⟨w.heap.size, 7, none⟩) (Nat.le_refl _) (.int .i16 b.we))
  go_wp2
  have q0 := KF.out.c0
  have q1 := KF.out.c1
  have q2 := KF.out.c2
  have q3 := KF.out.c3
  have q4 := KF.out.c4
  have q5 := KF.out.c5
  have q6 := KF.out.c6
  have q7 := KF.out.c7
  exact bodyPost_ret (v := .agg #[.int .i16 b.c, .int .u8 b.m0, .int .u8 b.m1, .int .u8 b.m2, .int .i16 b.v, .int .i16 b.wi, .int .i16 b.hi, .int .i16 b.we]) (by simp [results, Try.results5, go_sem, q0, q1, q2, q3, q4, q5, q6, q7]) rfl ⟨b, rfl, KB.out, BF.out⟩
set_option maxHeartbeats 2000000 in
theorem p6Pick_any {w : World} {cv : Value} {zs : List Int} (hc : IntsOf .u8 w cv zs) (hb : ∀ z ∈ zs, 0 ≤ z ∧ z ≤ 255) (hl : zs.length ≤ 1048576) (n : Int) (hn1 : 2 ≤ n) (hn2 : n ≤ 1048576) :
    Calls Try.prog 10 #[cv, .int .i64 n] w fun e w' => ∃ z, e = .returned (.int .i64 z) ∧ (0 ≤ z ∧ z < n) ∧ Below w.heap.size w w' := by
  have HC := Lib.hid hc
  obtain ⟨A, c, rfl, -⟩ := hc
  go_enter Try.func10, Try.ntmps10
  go_wp2_with fail
  refine (from_any _ rfl w).mono ?_
  rintro e W1 ⟨g, rfl, s1⟩
  have S1 := Lib.hid s1
  clear s1
  go_wp2_with fail
  refine (pick_any HC.out hb hl S1.out (by omega) n hn1 hn2).mono ?_
  rintro e W2 ⟨z, rfl, ⟨za, zb⟩, s2, -⟩
  have B2 := Lib.hid s2.bl
  clear s2
  go_wp2
  go_ret
  exact ⟨z, rfl, ⟨za, zb⟩, B2.out⟩
end Go.Proofs.Ytimojjkblofhnaa
