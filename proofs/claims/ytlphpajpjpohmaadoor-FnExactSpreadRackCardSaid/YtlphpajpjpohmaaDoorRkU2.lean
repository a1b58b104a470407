/- A list spread over places, by the program: a contract. Condition: 1 to 60 places, no more books than places. -/
import Derived.Test.YtlphpajpjpohmaaDoorRkU
import Derived.StillTailTactics
namespace Go.Proofs.YtlphpajpjpohmaaDoor
set_option linter.unusedSimpArgs false
set_option linter.unusedVariables false
set_option maxRecDepth 100000
open Go.RowKit Go.Sort

theorem RowN.zero (w : World) (n : Nat) (ps : List Pl) : RowN Pc.cells 101 (w.alloc (.cells (madeCells (.agg #[.bool false, .int .i16 0, .int .u8 0, .int .u8 0, .int .u8 0, .int .i16 0, .int .i16 0, .int .i16 0, .int .i16 0] : Value).cells (n * 9)) 101)) w.heap.size (plcTo n ps 0) n n := by
  refine ⟨_, heap_alloc_new _ _, size_madeCells _ _, fun i hi hin j v hv => ?_⟩
  have e3 : (plcTo n ps 0)[i] = pc0 := by simp [plcTo]
  rw [e3] at hv
  exact made9 [.bool false, .int .i16 0, .int .u8 0, .int .u8 0, .int .u8 0, .int .i16 0, .int .i16 0, .int .i16 0, .int .i16 0] rfl n i j hin v hv
theorem plcTo_spr {n : Nat} {xs : List Bk} {k : Nat} (h : k < xs.length) : plcTo n (sprL n xs) (k + 1) = (plcTo n (sprL n xs) k).set (sprP n xs.length k) ⟨true, xs[k]⟩ := by
  have hl : k < (sprL n xs).length := by rw [sprL_len]; exact h
  rw [plcTo_succ n hl, sprL_at, Int.toNat_natCast]
  simp only
  rw [List.getD_eq_getElem?_getD, List.getElem?_eq_getElem h]
  rfl

set_option maxHeartbeats 16000000 in
theorem spreadOver_any (n : Nat) (v0 : Value) (xs : List Bk) (w : World) (hs : SliceOf w v0 xs) (hn1 : 1 ≤ n) (hn2 : n ≤ 60) (hl : xs.length ≤ n) :
    Calls Tryd.prog 83 #[.int .i64 (n : Int), v0] w fun e w' => ∃ g, e = .returned (.slice (some ⟨g, 0, none⟩) n n) ∧ w.heap.size ≤ g ∧ RowN Pc.cells 101 w' g (plc n (sprL n xs)) n n ∧ Below w.heap.size w w' := by
  obtain ⟨A, c, rfl, hs⟩ := hs
  have HS := Lib.hid hs
  obtain ⟨i0, hi, hz0, hz1, hz2⟩ := info_parts infoPlace
  have hmk := fun W => run_make_rowN (P := Tryd.prog) 76 101 i0 _ Tryd.underlying76 hi hz0 .i64 .i64 n n (Nat.le_refl _) (by rw [hz2]; omega) (by omega) W
  rw [hz1] at hmk
  have M0 := Lib.hid (RowN.zero w n (sprL n xs))
  have G0 := Lib.hid (show Below w.heap.size w (w.alloc (.cells (madeCells (.agg #[.bool false, .int .i16 0, .int .u8 0, .int .u8 0, .int .u8 0, .int .i16 0, .int .i16 0, .int .i16 0, .int .i16 0] : Value).cells (n * 9)) 101)) by go_grown)
  have nn0 : (0 : Int) ≤ (n : Int) := by omega
  have nn : (n : Int) ≤ 60 := by omega
  clear hi hz0 hz1 hz2 hs
  go_enter Tryd.func83, Tryd.ntmps83
  go_wp2
  go_loopw [12] (fun i_ wr => ∃ k : Nat, k ≤ xs.length ∧ i_ = .int .i64 (k : Int) ∧ RowN Pc.cells 101 wr w.heap.size (plcTo n (sprL n xs) k) n n ∧ Below w.heap.size w wr) (fun i_ _ => xs.length - (intOf i_).toNat)
  case atStart => exact ⟨0, Nat.zero_le _, rfl, M0.out, G0.out⟩
  case round =>
    obtain ⟨k, hk, rfl, hrow, hb⟩ := hrel
    have HR := Lib.hid hrow
    have HB := Lib.hid hb
    have zR := HR.out.lt
    clear hrow hb
    by_cases hlt : k < xs.length
    · have hlt' := hlt
      obtain ⟨ga, oa, rfl, hga, hat⟩ := HS.out (by omega)
      obtain ⟨p0, p1, p2, p3, p4, p5, p6, p7⟩ := booksAt_some (hat.below HB.out hga) hlt
      have FE := Lib.hid (plcTo_spr (n := n) hlt)
      have sl := sprP_lt (n := n) (i := k) hlt (by omega)
      have SI := Lib.hid (sprP_int (n := n) (len := xs.length) (k := k) (by omega))
      obtain ⟨j, hj⟩ : ∃ j, sprP n xs.length k = j := ⟨_, rfl⟩
      rw [hj] at FE sl SI
      clear hat hj
      generalize xs[k] = b at FE p0 p1 p2 p3 p4 p5 p6 p7
      have nk : (k : Int) ≤ 60 := by omega
      have k0 : (0 : Int) ≤ (k : Int) := by omega
      have kx : (k : Int) < (xs.length : Int) := by omega
      have xl : (xs.length : Int) ≤ 60 := by omega
      have mu : 0 ≤ (2 * (k : Int) + 1) * (n : Int) ∧ (2 * (k : Int) + 1) * (n : Int) ≤ 7260 := by
        constructor
        · exact Int.mul_nonneg (by omega) (by omega)
        · have : (2 * (k : Int) + 1) * (n : Int) ≤ 121 * 60 := Int.mul_le_mul (by omega) nn nn0 (by omega)
          omega
      have d1 : Below wr.heap.size wr (wr.alloc (.cells #[.int .i16 b.c, .int .u8 b.m0, .int .u8 b.m1, .int .u8 b.m2, .int .i16 b.v, .int .i16 b.wi, .int .i16 b.hi, .int .i16 b.we] 51)) := (Below.refl _ _).alloc (Nat.le_refl _) _
      have X1 := Lib.hid (heap_alloc_new wr (.cells #[.int .i16 b.c, .int .u8 b.m0, .int .u8 b.m1, .int .u8 b.m2, .int .i16 b.v, .int .i16 b.wi, .int .i16 b.hi, .int .i16 b.we] 51))
      have D1 := Lib.hid d1
      clear d1
      go_upto_region 5 with (fail)
      generalize World.alloc wr _ = W1 at D1 X1 ⊢
      have z1 := D1.out.size
      have HR1 := Lib.hid (HR.out.below D1.out HR.out.lt)
      have HB1 := Lib.hid (bnext HB.out D1.out)
      have e0 := cell_of_row W1 _ 0 _ _ _ X1.out
      have e1 := cell_of_row W1 _ 1 _ _ _ X1.out
      have e2 := cell_of_row W1 _ 2 _ _ _ X1.out
      have e3 := cell_of_row W1 _ 3 _ _ _ X1.out
      have e4 := cell_of_row W1 _ 4 _ _ _ X1.out
      have e5 := cell_of_row W1 _ 5 _ _ _ X1.out
      have e6 := cell_of_row W1 _ 6 _ _ _ X1.out
      have e7 := cell_of_row W1 _ 7 _ _ _ X1.out
      simp only [List.getElem?_toArray, List.getElem?_cons_zero, List.getElem?_cons_succ] at e0 e1 e2 e3 e4 e5 e6 e7
      have HR2 := Lib.hid (HR1.out.below ((Below.refl _ W1).drew) HR1.out.lt)
      have HB2 := Lib.hid (HB1.out.drew)
      have wa1 : IntKind.i64.wrap (2 * (k : Int)) = 2 * (k : Int) := IntWalk.i64_in _ (by omega)
      have wa2 : IntKind.i64.wrap (2 * (k : Int) + 1) = 2 * (k : Int) + 1 := IntWalk.i64_in _ (by omega)
      have wa3 : IntKind.i64.wrap ((2 * (k : Int) + 1) * (n : Int)) = (2 * (k : Int) + 1) * (n : Int) := IntWalk.i64_in _ (by omega)
      have wa4 : IntKind.i64.wrap (2 * (xs.length : Int)) = 2 * (xs.length : Int) := IntWalk.i64_in _ (by omega)
      have wa5 : IntKind.i64.wrap (j : Int) = (j : Int) := IntWalk.i64_in _ (by omega)
      have q1 := SI.out
      have nz : ¬ (2 * (xs.length : Int) = 0) := by omega
      have hj1 : (0 : Int) ≤ (j : Int) := by omega
      have hj2 : (j : Int) < (n : Int) := by omega
      clear p0 p1 p2 p3 p4 p5 p6 p7
      go_still_tail 13, (by kernel_rfl)
      clear wa1 wa2 wa3 wa4 wa5 q1 nz e0 e1 e2 e3 e4 e5 e6 e7
      change wpList _ _ _ _ _ W1.drew
      generalize W1.drew = W2 at HR2 HB2 ⊢
      obtain ⟨⟨u0, q0⟩, ⟨u1, q1⟩, ⟨u2, q2⟩, ⟨u3, q3⟩, ⟨u4, q4⟩, ⟨u5, q5⟩, ⟨u6, q6⟩, ⟨u7, q7⟩, ⟨u8, q8⟩⟩ := HR2.out.cells9 j sl
      have fz := HR2.out.frozen
      go_wp2
      go_roundw
      case rel => exact ⟨k + 1, by omega, by go_num, by
        rw [FE.out]
        have pl := plcTo_length n (sprL n xs) k
        exact HR2.out.put j (by omega) sl ⟨true, b⟩ _ _ _ _ _ _ _ _ _ rfl Pc.nine (by omega), set9_below HB2.out (Nat.le_refl _)⟩
      case measure => simp [intOf]; omega
    · obtain rfl : k = xs.length := by omega
      have HR2 := Lib.hid (show RowN Pc.cells 101 wr w.heap.size (plc n (sprL n xs)) n n by
        unfold plc
        rw [sprL_len]
        exact HR.out)
      go_wp2
      go_ret
      exact ⟨_, rfl, Nat.le_refl _, HR2.out, HB.out⟩
end Go.Proofs.YtlphpajpjpohmaaDoor
