/- The book of a label, by the program: a contract. No condition. -/
import Derived.Test.YtimojjkblofhnaaLabB
import Derived.Laws.CopyOwn
import Derived.Laws.ResultCell
namespace Go.Proofs.Ytimojjkblofhnaa
set_option linter.unusedSimpArgs false
set_option linter.unusedVariables false
set_option maxRecDepth 100000
open Go.RowKit

/-- The book that the program reads from nine bytes. -/
def bkT (T : ByteArray) : Bk := ⟨numF (zl (T.extract 0 3)) 3, (zl (T.extract 3 6)).getD 0 0, (zl (T.extract 3 6)).getD 1 0, (zl (T.extract 3 6)).getD 2 0, numF (zl (T.extract 6 8)) 2, 1, 50, 1⟩
def isP (T : ByteArray) : Bool := (labR (bkT T)).toList == T.toList
theorem cells3 (S : ByteArray) (h : S.size = 3) : Lib.byteCells S.data.toList = [.int .u8 ((zl S).getD 0 0), .int .u8 ((zl S).getD 1 0), .int .u8 ((zl S).getD 2 0)] := by
  have h2 : S.data.toList.length = 3 := by rw [Array.length_toList]; exact h
  unfold zl
  match S.data.toList, h2 with
  | [a, b, c], _ => rfl

theorem bkT_wf (T : ByteArray) (h9 : T.size = 9) : (bkT T).Wf := by
  have n2 := numF_bd3 (zl (T.extract 0 3)) 2 (by omega)
  have n3 : numF (zl (T.extract 0 3)) 3 = numF (zl (T.extract 0 3)) 2 * 10 + ((zl (T.extract 0 3)).getD 2 0 - 48) % 256 := rfl
  have v2 := numF_bd3 (zl (T.extract 6 8)) 2 (by omega)
  have e2 : (T.extract 3 6).size = 3 := by rw [ByteArray.size_extract]; omega
  have m0 := zl_at (T.extract 3 6) 0 (by omega)
  have m1 := zl_at (T.extract 3 6) 1 (by omega)
  have m2 := zl_at (T.extract 3 6) 2 (by omega)
  have u := fun (x : UInt8) => x.toNat_lt
  have u0 := u (T.extract 3 6)[0]
  have u1 := u (T.extract 3 6)[1]
  have u2 := u (T.extract 3 6)[2]
  refine ⟨?_, ?_, ?_, ?_, ?_, ?_, ?_, ?_⟩
  all_goals unfold bkT
  all_goals dsimp only
  all_goals omega

set_option maxHeartbeats 4000000 in
theorem bookOfLabel_any (T : ByteArray) (h9 : T.size = 9) (w : World) :
    Calls Try.prog 23 #[.string T] w fun e w' => e = .returned (.tuple #[.agg #[.int .i16 (bkT T).c, .int .u8 (bkT T).m0, .int .u8 (bkT T).m1, .int .u8 (bkT T).m2, .int .i16 (bkT T).v, .int .i16 1, .int .i16 50, .int .i16 1], .bool (isP T)]) ∧ Below w.heap.size w w' := by
  have e1 : (T.extract 0 3).size = 3 := by rw [ByteArray.size_extract]; omega
  have e2 : (T.extract 3 6).size = 3 := by rw [ByteArray.size_extract]; omega
  have e3 : (T.extract 6 8).size = 2 := by rw [ByteArray.size_extract]; omega
  have N1 := Lib.hid (fun W => numberOf_any (T.extract 0 3) (by omega) W)
  have N2 := Lib.hid (fun W => numberOf_any (T.extract 6 8) (by omega) W)
  rw [e1] at N1
  rw [e3] at N2
  obtain ⟨c, hC⟩ : ∃ c, c = numF (zl (T.extract 0 3)) 3 := ⟨_, rfl⟩
  obtain ⟨v, hV⟩ : ∃ v, v = numF (zl (T.extract 6 8)) 2 := ⟨_, rfl⟩
  rw [← hC] at N1
  rw [← hV] at N2
  have CC := Lib.hid (cells3 _ e2)
  obtain ⟨m0, hm0⟩ : ∃ m, m = (zl (T.extract 3 6)).getD 0 0 := ⟨_, rfl⟩
  obtain ⟨m1, hm1⟩ : ∃ m, m = (zl (T.extract 3 6)).getD 1 0 := ⟨_, rfl⟩
  obtain ⟨m2, hm2⟩ : ∃ m, m = (zl (T.extract 3 6)).getD 2 0 := ⟨_, rfl⟩
  rw [← hm0, ← hm1, ← hm2] at CC
  have HB := Lib.hid (show bkT T = ⟨c, m0, m1, m2, v, 1, 50, 1⟩ by rw [hC, hV, hm0, hm1, hm2]; rfl)
  clear hC hV hm0 hm1 hm2
  have LO := Lib.hid (fun W => labelOf_any (bkT T) (bkT_wf T h9) W)
  rw [HB.out] at LO
  rw [← HB.out] at LO
  have HR := Lib.hid (show isP T = ((labR (bkT T)).toList == T.toList) from rfl)
  generalize labR (bkT T) = R at *
  rw [HR.out, HB.out]
  rw [HB.out] at LO
  clear HB HR
  dsimp only at LO ⊢
  have GZ := Lib.hid (show Below w.heap.size w ((w.alloc (.cells #[.int .i16 0, .int .u8 0, .int .u8 0, .int .u8 0, .int .i16 0, .int .i16 0, .int .i16 0, .int .i16 0] 27)).alloc (.cells #[.int .i16 c, .int .u8 0, .int .u8 0, .int .u8 0, .int .i16 v, .int .i16 1, .int .i16 50, .int .i16 1] 27)).drew from (((Below.refl _ _).alloc (Nat.le_refl _) _).alloc (by simp) _).drew)
  have BZ := Lib.hid (show ((w.alloc (.cells #[.int .i16 0, .int .u8 0, .int .u8 0, .int .u8 0, .int .i16 0, .int .i16 0, .int .i16 0, .int .i16 0] 27)).alloc (.cells #[.int .i16 c, .int .u8 0, .int .u8 0, .int .u8 0, .int .i16 v, .int .i16 1, .int .i16 50, .int .i16 1] 27)).drew.heap[w.heap.size]? = some (.cells #[.int .i16 0, .int .u8 0, .int .u8 0, .int .u8 0, .int .i16 0, .int .i16 0, .int .i16 0, .int .i16 0] 27 (0, 0)) from (Below.heap_alloc _ _ _ (by simp)).trans (heap_alloc_new w _))
  have BY := Lib.hid (show ((w.alloc (.cells #[.int .i16 0, .int .u8 0, .int .u8 0, .int .u8 0, .int .i16 0, .int .i16 0, .int .i16 0, .int .i16 0] 27)).alloc (.cells #[.int .i16 c, .int .u8 0, .int .u8 0, .int .u8 0, .int .i16 v, .int .i16 1, .int .i16 50, .int .i16 1] 27)).drew.heap[w.heap.size + 1]? = some (.cells #[.int .i16 c, .int .u8 0, .int .u8 0, .int .u8 0, .int .i16 v, .int .i16 1, .int .i16 50, .int .i16 1] 27 (0, 0)) from by have := heap_alloc_new (w.alloc (.cells #[.int .i16 0, .int .u8 0, .int .u8 0, .int .u8 0, .int .i16 0, .int .i16 0, .int .i16 0, .int .i16 0] 27)) (.cells #[.int .i16 c, .int .u8 0, .int .u8 0, .int .u8 0, .int .i16 v, .int .i16 1, .int .i16 50, .int .i16 1] 27); rwa [show (w.alloc (.cells #[.int .i16 0, .int .u8 0, .int .u8 0, .int .u8 0, .int .i16 0, .int .i16 0, .int .i16 0, .int .i16 0] 27)).heap.size = w.heap.size + 1 by simp] at this)
  go_enter Try.func23, Try.ntmps23
  go_wp2_with fail
  go_region_law ((go_simp; go_at_call 40; first | (with_reducible refine (N1.out _).mono ?_) | (with_reducible refine (N2.out _).mono ?_); rintro e w' ⟨rfl, rfl⟩))
  all_goals
    generalize World.drew _ = W3 at GZ BZ BY ⊢
    have CP0 := Lib.run_copy_row_string (P := Try.prog) W3.drew 22 9 3 5 (w.heap.size + 1) 1 3 3 (T.extract 3 6) _ 27 Try.underlying22 (by kernel_rfl) BY.out (by omega) (by rw [e2]; show 4 ≤ 8; decide)
    rw [CC.out, e2] at CP0
    have CP : (Builtin.copy_ #[22, 9] 3 #[.slice (some ⟨w.heap.size + 1, 1, none⟩) 3 3, .string (T.extract 3 6)]).run Try.prog W3.drew = .ok (.int .i64 3) (W3.drew.setRow (w.heap.size + 1) #[.int .i16 c, .int .u8 m0, .int .u8 m1, .int .u8 m2, .int .i16 v, .int .i16 1, .int .i16 50, .int .i16 1]) := CP0
    clear CP0
    have G4 := Lib.hid (below_setRow GZ.out.drew (g := w.heap.size + 1) (by omega) #[.int .i16 c, .int .u8 m0, .int .u8 m1, .int .u8 m2, .int .i16 v, .int .i16 1, .int .i16 50, .int .i16 1])
    have B4 := Lib.hid ((setRow_other W3.drew (w.heap.size + 1) w.heap.size #[.int .i16 c, .int .u8 m0, .int .u8 m1, .int .u8 m2, .int .i16 v, .int .i16 1, .int .i16 50, .int .i16 1] (by omega)).trans BZ.out)
    have C4 := Lib.hid (setRow_heap W3.drew (w.heap.size + 1) _ #[.int .i16 c, .int .u8 m0, .int .u8 m1, .int .u8 m2, .int .i16 v, .int .i16 1, .int .i16 50, .int .i16 1] 27 (0, 0) BY.out)
    generalize World.setRow W3.drew _ _ = W4 at CP G4 B4 C4
    go_wp2
    go_region
    all_goals
      clear CP N1 N2 GZ BZ BY CC
      have z4 := G4.out.size
      have y0 : w.heap.size < W4.heap.size := (Array.getElem?_eq_some_iff.1 B4.out).1
      have y1 : w.heap.size + 1 < W4.heap.size := (Array.getElem?_eq_some_iff.1 C4.out).1
      have q0 : W4.cell? ⟨w.heap.size + 1, 0, none⟩ = some (.int .i16 c) := cell_of_row W4 _ 0 _ _ _ C4.out
      have q1 : W4.cell? ⟨w.heap.size + 1, 1, none⟩ = some (.int .u8 m0) := cell_of_row W4 _ 1 _ _ _ C4.out
      have q2 : W4.cell? ⟨w.heap.size + 1, 2, none⟩ = some (.int .u8 m1) := cell_of_row W4 _ 2 _ _ _ C4.out
      have q3 : W4.cell? ⟨w.heap.size + 1, 3, none⟩ = some (.int .u8 m2) := cell_of_row W4 _ 3 _ _ _ C4.out
      have q4 : W4.cell? ⟨w.heap.size + 1, 4, none⟩ = some (.int .i16 v) := cell_of_row W4 _ 4 _ _ _ C4.out
      have q5 : W4.cell? ⟨w.heap.size + 1, 5, none⟩ = some (.int .i16 1) := cell_of_row W4 _ 5 _ _ _ C4.out
      have q6 : W4.cell? ⟨w.heap.size + 1, 6, none⟩ = some (.int .i16 50) := cell_of_row W4 _ 6 _ _ _ C4.out
      have q7 : W4.cell? ⟨w.heap.size + 1, 7, none⟩ = some (.int .i16 1) := cell_of_row W4 _ 7 _ _ _ C4.out
      have p0 : W4.cell? ⟨w.heap.size, 0, none⟩ = some (.int .i16 0) := cell_of_row W4 _ 0 _ _ _ B4.out
      have p1 : W4.cell? ⟨w.heap.size, 1, none⟩ = some (.int .u8 0) := cell_of_row W4 _ 1 _ _ _ B4.out
      have p2 : W4.cell? ⟨w.heap.size, 2, none⟩ = some (.int .u8 0) := cell_of_row W4 _ 2 _ _ _ B4.out
      have p3 : W4.cell? ⟨w.heap.size, 3, none⟩ = some (.int .u8 0) := cell_of_row W4 _ 3 _ _ _ B4.out
      have p4 : W4.cell? ⟨w.heap.size, 4, none⟩ = some (.int .i16 0) := cell_of_row W4 _ 4 _ _ _ B4.out
      have p5 : W4.cell? ⟨w.heap.size, 5, none⟩ = some (.int .i16 0) := cell_of_row W4 _ 5 _ _ _ B4.out
      have p6 : W4.cell? ⟨w.heap.size, 6, none⟩ = some (.int .i16 0) := cell_of_row W4 _ 6 _ _ _ B4.out
      have p7 : W4.cell? ⟨w.heap.size, 7, none⟩ = some (.int .i16 0) := cell_of_row W4 _ 7 _ _ _ B4.out
      have fz : ∀ o, W4.frozen? ⟨w.heap.size, o, none⟩ = false := fun o => frozen_of_row W4 _ o _ _ B4.out
      go_wp2
      go_region_law ((go_simp; go_at_call 6; with_reducible refine (LO.out _).mono ?_; rintro e w5 ⟨rfl, h5⟩; obtain ⟨c5, f5⟩ := bcell h5; have cA := fun o => c5 w.heap.size o (by simp; omega); have cB := fun o => c5 (w.heap.size + 1) o (by simp; omega); have fA := fun o => f5 w.heap.size o (by simp; omega)))
      all_goals
        clear q0 q1 q2 q3 q4 q5 q6 q7
        go_wp2
        (try simp only [Exit.inBlock, Exit.then])
        refine bodyPost_ret (v := .tuple #[.agg #[.int .i16 c, .int .u8 m0, .int .u8 m1, .int .u8 m2, .int .i16 v, .int .i16 1, .int .i16 50, .int .i16 1], .bool (R.toList == T.toList)]) (by rw [results_cell_tmp rfl]; go_simp) rfl ?_
        refine ⟨rfl, ?_⟩
        have b5 := bnext G4.out.drew h5
        exact (((((((b5.setCell (Nat.le_refl _) _).setCell (Nat.le_refl _) _).setCell (Nat.le_refl _) _).setCell (Nat.le_refl _) _).setCell (Nat.le_refl _) _).setCell (Nat.le_refl _) _).setCell (Nat.le_refl _) _).setCell (Nat.le_refl _) _
set_option maxHeartbeats 4000000 in
theorem bookOfLabel_none (T : ByteArray) (h9 : T.size ≠ 9) (hm : T.size ≤ maxLen) (w : World) :
    Calls Try.prog 23 #[.string T] w fun e w' => e = .returned (.tuple #[.agg #[.int .i16 0, .int .u8 0, .int .u8 0, .int .u8 0, .int .i16 0, .int .i16 0, .int .i16 0, .int .i16 0], .bool false]) ∧ Below w.heap.size w w' := by
  have h9' : ¬ ((T.size : Int) = 9) := by omega
  unfold maxLen at hm
  go_enter Try.func23, Try.ntmps23
  go_wp2
  (try simp only [Exit.inBlock, Exit.then])
  refine bodyPost_ret (v := .tuple #[.agg #[.int .i16 0, .int .u8 0, .int .u8 0, .int .u8 0, .int .i16 0, .int .i16 0, .int .i16 0, .int .i16 0], .bool false]) (by rw [results_cell_tmp rfl]; go_simp) rfl ?_
  refine ⟨rfl, ?_⟩
  go_grown
end Go.Proofs.Ytimojjkblofhnaa
