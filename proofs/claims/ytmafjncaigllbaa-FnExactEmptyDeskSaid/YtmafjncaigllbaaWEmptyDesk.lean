/- The law of EmptyDesk, walked. No condition. -/
import Derived.Test.YtmafjncaigllbaaDkE
namespace Go.Proofs.Ytmafjncaigllbaa
set_option linter.unusedSimpArgs false
set_option linter.unusedVariables false
set_option maxRecDepth 100000
open Go.RowKit

set_option maxHeartbeats 8000000 in
theorem walkEmptyDesk (a0 : Int) (wf0 : (Lit.int .i64 a0).wf = true) (w : World) :
    Calls Try.prog 5 #[.int .i64 a0] w fun e w' => e = .returned (.bool true) ∧ Below w.heap.size w w' := by
  have SP := Lib.hid (fun W => specEmptyDesk_any a0 W)
  have IM := Lib.hid (fun W => implEmptyDesk_any a0 W)
  have N60 : edN a0 ≤ 60 := by rcases ed_cases a0 with ⟨_, h, _⟩ | ⟨_, _, N, h, _, h2⟩ <;> omega
  have HR := Lib.hid (show ∀ c ∈ (⟨0, List.replicate (edN a0) cp0⟩ : Dk).cs, c.q.length ≤ maxLen by intro c hc; have := List.eq_of_mem_replicate hc; rw [this]; simp [cp0])
  have HL := Lib.hid (show (⟨0, List.replicate (edN a0) cp0⟩ : Dk).cs.length ≤ maxLen by simp; unfold maxLen; omega)
  have EQ := Lib.hid (fun v1 v2 W h1 h2 => eqDesk_same ⟨0, List.replicate (edN a0) cp0⟩ v1 v2 W h1 h2 HR.out HL.out)
  generalize edN a0 = N at *
  generalize edC a0 = k at *
  clear wf0
  go_enter Try.func5, Try.ntmps5
  go_wp2_with fail
  refine (SP.out _).mono ?_
  rintro e w1 ⟨u, rfl, hu, k1⟩
  have B1 := Lib.hid k1
  have U1 := Lib.hid hu
  obtain ⟨Au, cu, rfl⟩ := hu.form
  have UB := Lib.hid U1.out.lt
  clear hu k1
  have A2 := Lib.hid (show Below w1.heap.size w1 (w1.alloc (.cells #[.int .i16 0, .slice Au N cu] 30)) from (Below.refl _ _).alloc (Nat.le_refl _) _)
  have X2 := Lib.hid (heap_alloc_new w1 (.cells #[.int .i16 0, .slice Au N cu] 30))
  have Z2 := Lib.hid (show w1.heap.size < (w1.alloc (.cells #[.int .i16 0, .slice Au N cu] 30)).heap.size by simp)
  go_wp2_with fail
  generalize World.alloc w1 _ = w2 at A2 X2 Z2 ⊢
  refine (IM.out _).mono ?_
  rintro e w3 ⟨t, rfl, ht, k3⟩
  have B3 := Lib.hid (bnext (bnext B1.out A2.out) k3)
  have U3 := Lib.hid ((U1.out.below A2.out).below k3)
  have T3 := Lib.hid ht
  have X3 := Lib.hid ((k3.block w1.heap.size Z2.out).trans X2.out)
  have Z3 := Lib.hid (Nat.lt_of_lt_of_le Z2.out k3.size)
  obtain ⟨At, ct, rfl⟩ := ht.form
  have TB := Lib.hid T3.out.lt
  have s3 := k3.size
  clear ht k3
  have A4 := Lib.hid (show Below w3.heap.size w3 (w3.alloc (.cells #[.int .i16 0, .slice At N ct] 30)) from (Below.refl _ _).alloc (Nat.le_refl _) _)
  have Y4 := Lib.hid (heap_alloc_new w3 (.cells #[.int .i16 0, .slice At N ct] 30))
  have Z4 := Lib.hid (show w3.heap.size < (w3.alloc (.cells #[.int .i16 0, .slice At N ct] 30)).heap.size by simp)
  have c0 := (A4.out.cell (p := ⟨w1.heap.size, 0, none⟩) Z3.out).trans (cell_of_row w3 _ 0 _ _ _ X3.out)
  have c1 := (A4.out.cell (p := ⟨w1.heap.size, 1, none⟩) Z3.out).trans (cell_of_row w3 _ 1 _ _ _ X3.out)
  have c0' := cell_of_row w3 w1.heap.size 0 _ _ _ X3.out
  have c1' := cell_of_row w3 w1.heap.size 1 _ _ _ X3.out
  have z3 := Z3.out
  simp only [List.getElem?_toArray, List.getElem?_cons_zero, List.getElem?_cons_succ] at c0 c1 c0' c1'
  go_wp2_with fail
  generalize World.alloc w3 _ = w4 at A4 Y4 Z4 ⊢
  refine (EQ.out _ _ _ (T3.out.below A4.out).cps (U3.out.below A4.out).cps).mono ?_
  rintro e w5 ⟨rfl, k5⟩
  clear c0 c1 c0' c1'
  have B5 := Lib.hid (bnext (bnext B3.out A4.out) k5)
  have U5 := Lib.hid ((U3.out.below A4.out).below k5)
  have T5 := Lib.hid ((T3.out.below A4.out).below k5)
  have X5 := Lib.hid ((k5.block w1.heap.size (Nat.lt_of_lt_of_le Z3.out A4.out.size)).trans ((A4.out.block w1.heap.size Z3.out).trans X3.out))
  have Y5 := Lib.hid ((k5.block w3.heap.size Z4.out).trans Y4.out)
  have L5 := Lib.hid (Nat.lt_of_lt_of_le Z4.out k5.size)
  clear k5
  have d0 := cell_of_row w5 w3.heap.size 0 _ _ _ Y5.out
  have d1 := cell_of_row w5 w3.heap.size 1 _ _ _ Y5.out
  simp only [List.getElem?_toArray, List.getElem?_cons_zero, List.getElem?_cons_succ] at d0 d1
  have kl : ((k != k) = false) := by simp
  go_wp2_with fail
  refine (markDesk_e _ N _ _ T5.out N60).mono ?_
  rintro e w6 ⟨rfl, hm, k6⟩
  have M6 := Lib.hid hm
  have HN : ∀ q, (Value.slice At N ct).ownBlock = some q → w2.heap.size ≤ q ∧ q < w3.heap.size := TB.out
  have HU : ∀ q, (Value.slice Au N cu).ownBlock = some q → w.heap.size ≤ q ∧ q < w1.heap.size := UB.out
  have zz := Z2.out
  have b1 := B1.out.size
  have L3 := Z3.out
  have n1 : some w1.heap.size ≠ (Value.slice At N ct).ownBlock := fun e => by have := (HN _ e.symm).1; omega
  have n3 : some w3.heap.size ≠ (Value.slice At N ct).ownBlock := fun e => by have := (HN _ e.symm).2; omega
  have B6 := Lib.hid (B5.out.grown k6 B5.out.size (fun q hq => by have := (HN q hq).1; omega))
  have X6 := Lib.hid ((k6.block w1.heap.size (Array.getElem?_eq_some_iff.1 X5.out).1 n1).trans X5.out)
  have Y6 := Lib.hid ((k6.block w3.heap.size L5.out n3).trans Y5.out)
  have U6 := Lib.hid (U5.out.other k6 (fun q hq e => by have h1 := HU q hq; have h2 := HN q e.symm; omega))
  have L6 := Lib.hid (Nat.lt_of_lt_of_le L5.out k6.size)
  have pos : ¬ (1 + 4 * (N : Int) < 0) := by omega
  clear hm k6 d0 d1
  have d0 := cell_of_row w6 w3.heap.size 0 _ _ _ Y6.out
  have d1 := cell_of_row w6 w3.heap.size 1 _ _ _ Y6.out
  simp only [List.getElem?_toArray, List.getElem?_cons_zero, List.getElem?_cons_succ] at d0 d1
  go_wp2_with fail
  refine (heldDesk_e _ N _ _ M6.out N60).mono ?_
  rintro e w7 ⟨rfl, k7⟩
  clear d0 d1
  have B7 := Lib.hid (bnext B6.out k7)
  have M7 := Lib.hid (M6.out.below k7)
  have U7 := Lib.hid (U6.out.below k7)
  have X7 := Lib.hid ((k7.block w1.heap.size (Array.getElem?_eq_some_iff.1 X6.out).1).trans X6.out)
  have Y7 := Lib.hid ((k7.block w3.heap.size L6.out).trans Y6.out)
  have L7 := Lib.hid (Nat.lt_of_lt_of_le L6.out k7.size)
  clear k7
  go_wp2_with fail
  refine (IM.out _).mono ?_
  rintro e w8 ⟨v, rfl, hv, k8⟩
  have B8 := Lib.hid (bnext B7.out k8)
  have M8 := Lib.hid (M7.out.below k8)
  have U8 := Lib.hid (U7.out.below k8)
  have X8 := Lib.hid ((k8.block w1.heap.size (Array.getElem?_eq_some_iff.1 X7.out).1).trans X7.out)
  have Y8 := Lib.hid ((k8.block w3.heap.size L7.out).trans Y7.out)
  have L8 := Lib.hid (Nat.lt_of_lt_of_le L7.out k8.size)
  have V8 := Lib.hid hv
  obtain ⟨Av, cv, rfl⟩ := hv.form
  clear hv k8
  have A9 := Lib.hid (show Below w8.heap.size w8 (w8.alloc (.cells #[.int .i16 0, .slice Av N cv] 30)) from (Below.refl _ _).alloc (Nat.le_refl _) _)
  have x8 := (Array.getElem?_eq_some_iff.1 X8.out).1
  have c0 := (A9.out.cell (p := ⟨w1.heap.size, 0, none⟩) x8).trans (cell_of_row w8 _ 0 _ _ _ X8.out)
  have c1 := (A9.out.cell (p := ⟨w1.heap.size, 1, none⟩) x8).trans (cell_of_row w8 _ 1 _ _ _ X8.out)
  have c0' := cell_of_row w8 w1.heap.size 0 _ _ _ X8.out
  have c1' := cell_of_row w8 w1.heap.size 1 _ _ _ X8.out
  simp only [List.getElem?_toArray, List.getElem?_cons_zero, List.getElem?_cons_succ] at c0 c1 c0' c1'
  go_wp2_with fail
  generalize World.alloc w8 _ = w9 at A9 ⊢
  refine (EQ.out _ _ _ (V8.out.below A9.out).cps (U8.out.below A9.out).cps).mono ?_
  rintro e w10 ⟨rfl, k10⟩
  clear c0 c1 c0' c1' x8
  have B10 := Lib.hid (bnext (bnext B8.out A9.out) k10)
  have M10 := Lib.hid ((M8.out.below A9.out).below k10)
  have Y10 := Lib.hid ((k10.block w3.heap.size (Nat.lt_of_lt_of_le L8.out A9.out.size)).trans ((A9.out.block w3.heap.size L8.out).trans Y8.out))
  clear k10
  have d0 := cell_of_row w10 w3.heap.size 0 _ _ _ Y10.out
  have d1 := cell_of_row w10 w3.heap.size 1 _ _ _ Y10.out
  simp only [List.getElem?_toArray, List.getElem?_cons_zero, List.getElem?_cons_succ] at d0 d1
  go_wp2_with fail
  refine (heldDesk_e _ N _ _ M10.out N60).mono ?_
  rintro e w11 ⟨rfl, k11⟩
  have B11 := Lib.hid (bnext B10.out k11)
  clear k11
  go_wp2
  go_ret
  exact ⟨rfl, B11.out⟩
end Go.Proofs.Ytmafjncaigllbaa
