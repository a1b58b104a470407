/- The longest lists that can be kept, by the program: its function values, and the function that takes them: contracts. Condition: at most 60 books, whose numbers lie within their kinds. -/
import Derived.Test.YtgfffbnodinkcabDoorRuns2
import Derived.Test.YtgfffbnodinkcabDoorUse
import Derived.Test.YtgfffbnodinkcabDoorOwn
import Derived.StillTailTactics
namespace Go.Proofs.YtgfffbnodinkcabDoor
set_option linter.unusedSimpArgs false
set_option linter.unusedVariables false
set_option maxRecDepth 100000
open Go.RowKit

/-- A book in a block of its own. -/
def Bx (w : World) (g : Nat) (b : Bk) : Prop := w.heap[g]? = some (.cells #[.int .i16 b.c, .int .u8 b.m0, .int .u8 b.m1, .int .u8 b.m2, .int .i16 b.v, .int .i16 b.wi, .int .i16 b.hi, .int .i16 b.we] 50 (0, 0))
theorem Bx.lt {w : World} {g : Nat} {b : Bk} (h : Bx w g b) : g < w.heap.size := (Array.getElem?_eq_some_iff.1 h).1
theorem Bx.below {w w' : World} {n g : Nat} {b : Bk} (h : Bx w g b) (hb : Below n w w') (hg : g < n) : Bx w' g b := (hb.block g hg).trans h
theorem Bx.set {w : World} {g g' : Nat} {b : Bk} (h : Bx w g b) (hne : g ≠ g') (i : Nat) (v : Value) : Bx (w.setCell ⟨g', i, none⟩ v) g b := (Below.heap_setCell _ _ _ _ (by simpa using hne)).trans h
theorem Bx.cells {w : World} {g : Nat} {b : Bk} (h : Bx w g b) : w.cell? ⟨g, 0, none⟩ = some (.int .i16 b.c) ∧ w.cell? ⟨g, 1, none⟩ = some (.int .u8 b.m0) ∧ w.cell? ⟨g, 2, none⟩ = some (.int .u8 b.m1) ∧ w.cell? ⟨g, 3, none⟩ = some (.int .u8 b.m2) ∧ w.cell? ⟨g, 4, none⟩ = some (.int .i16 b.v) ∧ w.cell? ⟨g, 5, none⟩ = some (.int .i16 b.wi) ∧ w.cell? ⟨g, 6, none⟩ = some (.int .i16 b.hi) ∧ w.cell? ⟨g, 7, none⟩ = some (.int .i16 b.we) :=
  ⟨cell_of_row w g 0 _ _ _ h, cell_of_row w g 1 _ _ _ h, cell_of_row w g 2 _ _ _ h, cell_of_row w g 3 _ _ _ h, cell_of_row w g 4 _ _ _ h, cell_of_row w g 5 _ _ _ h, cell_of_row w g 6 _ _ _ h, cell_of_row w g 7 _ _ _ h⟩

theorem SliceOf.at_slice {w : World} {A : Option Addr} {c : Nat} {xs : List Bk} (h : SliceOf w (.slice A xs.length c) xs) : 0 < xs.length → ∃ g o, A = some ⟨g, o, none⟩ ∧ g < w.heap.size ∧ BooksAt w g o xs := by
  obtain ⟨A', c', e, h⟩ := h
  cases e
  exact h
theorem okB_60 {xs : List Bk} (h : okB xs = true) : xs.length ≤ 60 := by unfold okB at h; simp at h; exact h.2
theorem elemBooks' : Tryd.prog.underlying 24 = some (.slice (Tryd.prog.elem 24)) := by kernel_rfl
theorem sizeBook' (w : World) : (sizeOf (Tryd.prog.elem 24)).run Tryd.prog w = .ok 8 w := by kernel_rfl
theorem run_preB (g o n c k : Nat) (hk : k ≤ c) (w : World) :
    (Instr.slice 24 (.slice (some ⟨g, o, none⟩) n c) none (some (.int .i64 (k : Int))) none).run Tryd.prog w = .ok (.slice (some ⟨g, o, none⟩) k c) w := by
  rw [run_slice_h w _ _ _ _ elemBooks' _ _ (by omega) (by omega), sizeBook']
  simp [Result.andThen, sliced, Addr.add]

theorem made_row (w : World) (P : Nat → Nat → Bool) (t : TypeId) (n : Nat) (hn : n ≤ maxLen) :
    (w.alloc (.cells (madeCells (Value.int .i64 0).cells n) t)).ownsRow w.heap.size t 1 (.slice (some ⟨w.heap.size, 0, none⟩) n n) n ((rowR P n 0).map (Value.int .i64)) := by
  have e : (madeCells (Value.int .i64 0).cells n).toList = (rowR P n 0).map (Value.int .i64) := by
    rw [show (Value.int .i64 0).cells = #[Value.int .i64 0] from rfl, toList_madeCells_one, rowR_zero]
    simp
  have hl : ((rowR P n 0).map (Value.int .i64)).length = n := by rw [rowR_zero]; simp
  refine ⟨by rw [hl]; omega, .inr ⟨w.heap.size, n, _, rfl, Nat.le_refl _, heap_alloc_new w _, Nat.le_refl _, hn, by rw [size_madeCells]; omega, ?_⟩⟩
  rw [e, List.take_of_length_le (by omega)]

set_option maxHeartbeats 1000000 in
theorem clos_kept (b e : Bk) (wb : b.Wf) (we : e.Wf) (w : World) :
    Calls Tryd.prog 91 #[.agg #[.int .i16 b.c, .int .u8 b.m0, .int .u8 b.m1, .int .u8 b.m2, .int .i16 b.v, .int .i16 b.wi, .int .i16 b.hi, .int .i16 b.we], .agg #[.int .i16 e.c, .int .u8 e.m0, .int .u8 e.m1, .int .u8 e.m2, .int .i16 e.v, .int .i16 e.wi, .int .i16 e.hi, .int .i16 e.we]] w fun r w' => r = .returned (.bool (decide (usual b e ≤ 0))) ∧ Below w.heap.size w w' := by
  go_enter Tryd.func91, Tryd.ntmps91
  go_wp2_with fail
  refine (compareBooks_any b e wb we _).mono ?_
  rintro e w1 ⟨rfl, h1⟩
  go_wp2
  go_ret
  exact ⟨rfl, bnext (by go_grown) h1⟩

set_option maxHeartbeats 8000000 in
theorem longestTo_kept (A : Option Addr) (c : Nat) (xs : List Bk) (wf : ∀ b ∈ xs, b.Wf) (w : World) (hs : SliceOf w (.slice A xs.length c) xs) (hcap : xs.length ≤ c) (h60 : xs.length ≤ 60) :
    Calls Tryd.prog 90 #[.slice A xs.length c, .func (.func 91) #[] #[]] w fun e w' => ∃ g, e = .returned (.slice (some ⟨g, 0, none⟩) xs.length xs.length) ∧ w'.ownsRow w.heap.size 2 1 (.slice (some ⟨g, 0, none⟩) xs.length xs.length) xs.length ((chains (geP xs) xs.length).map (Value.int .i64)) ∧ Below w.heap.size w w' := by
  replace hs := hs.at_slice
  obtain ⟨i0, hi, hz0, hz1, hz2⟩ := info_parts infoInt64
  have hmk := fun W => run_make_rowN (P := Tryd.prog) 41 2 i0 _ Tryd.underlying41 hi hz0 .i64 .i64 xs.length xs.length (Nat.le_refl _) (by rw [hz2]; omega) (by omega) W
  rw [hz1, Nat.mul_one] at hmk
  have H0 := Lib.hid (made_row w (geP xs) 2 xs.length (by unfold maxLen; omega))
  have HS := Lib.hid hs
  have WF := Lib.hid wf
  clear hi hz0 hz1 hz2 hs wf
  go_enter Tryd.func90, Tryd.ntmps90
  go_wp2
  go_loopw [15] (fun i_ wr => ∃ i : Nat, i ≤ xs.length ∧ i_ = .int .i64 i ∧ wr.ownsRow w.heap.size 2 1 (.slice (some ⟨w.heap.size, 0, none⟩) xs.length xs.length) xs.length ((rowR (geP xs) xs.length i).map (Value.int .i64)) ∧ Below w.heap.size w wr) (fun i_ _ => xs.length - (intOf i_).toNat)
  case atStart => exact ⟨0, Nat.zero_le _, rfl, H0.out, (Below.refl _ _).alloc (Nat.le_refl _) _⟩
  case round =>
    obtain ⟨i, hi, rfl, hrow, hb⟩ := hrel
    by_cases hlt : i < xs.length
    · obtain ⟨ga, oa, rfl, hga, hat⟩ := HS.out (by omega)
      have HAT := Lib.hid hat
      rw [rowR_mid _ hlt] at hrow
      have HR := Lib.hid hrow
      obtain ⟨p0, p1, p2, p3, p4, p5, p6, p7⟩ := booksAt_some (hat.below hb hga) hlt
      have hpre := fun W => run_preB ga oa xs.length c i (by omega) W
      have HSZ := Lib.hid hb.size
      clear hat hrow
      obtain ⟨wo, rfl⟩ : ∃ wo : World, wo = wr := ⟨_, rfl⟩
      go_wp2
      clear p0 p1 p2 p3 p4 p5 p6 p7
      go_loopw [24] (fun j_ wr => ∃ j : Nat, j ≤ i ∧ j_ = .int .i64 j ∧ wr.ownsRow w.heap.size 2 1 (.slice (some ⟨w.heap.size, 0, none⟩) xs.length xs.length) xs.length ((midR (geP xs) xs.length i (mostTo (geP xs i) (chains (geP xs) i) j)).map (Value.int .i64)) ∧ Bx wr wo.heap.size xs[i] ∧ Below w.heap.size w wr) (fun j_ _ => i - (intOf j_).toNat)
      case atStart => exact ⟨0, Nat.zero_le _, rfl, HR.out.alloc _, heap_alloc_new wo _, hb.alloc HSZ.out _⟩
      case round =>
        obtain ⟨j, hj, rfl, hrow, hbx, hb⟩ := hrel
        have BX := Lib.hid hbx
        have hgB := hbx.lt
        obtain ⟨q0, q1, q2, q3, q4, q5, q6, q7⟩ := hbx.cells
        clear hbx
        have hd := mostTo_bd (geP xs i) (chains (geP xs) i) i (by omega) (fun k => (chains_bd (geP xs) i k).2) j
        have hr := Lib.hid hrow
        by_cases hji : j < i
        · have hjx : j < xs.length := by omega
          obtain ⟨p0, p1, p2, p3, p4, p5, p6, p7⟩ := booksAt_some (HAT.out.below hb hga) hjx
          have CL := Lib.hid (fun W => clos_kept xs[i] xs[j] (WF.out _ (List.getElem_mem hlt)) (WF.out _ (List.getElem_mem hjx)) W)
          have PE := Lib.hid (geP_eq WF.out hlt hjx)
          rw [← PE.out] at CL
          have MS := Lib.hid (show mostTo (geP xs i) (chains (geP xs) i) (j + 1) = if geP xs i j then max (mostTo (geP xs i) (chains (geP xs) i) j) ((chains (geP xs) i).getD j 0) else mostTo (geP xs i) (chains (geP xs) i) j from rfl)
          have c1 := (hrow.cellAt i (by omega)).trans (midR_at _ _ _ _)
          have c2 := (hrow.cellAt j (by omega)).trans (midR_old _ _ _ _ hji)
          have b2 := chains_bd (geP xs) i j
          generalize mostTo (geP xs i) (chains (geP xs) i) j = M at *
          have HC0 := chains_bd (geP xs) i j
          generalize hC : (chains (geP xs) i).getD j 0 = C at *
          have HC := Lib.hid (show some (Value.int .i64 ((chains (geP xs) i).getD j 0)) = some (.int .i64 C) by rw [hC])
          clear hC
          clear hrow
          go_wp2_with fail
          refine (CL.out _).mono ?_
          rintro e w1 ⟨rfl, h1⟩
          clear p0 p1 p2 p3 p4 p5 p6 p7 q0 q1 q2 q3 q4 q5 q6 q7 c1 c2
          have g1 := bnew _ h1
          have BX1 := Lib.hid (BX.out.below g1 BX.out.lt)
          have R1 := Lib.hid (ownsBelow hr.out g1)
          have B1 := Lib.hid (bnext hb g1)
          have hw1 : w.heap.size < w1.heap.size := by have := (hr.out.lt w.heap.size rfl).2; have := g1.size; omega
          have hne : wo.heap.size ≠ w.heap.size := by have := HSZ.out; have := (HR.out.lt w.heap.size rfl).2; omega
          have b1 := B1.out.size
          clear h1 g1
          cases hP : geP xs i j
          · have MS2 := Lib.hid (show mostTo (geP xs i) (chains (geP xs) i) (j + 1) = M by rw [MS.out, hP]; rfl)
            clear hP
            go_wp2
            go_roundw
            case rel => exact ⟨j + 1, by omega, by go_num, by rw [MS2.out]; exact R1.out, BX1.out, B1.out⟩
            case measure => simp [intOf]; omega
          · have c1 := (R1.out.cellAt i (by omega)).trans (midR_at _ _ _ M)
            have c2 := (R1.out.cellAt j (by omega)).trans ((midR_old _ _ _ M hji).trans HC.out)
            have fz := R1.out.frozenAt
            by_cases hmc : M < C
            · have MS2 := Lib.hid (show mostTo (geP xs i) (chains (geP xs) i) (j + 1) = C by rw [MS.out, hP, if_pos rfl]; omega)
              have hmc2 : M ≤ C := by omega
              have hmc3 : ¬ C < M := by omega
              have hmc4 : ¬ C ≤ M := by omega
              clear hP
              go_wp2_with fail
              go_still_tail 12, (by kernel_rfl)
              change wpList _ _ _ _ _ w1.drew
              go_wp2
              go_roundw
              case rel => exact ⟨j + 1, by omega, by go_num, by rw [MS2.out, ← midR_set _ _ _ M]; exact (World.ownsRow.stored (w := w1.drew) R1.out i _).1, Bx.set (w := w1.drew) BX1.out hne _ _, (show Below w.heap.size w w1.drew from below_drewN B1.out 1).setCell (p := ⟨w.heap.size, i, none⟩) (Nat.le_refl _) _⟩
              case measure => simp [intOf]; omega
            · have MS2 := Lib.hid (show mostTo (geP xs i) (chains (geP xs) i) (j + 1) = M by rw [MS.out, hP, if_pos rfl]; omega)
              have hmc2 : C ≤ M := by omega
              clear hP
              go_wp2_with fail
              go_still_tail 12, (by kernel_rfl)
              change wpList _ _ _ _ _ w1.drew
              go_wp2
              go_roundw
              case rel => exact ⟨j + 1, by omega, by go_num, by rw [MS2.out, ← midR_set _ _ _ M]; exact (World.ownsRow.stored (w := w1.drew) R1.out i _).1, Bx.set (w := w1.drew) BX1.out hne _ _, (show Below w.heap.size w w1.drew from below_drewN B1.out 1).setCell (p := ⟨w.heap.size, i, none⟩) (Nat.le_refl _) _⟩
              case measure => simp [intOf]; omega
        · obtain rfl : j = i := by omega
          clear q0 q1 q2 q3 q4 q5 q6 q7
          have c1 := (hrow.cellAt j (by omega)).trans (midR_at _ _ _ _)
          have fz := hrow.frozenAt
          have RS := Lib.hid (rowR_succ (geP xs) hlt)
          generalize mostTo (geP xs j) (chains (geP xs) j) j = M at *
          have wr1 : IntKind.i64.wrap (M + 1) = M + 1 := IntWalk.i64_in _ (by omega)
          clear hrow
          go_wp2
          go_roundw
          case rel => exact ⟨j + 1, by omega, by go_num, by rw [← RS.out, ← midR_set _ _ _ M]; exact (hr.out.stored j _).1, hb.setCell (p := ⟨w.heap.size, j, none⟩) (Nat.le_refl _) _⟩
          case measure => simp [intOf]; omega
    · obtain rfl : i = xs.length := by omega
      rw [rowR_all] at hrow
      have HR := Lib.hid hrow
      clear hrow
      go_wp2
      go_ret
      exact ⟨_, rfl, HR.out, hb⟩

end Go.Proofs.YtgfffbnodinkcabDoor
