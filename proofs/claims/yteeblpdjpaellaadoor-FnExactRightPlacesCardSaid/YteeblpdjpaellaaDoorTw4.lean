/- A whole book, by the program: a contract. No condition. -/
import Derived.Test.YteeblpdjpaellaaDoorTw1
import Derived.Test.YteeblpdjpaellaaDoorTit3
import Derived.RegionTactic
import Derived.BigRegion
import Derived.Deep.Cut
namespace Go.Proofs.YteeblpdjpaellaaDoor
set_option linter.unusedSimpArgs false
set_option linter.unusedVariables false
set_option maxRecDepth 100000
open Go.RowKit Go.MapKept

theorem results_cell1 {P : Program} {fn : Func} {tmps : Array Value} {a : Tmp} {t : TypeId} {b o : Nat} {v : Value} {w : World} (h : fn.results = #[.cell a t]) (ha : tmps.getD a undef = .pointer (some ⟨b, o, none⟩)) (hl : (loadVar t ⟨b, o, none⟩).run P w = .ok v w) : (results fn tmps).run P w = .ok v w := by
  have hs : (asAddr (tmps.getD a undef)).run P w = .ok ⟨b, o, none⟩ w := by rw [ha]; rfl
  simp only [Array.getD_eq_getD_getElem?] at hs
  simp [results, h, hs, hl]
set_option maxHeartbeats 400000 in
theorem loadVar_bk {W : World} {g : Nat} (c m0 m1 m2 v wi hi we : Int) (h : W.heap[g]? = some (.cells #[.int .i16 c, .int .u8 m0, .int .u8 m1, .int .u8 m2, .int .i16 v, .int .i16 wi, .int .i16 hi, .int .i16 we] 53 (0, 0))) :
    (loadVar 53 ⟨g, 0, none⟩).run Tryd.prog W = .ok (.agg #[.int .i16 c, .int .u8 m0, .int .u8 m1, .int .u8 m2, .int .i16 v, .int .i16 wi, .int .i16 hi, .int .i16 we]) W := by
  have q0 : W.cell? ⟨g, 0, none⟩ = some (.int .i16 c) := cell_of_row W _ 0 _ _ _ h
  have q1 : W.cell? ⟨g, 1, none⟩ = some (.int .u8 m0) := cell_of_row W _ 1 _ _ _ h
  have q2 : W.cell? ⟨g, 2, none⟩ = some (.int .u8 m1) := cell_of_row W _ 2 _ _ _ h
  have q3 : W.cell? ⟨g, 3, none⟩ = some (.int .u8 m2) := cell_of_row W _ 3 _ _ _ h
  have q4 : W.cell? ⟨g, 4, none⟩ = some (.int .i16 v) := cell_of_row W _ 4 _ _ _ h
  have q5 : W.cell? ⟨g, 5, none⟩ = some (.int .i16 wi) := cell_of_row W _ 5 _ _ _ h
  have q6 : W.cell? ⟨g, 6, none⟩ = some (.int .i16 hi) := cell_of_row W _ 6 _ _ _ h
  have q7 : W.cell? ⟨g, 7, none⟩ = some (.int .i16 we) := cell_of_row W _ 7 _ _ _ h
  clear h
  go_simp
theorem whl_wf {b : Bk} (h : b.Wf) : (whl b).Wf := h
set_option maxHeartbeats 1000000 in
theorem whole_any (b : Bk) (w : World) :
    Calls Tryd.prog 30 #[.agg #[.int .i16 b.c, .int .u8 b.m0, .int .u8 b.m1, .int .u8 b.m2, .int .i16 b.v, .int .i16 b.wi, .int .i16 b.hi, .int .i16 b.we]] w fun e w' => e = .returned (bkV (whl b)) ∧ Below w.heap.size w w' := by
  have H2 : w.heap.size < (w.alloc (.cells #[.int .i16 b.c, .int .u8 b.m0, .int .u8 b.m1, .int .u8 b.m2, .int .i16 b.v, .int .i16 b.wi, .int .i16 b.hi, .int .i16 b.we] 53)).heap.size := by simp
  have G := Lib.hid (show Below w.heap.size w ((w.alloc (.cells #[.int .i16 b.c, .int .u8 b.m0, .int .u8 b.m1, .int .u8 b.m2, .int .i16 b.v, .int .i16 b.wi, .int .i16 b.hi, .int .i16 b.we] 53)).alloc (.cells #[.int .i16 0, .int .u8 0, .int .u8 0, .int .u8 0, .int .i16 0, .int .i16 0, .int .i16 0, .int .i16 0] 53)) from (((Below.refl w.heap.size w).alloc (Nat.le_refl _) _).alloc (by simp) _))
  have GB := Lib.hid (show ((w.alloc (.cells #[.int .i16 b.c, .int .u8 b.m0, .int .u8 b.m1, .int .u8 b.m2, .int .i16 b.v, .int .i16 b.wi, .int .i16 b.hi, .int .i16 b.we] 53)).alloc (.cells #[.int .i16 0, .int .u8 0, .int .u8 0, .int .u8 0, .int .i16 0, .int .i16 0, .int .i16 0, .int .i16 0] 53)).heap[w.heap.size]? = some (.cells #[.int .i16 b.c, .int .u8 b.m0, .int .u8 b.m1, .int .u8 b.m2, .int .i16 b.v, .int .i16 b.wi, .int .i16 b.hi, .int .i16 b.we] 53 (0, 0)) from (Below.heap_alloc _ _ _ H2).trans (heap_alloc_new w _))
  have GM := Lib.hid (show ((w.alloc (.cells #[.int .i16 b.c, .int .u8 b.m0, .int .u8 b.m1, .int .u8 b.m2, .int .i16 b.v, .int .i16 b.wi, .int .i16 b.hi, .int .i16 b.we] 53)).alloc (.cells #[.int .i16 0, .int .u8 0, .int .u8 0, .int .u8 0, .int .i16 0, .int .i16 0, .int .i16 0, .int .i16 0] 53)).heap[w.heap.size + 1]? = some (.cells #[.int .i16 0, .int .u8 0, .int .u8 0, .int .u8 0, .int .i16 0, .int .i16 0, .int .i16 0, .int .i16 0] 53 (0, 0)) from by have := heap_alloc_new (w.alloc (.cells #[.int .i16 b.c, .int .u8 b.m0, .int .u8 b.m1, .int .u8 b.m2, .int .i16 b.v, .int .i16 b.wi, .int .i16 b.hi, .int .i16 b.we] 53)) (.cells #[.int .i16 0, .int .u8 0, .int .u8 0, .int .u8 0, .int .i16 0, .int .i16 0, .int .i16 0, .int .i16 0] 53); rwa [show (w.alloc (.cells #[.int .i16 b.c, .int .u8 b.m0, .int .u8 b.m1, .int .u8 b.m2, .int .i16 b.v, .int .i16 b.wi, .int .i16 b.hi, .int .i16 b.we] 53)).heap.size = w.heap.size + 1 by simp] at this)
  clear H2
  go_enter Tryd.func30, Tryd.ntmps30
  go_upto_region 1 with (fail)
  generalize World.alloc _ _ = W2 at G GB GM ⊢
  have p0 : W2.cell? ⟨w.heap.size, 0, none⟩ = some (.int .i16 b.c) := cell_of_row W2 _ 0 _ _ _ GB.out
  have p1 : W2.cell? ⟨w.heap.size, 1, none⟩ = some (.int .u8 b.m0) := cell_of_row W2 _ 1 _ _ _ GB.out
  have p2 : W2.cell? ⟨w.heap.size, 2, none⟩ = some (.int .u8 b.m1) := cell_of_row W2 _ 2 _ _ _ GB.out
  have p3 : W2.cell? ⟨w.heap.size, 3, none⟩ = some (.int .u8 b.m2) := cell_of_row W2 _ 3 _ _ _ GB.out
  have p4 : W2.cell? ⟨w.heap.size, 4, none⟩ = some (.int .i16 b.v) := cell_of_row W2 _ 4 _ _ _ GB.out
  have p5 : W2.cell? ⟨w.heap.size, 5, none⟩ = some (.int .i16 b.wi) := cell_of_row W2 _ 5 _ _ _ GB.out
  have p6 : W2.cell? ⟨w.heap.size, 6, none⟩ = some (.int .i16 b.hi) := cell_of_row W2 _ 6 _ _ _ GB.out
  have p7 : W2.cell? ⟨w.heap.size, 7, none⟩ = some (.int .i16 b.we) := cell_of_row W2 _ 7 _ _ _ GB.out
  have z0 : W2.cell? ⟨w.heap.size + 1, 0, none⟩ = some (.int .i16 0) := cell_of_row W2 _ 0 _ _ _ GM.out
  have z1 : W2.cell? ⟨w.heap.size + 1, 1, none⟩ = some (.int .u8 0) := cell_of_row W2 _ 1 _ _ _ GM.out
  have z2 : W2.cell? ⟨w.heap.size + 1, 2, none⟩ = some (.int .u8 0) := cell_of_row W2 _ 2 _ _ _ GM.out
  have z3 : W2.cell? ⟨w.heap.size + 1, 3, none⟩ = some (.int .u8 0) := cell_of_row W2 _ 3 _ _ _ GM.out
  have z4 : W2.cell? ⟨w.heap.size + 1, 4, none⟩ = some (.int .i16 0) := cell_of_row W2 _ 4 _ _ _ GM.out
  have z5 : W2.cell? ⟨w.heap.size + 1, 5, none⟩ = some (.int .i16 0) := cell_of_row W2 _ 5 _ _ _ GM.out
  have z6 : W2.cell? ⟨w.heap.size + 1, 6, none⟩ = some (.int .i16 0) := cell_of_row W2 _ 6 _ _ _ GM.out
  have z7 : W2.cell? ⟨w.heap.size + 1, 7, none⟩ = some (.int .i16 0) := cell_of_row W2 _ 7 _ _ _ GM.out
  have fz : ∀ o, W2.frozen? ⟨w.heap.size + 1, o, none⟩ = false := fun o => frozen_of_row W2 _ o _ _ GM.out
  go_wp2
  (try simp only [Exit.inBlock, Exit.then])
  obtain ⟨W3, hW3⟩ : ∃ W3, W3 = set8 W2 (w.heap.size + 1) 0 (whl b) := ⟨_, rfl⟩
  have GR : W3.heap[w.heap.size + 1]? = some (.cells #[.int .i16 b.c, .int .u8 b.m0, .int .u8 b.m1, .int .u8 b.m2, .int .i16 b.v, .int .i16 b.wi, .int .i16 b.hi, .int .i16 b.we] 53 (0, 0)) := by rw [hW3]; exact (set8_heap GM.out).trans (by rfl)
  have BW : Below w.heap.size w W3 := by rw [hW3]; exact set8_below G.out (by omega)
  refine bodyPost_ret (v := bkV (whl b)) (results_cell1 (b := w.heap.size + 1) (o := 0) rfl rfl ?_) rfl ?_
  · show (loadVar 53 ⟨w.heap.size + 1, 0, none⟩).run Tryd.prog (set8 W2 (w.heap.size + 1) 0 (whl b)) = .ok _ (set8 W2 (w.heap.size + 1) 0 (whl b))
    rw [← hW3]
    exact loadVar_bk _ _ _ _ _ _ _ _ GR
  · refine ⟨rfl, ?_⟩
    show Below w.heap.size w (set8 W2 (w.heap.size + 1) 0 (whl b))
    rw [← hW3]
    exact BW
end Go.Proofs.YteeblpdjpaellaaDoor
