/- BookText, by the model and by the program: contracts. Condition: the table of powers of ten is as laid. -/
import Derived.Test.YtaahfcdpgcfmhaaDoorApB
import Derived.Test.YtaahfcdpgcfmhaaDoorBooksOk
namespace Go.Proofs.YtaahfcdpgcfmhaaDoor
set_option linter.unusedSimpArgs false
set_option linter.unusedVariables false
set_option maxRecDepth 100000
open Go.RowKit

theorem pos_of {b : Bk} (wb : b.Wf) (h : bookB b = true) : b.Pos := by
  obtain ⟨_, m0, m1, m2, _, _, _, _⟩ := wb
  unfold bookB inB at h
  simp only [Bool.and_eq_true, decide_eq_true_eq] at h
  exact ⟨by omega, by omega, by omega, by omega, by omega, m0, m1, m2⟩
/-- What BookText answers. -/
def bookS (b : Bk) : ByteArray := if bookB b then strOf (bookT b) else ⟨#[]⟩
set_option maxHeartbeats 4000000 in
theorem specBookText_any (b : Bk) (wb : b.Wf) (w : World) :
    Calls Tryd.prog 27 #[.agg #[.int .i16 b.c, .int .u8 b.m0, .int .u8 b.m1, .int .u8 b.m2, .int .i16 b.v, .int .i16 b.wi, .int .i16 b.hi, .int .i16 b.we]] w fun e w' => e = .returned (.string (bookS b)) ∧ Below w.heap.size w w' := by
  have GX := Lib.hid (show Below w.heap.size w (w.alloc (.cells #[.int .i16 b.c, .int .u8 b.m0, .int .u8 b.m1, .int .u8 b.m2, .int .i16 b.v, .int .i16 b.wi, .int .i16 b.hi, .int .i16 b.we] 44)) from (Below.refl _ _).alloc (Nat.le_refl _) _)
  have BX := Lib.hid (heap_alloc_new w (.cells #[.int .i16 b.c, .int .u8 b.m0, .int .u8 b.m1, .int .u8 b.m2, .int .i16 b.v, .int .i16 b.wi, .int .i16 b.hi, .int .i16 b.we] 44))
  have YX := Lib.hid (show w.heap.size < (w.alloc (.cells #[.int .i16 b.c, .int .u8 b.m0, .int .u8 b.m1, .int .u8 b.m2, .int .i16 b.v, .int .i16 b.wi, .int .i16 b.hi, .int .i16 b.we] 44)).heap.size by simp)
  have VB := Lib.hid (fun W g o h0 h1 h2 h3 h4 h5 h6 h7 hg => l01Book_any b wb g o W h0 h1 h2 h3 h4 h5 h6 h7 hg)
  have LL := Lib.hid (fun (hk : bookB b = true) W g hg h0 h1 h2 h3 h4 h5 h6 h7 => l01Text_any b (pos_of wb hk) g 0 W hg h0 h1 h2 h3 h4 h5 h6 h7)
  have E := Lib.hid (fun (hk : bookB b = false) => show bookS b = ⟨#[]⟩ by unfold bookS; rw [hk]; rfl)
  have E1 := Lib.hid (fun (hk : bookB b = true) => show bookS b = strOf (bookT b) by unfold bookS; rw [hk]; rfl)
  go_enter Tryd.func27, Tryd.ntmps27
  go_upto_region 1 with (fail)
  generalize World.alloc w _ = W1 at GX BX YX ⊢
  go_wp2_with fail
  refine (VB.out W1 w.heap.size 0 (cell_of_row W1 _ 0 _ _ _ BX.out) (cell_of_row W1 _ 1 _ _ _ BX.out) (cell_of_row W1 _ 2 _ _ _ BX.out) (cell_of_row W1 _ 3 _ _ _ BX.out) (cell_of_row W1 _ 4 _ _ _ BX.out) (cell_of_row W1 _ 5 _ _ _ BX.out) (cell_of_row W1 _ 6 _ _ _ BX.out) (cell_of_row W1 _ 7 _ _ _ BX.out) YX.out).mono ?_
  rintro e w2 ⟨rfl, h2⟩
  have hbx := Lib.hid ((h2.block _ YX.out).trans BX.out)
  have G2 := Lib.hid (bnext GX.out h2)
  have Z2 := Lib.hid (Nat.lt_of_lt_of_le YX.out h2.size)
  clear h2
  cases hk : bookB b
  · have E2 := Lib.hid (E.out hk)
    go_wp2
    go_ret
    exact ⟨by rw [E2.out]; rfl, G2.out⟩
  · have E2 := Lib.hid (E1.out hk)
    have LK := Lib.hid (LL.out hk w2 w.heap.size Z2.out (cell_of_row w2 _ 0 _ _ _ hbx.out) (cell_of_row w2 _ 1 _ _ _ hbx.out) (cell_of_row w2 _ 2 _ _ _ hbx.out) (cell_of_row w2 _ 3 _ _ _ hbx.out) (cell_of_row w2 _ 4 _ _ _ hbx.out) (cell_of_row w2 _ 5 _ _ _ hbx.out) (cell_of_row w2 _ 6 _ _ _ hbx.out) (cell_of_row w2 _ 7 _ _ _ hbx.out))
    go_wp2_with fail
    refine LK.out.mono ?_
    rintro e w3 ⟨rfl, h3⟩
    go_wp2
    go_ret
    exact ⟨by rw [E2.out]; rfl, bnext G2.out h3⟩
theorem validBookT_any (b : Bk) (w : World) :
    Calls Tryd.prog 79 #[.agg #[.int .i16 b.c, .int .u8 b.m0, .int .u8 b.m1, .int .u8 b.m2, .int .i16 b.v, .int .i16 b.wi, .int .i16 b.hi, .int .i16 b.we]] w fun e w' => e = .returned (.bool (bookB b)) ∧ Below w.heap.size w w' :=
  (validBook_any b w).mono fun e w' h => ⟨h.1, h.2 ▸ (Below.refl _ _).alloc (Nat.le_refl _) _⟩
set_option maxHeartbeats 4000000 in
theorem bookText_any (b : Bk) (wb : b.Wf) (w : World) (htab : Tab w.heap.size w) :
    Calls Tryd.prog 29 #[.agg #[.int .i16 b.c, .int .u8 b.m0, .int .u8 b.m1, .int .u8 b.m2, .int .i16 b.v, .int .i16 b.wi, .int .i16 b.hi, .int .i16 b.we]] w fun e w' => e = .returned (.string (bookS b)) ∧ Below w.heap.size w w' := by
  have GX := Lib.hid (show Below w.heap.size w (w.alloc (.cells #[.int .i16 b.c, .int .u8 b.m0, .int .u8 b.m1, .int .u8 b.m2, .int .i16 b.v, .int .i16 b.wi, .int .i16 b.hi, .int .i16 b.we] 44)) from (Below.refl _ _).alloc (Nat.le_refl _) _)
  have BX := Lib.hid (heap_alloc_new w (.cells #[.int .i16 b.c, .int .u8 b.m0, .int .u8 b.m1, .int .u8 b.m2, .int .i16 b.v, .int .i16 b.wi, .int .i16 b.hi, .int .i16 b.we] 44))
  have YX := Lib.hid (show w.heap.size < (w.alloc (.cells #[.int .i16 b.c, .int .u8 b.m0, .int .u8 b.m1, .int .u8 b.m2, .int .i16 b.v, .int .i16 b.wi, .int .i16 b.hi, .int .i16 b.we] 44)).heap.size by simp)
  have VB := Lib.hid (fun W => validBookT_any b W)
  have E := Lib.hid (fun (hk : bookB b = false) => show bookS b = ⟨#[]⟩ by unfold bookS; rw [hk]; rfl)
  have E1 := Lib.hid (fun (hk : bookB b = true) => show bookS b = strOf (bookT b) by unfold bookS; rw [hk]; rfl)
  have AB := Lib.hid (fun (hk : bookB b = true) W hB ht => appendBook_any b (pos_of wb hk) w.heap.size [] (.slice none 0 0) W (Txt.nil W _) hB (Nat.zero_le _) ht)
  have HT := Lib.hid htab
  clear htab
  go_enter Tryd.func29, Tryd.ntmps29
  go_upto_region 1 with (fail)
  generalize World.alloc w _ = W1 at GX BX YX ⊢
  have q0 : W1.cell? ⟨w.heap.size, 0, none⟩ = some (.int .i16 b.c) := cell_of_row W1 _ 0 _ _ _ BX.out
  have q1 : W1.cell? ⟨w.heap.size, 1, none⟩ = some (.int .u8 b.m0) := cell_of_row W1 _ 1 _ _ _ BX.out
  have q2 : W1.cell? ⟨w.heap.size, 2, none⟩ = some (.int .u8 b.m1) := cell_of_row W1 _ 2 _ _ _ BX.out
  have q3 : W1.cell? ⟨w.heap.size, 3, none⟩ = some (.int .u8 b.m2) := cell_of_row W1 _ 3 _ _ _ BX.out
  have q4 : W1.cell? ⟨w.heap.size, 4, none⟩ = some (.int .i16 b.v) := cell_of_row W1 _ 4 _ _ _ BX.out
  have q5 : W1.cell? ⟨w.heap.size, 5, none⟩ = some (.int .i16 b.wi) := cell_of_row W1 _ 5 _ _ _ BX.out
  have q6 : W1.cell? ⟨w.heap.size, 6, none⟩ = some (.int .i16 b.hi) := cell_of_row W1 _ 6 _ _ _ BX.out
  have q7 : W1.cell? ⟨w.heap.size, 7, none⟩ = some (.int .i16 b.we) := cell_of_row W1 _ 7 _ _ _ BX.out
  go_wp2_with fail
  refine (VB.out _).mono ?_
  rintro e w2 ⟨rfl, h2⟩
  have hbx := (h2.block _ YX.out).trans BX.out
  have G2 := Lib.hid (bnext GX.out h2)
  clear q0 q1 q2 q3 q4 q5 q6 q7 h2
  have q0 : w2.cell? ⟨w.heap.size, 0, none⟩ = some (.int .i16 b.c) := cell_of_row w2 _ 0 _ _ _ hbx
  have q1 : w2.cell? ⟨w.heap.size, 1, none⟩ = some (.int .u8 b.m0) := cell_of_row w2 _ 1 _ _ _ hbx
  have q2 : w2.cell? ⟨w.heap.size, 2, none⟩ = some (.int .u8 b.m1) := cell_of_row w2 _ 2 _ _ _ hbx
  have q3 : w2.cell? ⟨w.heap.size, 3, none⟩ = some (.int .u8 b.m2) := cell_of_row w2 _ 3 _ _ _ hbx
  have q4 : w2.cell? ⟨w.heap.size, 4, none⟩ = some (.int .i16 b.v) := cell_of_row w2 _ 4 _ _ _ hbx
  have q5 : w2.cell? ⟨w.heap.size, 5, none⟩ = some (.int .i16 b.wi) := cell_of_row w2 _ 5 _ _ _ hbx
  have q6 : w2.cell? ⟨w.heap.size, 6, none⟩ = some (.int .i16 b.hi) := cell_of_row w2 _ 6 _ _ _ hbx
  have q7 : w2.cell? ⟨w.heap.size, 7, none⟩ = some (.int .i16 b.we) := cell_of_row w2 _ 7 _ _ _ hbx
  clear hbx
  cases hk : bookB b
  · have E2 := Lib.hid (E.out hk)
    go_wp2
    go_ret
    exact ⟨by rw [E2.out]; rfl, G2.out⟩
  · have E2 := Lib.hid (E1.out hk)
    have AK := Lib.hid (AB.out hk w2 G2.out.size (HT.out.on G2.out))
    go_wp2_with fail
    refine AK.out.mono ?_
    rintro e w3 ⟨v3, rfl, ht3, hk3⟩
    have DC := ht3.string
    rw [List.nil_append] at DC
    clear q0 q1 q2 q3 q4 q5 q6 q7
    go_wp2
    go_ret
    exact ⟨by rw [E2.out]; rfl, G2.out.trans hk3.b⟩
end Go.Proofs.YtaahfcdpgcfmhaaDoor
