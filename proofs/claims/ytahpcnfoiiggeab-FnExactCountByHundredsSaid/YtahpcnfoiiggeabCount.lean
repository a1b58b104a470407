/- How many books each hundred of classes has, by the model and by the program: contracts. Condition: the list is no longer than a slice can be, its books' numbers lie within their kinds. -/
import Derived.Test.YtahpcnfoiiggeabBooksOk
import Derived.Test.YtahpcnfoiiggeabToBookS
import Derived.Test.YtahpcnfoiiggeabQuiet
namespace Go.Proofs.Ytahpcnfoiiggeab
set_option linter.unusedSimpArgs false
set_option linter.unusedVariables false
open Go.RowKit

theorem lt_of_blockQ {w : World} {b : Nat} {o : Obj} (h : w.heap[b]? = some o) : b < w.heap.size := (Array.getElem?_eq_some_iff.1 h).1

/-- How many of the first k books have a class of hundred h. -/
def cnt (xs : List Bk) : Nat → Nat → Int
  | 0, _ => 0
  | k + 1, h => cnt xs k h + (if (xs.getD k default).c / 100 = (h : Int) then 1 else 0)

def ch (xs : List Bk) (h : Nat) : Int := if okB xs then cnt xs xs.length h else 0
def chCode (xs : List Bk) : Int := if okB xs then 0 else 1

theorem cnt_succ (xs : List Bk) (k : Nat) (hk : k < xs.length) (h : Nat) : cnt xs (k + 1) h = cnt xs k h + (if xs[k].c / 100 = (h : Int) then 1 else 0) := by
  rw [cnt]
  simp [List.getD, List.getElem?_eq_getElem hk]
theorem cnt_step (xs : List Bk) (k : Nat) (hk : k < xs.length) (n : Nat) (hn : xs[k].c / 100 = (n : Int)) : cnt xs (k + 1) = fun h => if h = n then cnt xs k n + 1 else cnt xs k h := by
  funext h
  rw [cnt_succ xs k hk, hn]
  by_cases e : h = n
  · subst e
    rw [if_pos rfl, if_pos rfl]
  · rw [if_neg (by omega), if_neg e]
    omega
theorem cnt_nonneg (xs : List Bk) (k h : Nat) : 0 ≤ cnt xs k h := by
  induction k with
  | zero => simp [cnt]
  | succ k ih => rw [cnt]; split <;> omega
theorem cnt_le (xs : List Bk) (k h : Nat) : cnt xs k h ≤ k := by
  induction k with
  | zero => simp [cnt]
  | succ k ih => rw [cnt]; split <;> omega

theorem okB_class {xs : List Bk} (h : okB xs = true) : ∀ b ∈ xs, 0 ≤ b.c ∧ b.c ≤ 999 := by
  intro b hb
  have h1 : xs.all bookB = true := by unfold okB at h; simp at h; simpa using h.1
  have h2 := List.all_eq_true.1 h1 b hb
  unfold bookB inB at h2
  simp at h2
  omega

def CntAt (w : World) (g : Nat) (f : Nat → Int) : Prop :=
  ∃ cs : Array Value, w.heap[g]? = some (.cells cs 32 (0, 0)) ∧ cs.size = 10 ∧ ∀ h : Nat, h < 10 → cs[h]? = some (.int .i64 (f h))
theorem cntAt_start (xs : List Bk) {w : World} {g : Nat} (h : w.heap[g]? = some (.cells #[.int .i64 0, .int .i64 0, .int .i64 0, .int .i64 0, .int .i64 0, .int .i64 0, .int .i64 0, .int .i64 0, .int .i64 0, .int .i64 0] 32 (0, 0))) : CntAt w g (cnt xs 0) := by
  refine ⟨_, h, rfl, fun j hj => ?_⟩
  have : j = 0 ∨ j = 1 ∨ j = 2 ∨ j = 3 ∨ j = 4 ∨ j = 5 ∨ j = 6 ∨ j = 7 ∨ j = 8 ∨ j = 9 := by omega
  rcases this with rfl | rfl | rfl | rfl | rfl | rfl | rfl | rfl | rfl | rfl <;> rfl
theorem CntAt.cell {w : World} {g : Nat} {f : Nat → Int} (h : CntAt w g f) (j : Nat) (hj : j < 10) : w.cell? ⟨g, j, none⟩ = some (.int .i64 (f j)) := by
  obtain ⟨cs, h, _, h3⟩ := h
  rw [cell_of_row w g _ cs _ _ h]
  exact h3 j hj
theorem CntAt.frozen {w : World} {g : Nat} {f : Nat → Int} (h : CntAt w g f) (o : Nat) : w.frozen? ⟨g, o, none⟩ = false := by
  obtain ⟨cs, h, _⟩ := h
  exact frozen_of_row w g _ cs _ h
theorem CntAt.lt {w : World} {g : Nat} {f : Nat → Int} (h : CntAt w g f) : g < w.heap.size := by
  obtain ⟨cs, h, _⟩ := h
  exact lt_of_blockQ h
theorem CntAt.alloc {w : World} {g : Nat} {f : Nat → Int} (h : CntAt w g f) (o : Obj) : CntAt (w.alloc o) g f := by
  obtain ⟨cs, h, h2⟩ := h
  exact ⟨cs, (Below.heap_alloc w o g (lt_of_blockQ h)).trans h, h2⟩
theorem CntAt.set {w : World} {g : Nat} {f : Nat → Int} (h : CntAt w g f) (n : Nat) (hn : n < 10) (x : Int) : CntAt (w.setCell ⟨g, n, none⟩ (.int .i64 x)) g (fun h => if h = n then x else f h) := by
  obtain ⟨cs, h1, h2, h3⟩ := h
  refine ⟨_, heap_setCell_same _ _ _ _ _ _ h1, by simpa using h2, fun j hj => ?_⟩
  rw [Array.getElem?_setIfInBounds]
  by_cases e : n = j
  · subst e
    rw [if_pos rfl, if_pos (by omega)]
    simp
  · rw [if_neg e, h3 j hj]
    simp only []
    rw [if_neg (by omega)]

set_option maxHeartbeats 4000000 in
theorem specCount_any (v : Value) (xs : List Bk) (wf : ∀ b ∈ xs, b.Wf) (w : World) (hs : SliceOf w v xs) (hm : xs.length ≤ maxLen) :
    Calls Try.prog 13 #[v] w fun e w' => e = .returned (.tuple #[.agg #[.int .i64 (ch xs 0), .int .i64 (ch xs 1), .int .i64 (ch xs 2), .int .i64 (ch xs 3), .int .i64 (ch xs 4), .int .i64 (ch xs 5), .int .i64 (ch xs 6), .int .i64 (ch xs 7), .int .i64 (ch xs 8), .int .i64 (ch xs 9)], .int .i64 (chCode xs)]) ∧ Below w.heap.size w w' := by
  have HS := Lib.hid hs
  have WF := Lib.hid wf
  obtain ⟨A0, c0, rfl, -⟩ := hs
  clear wf
  have G0 := Lib.hid (show Below w.heap.size w ((w.alloc (.cells #[.int .i64 0, .int .i64 0, .int .i64 0, .int .i64 0, .int .i64 0, .int .i64 0, .int .i64 0, .int .i64 0, .int .i64 0, .int .i64 0] 32)).alloc (.cells #[.int .i64 0, .int .i64 0, .int .i64 0, .int .i64 0, .int .i64 0, .int .i64 0, .int .i64 0, .int .i64 0, .int .i64 0, .int .i64 0] 32)) from ((Below.refl _ _).alloc (Nat.le_refl _) _).alloc (by simp) _)
  have B0 := Lib.hid (heap_alloc2_old w (.cells #[.int .i64 0, .int .i64 0, .int .i64 0, .int .i64 0, .int .i64 0, .int .i64 0, .int .i64 0, .int .i64 0, .int .i64 0, .int .i64 0] 32) (.cells #[.int .i64 0, .int .i64 0, .int .i64 0, .int .i64 0, .int .i64 0, .int .i64 0, .int .i64 0, .int .i64 0, .int .i64 0, .int .i64 0] 32))
  have B1 := Lib.hid (heap_alloc2_new w (.cells #[.int .i64 0, .int .i64 0, .int .i64 0, .int .i64 0, .int .i64 0, .int .i64 0, .int .i64 0, .int .i64 0, .int .i64 0, .int .i64 0] 32) (.cells #[.int .i64 0, .int .i64 0, .int .i64 0, .int .i64 0, .int .i64 0, .int .i64 0, .int .i64 0, .int .i64 0, .int .i64 0, .int .i64 0] 32))
  cases hk : okB xs
  · have E0 := Lib.hid (show ∀ h, ch xs h = 0 from fun h => by unfold ch; rw [hk]; rfl)
    have E1 := Lib.hid (show chCode xs = 1 by unfold chCode; rw [hk]; rfl)
    go_enter Try.func13, Try.ntmps13
    go_wp2_with fail
    generalize (w.alloc _).alloc _ = W at G0 B0 B1 ⊢
    refine (l01Ok_any _ xs WF.out _ (HS.out.below G0.out) hm).mono ?_
    rintro e w1 ⟨rfl, h1⟩
    have r0 := (h1.block w.heap.size (by have := lt_of_blockQ B0.out; omega)).trans B0.out
    have r1 := (h1.block (w.heap.size + 1) (by have := lt_of_blockQ B1.out; omega)).trans B1.out
    have a0 : w1.cell? ⟨w.heap.size, 0, none⟩ = some (.int .i64 0) := cell_of_row w1 _ 0 _ _ _ r0
    have b0 : w1.cell? ⟨w.heap.size + 1, 0, none⟩ = some (.int .i64 0) := cell_of_row w1 _ 0 _ _ _ r1
    have a1 : w1.cell? ⟨w.heap.size, 1, none⟩ = some (.int .i64 0) := cell_of_row w1 _ 1 _ _ _ r0
    have b1 : w1.cell? ⟨w.heap.size + 1, 1, none⟩ = some (.int .i64 0) := cell_of_row w1 _ 1 _ _ _ r1
    have a2 : w1.cell? ⟨w.heap.size, 2, none⟩ = some (.int .i64 0) := cell_of_row w1 _ 2 _ _ _ r0
    have b2 : w1.cell? ⟨w.heap.size + 1, 2, none⟩ = some (.int .i64 0) := cell_of_row w1 _ 2 _ _ _ r1
    have a3 : w1.cell? ⟨w.heap.size, 3, none⟩ = some (.int .i64 0) := cell_of_row w1 _ 3 _ _ _ r0
    have b3 : w1.cell? ⟨w.heap.size + 1, 3, none⟩ = some (.int .i64 0) := cell_of_row w1 _ 3 _ _ _ r1
    have a4 : w1.cell? ⟨w.heap.size, 4, none⟩ = some (.int .i64 0) := cell_of_row w1 _ 4 _ _ _ r0
    have b4 : w1.cell? ⟨w.heap.size + 1, 4, none⟩ = some (.int .i64 0) := cell_of_row w1 _ 4 _ _ _ r1
    have a5 : w1.cell? ⟨w.heap.size, 5, none⟩ = some (.int .i64 0) := cell_of_row w1 _ 5 _ _ _ r0
    have b5 : w1.cell? ⟨w.heap.size + 1, 5, none⟩ = some (.int .i64 0) := cell_of_row w1 _ 5 _ _ _ r1
    have a6 : w1.cell? ⟨w.heap.size, 6, none⟩ = some (.int .i64 0) := cell_of_row w1 _ 6 _ _ _ r0
    have b6 : w1.cell? ⟨w.heap.size + 1, 6, none⟩ = some (.int .i64 0) := cell_of_row w1 _ 6 _ _ _ r1
    have a7 : w1.cell? ⟨w.heap.size, 7, none⟩ = some (.int .i64 0) := cell_of_row w1 _ 7 _ _ _ r0
    have b7 : w1.cell? ⟨w.heap.size + 1, 7, none⟩ = some (.int .i64 0) := cell_of_row w1 _ 7 _ _ _ r1
    have a8 : w1.cell? ⟨w.heap.size, 8, none⟩ = some (.int .i64 0) := cell_of_row w1 _ 8 _ _ _ r0
    have b8 : w1.cell? ⟨w.heap.size + 1, 8, none⟩ = some (.int .i64 0) := cell_of_row w1 _ 8 _ _ _ r1
    have a9 : w1.cell? ⟨w.heap.size, 9, none⟩ = some (.int .i64 0) := cell_of_row w1 _ 9 _ _ _ r0
    have b9 : w1.cell? ⟨w.heap.size + 1, 9, none⟩ = some (.int .i64 0) := cell_of_row w1 _ 9 _ _ _ r1
    have fz := fun i => frozen_of_row w1 w.heap.size i _ _ r0
    have R0 := Lib.hid r0
    clear r0 r1
    rw [hk]
    go_wp2
    refine bodyPost_ret (v := .tuple #[.agg #[.int .i64 0, .int .i64 0, .int .i64 0, .int .i64 0, .int .i64 0, .int .i64 0, .int .i64 0, .int .i64 0, .int .i64 0, .int .i64 0], .int .i64 1]) (by simp [results, Try.results13, go_sem, a0, a1, a2, a3, a4, a5, a6, a7, a8, a9]) rfl ⟨by simp only [E0.out, E1.out], ?_⟩
    exact (Below.setCell (Below.setCell (Below.setCell (Below.setCell (Below.setCell (Below.setCell (Below.setCell (Below.setCell (Below.setCell (Below.setCell (bnext G0.out h1) (p := ⟨w.heap.size, 0, none⟩) (Nat.le_refl _) _) (p := ⟨w.heap.size, 1, none⟩) (Nat.le_refl _) _) (p := ⟨w.heap.size, 2, none⟩) (Nat.le_refl _) _) (p := ⟨w.heap.size, 3, none⟩) (Nat.le_refl _) _) (p := ⟨w.heap.size, 4, none⟩) (Nat.le_refl _) _) (p := ⟨w.heap.size, 5, none⟩) (Nat.le_refl _) _) (p := ⟨w.heap.size, 6, none⟩) (Nat.le_refl _) _) (p := ⟨w.heap.size, 7, none⟩) (Nat.le_refl _) _) (p := ⟨w.heap.size, 8, none⟩) (Nat.le_refl _) _) (p := ⟨w.heap.size, 9, none⟩) (Nat.le_refl _) _)
  · have E1 := Lib.hid (show chCode xs = 0 by unfold chCode; rw [hk]; rfl)
    have E0 := Lib.hid (show ∀ h, ch xs h = cnt xs xs.length h from fun h => by unfold ch; rw [hk]; rfl)
    have CB := Lib.hid (okB_class hk)
    have h60 : xs.length ≤ 60 := by unfold okB at hk; simp at hk; exact hk.2
    go_enter Try.func13, Try.ntmps13
    go_wp2_with fail
    generalize (w.alloc _).alloc _ = W at G0 B0 B1 ⊢
    refine (l01Ok_any _ xs WF.out _ (HS.out.below G0.out) hm).mono ?_
    rintro e w1 ⟨rfl, h1⟩
    have gg := Lib.hid (bnext G0.out h1)
    have r0 := Lib.hid ((h1.block w.heap.size (by have := lt_of_blockQ B0.out; omega)).trans B0.out)
    have r1 := Lib.hid ((h1.block (w.heap.size + 1) (by have := lt_of_blockQ B1.out; omega)).trans B1.out)
    have C0 := Lib.hid (cntAt_start xs r1.out)
    clear h1
    rw [hk]
    clear hk
    go_wp2
    go_loopw [5] (fun i wr => ∃ k : Nat, k ≤ xs.length ∧ i = .int .i64 k ∧ CntAt wr (w.heap.size + 1) (cnt xs k) ∧ wr.heap[w.heap.size]? = some (.cells #[.int .i64 0, .int .i64 0, .int .i64 0, .int .i64 0, .int .i64 0, .int .i64 0, .int .i64 0, .int .i64 0, .int .i64 0, .int .i64 0] 32 (0, 0)) ∧ Below w.heap.size w wr) (fun i _ => xs.length - (intOf i).toNat)
    case atStart => exact ⟨0, Nat.zero_le _, rfl, C0.out, r0.out, gg.out⟩
    case round =>
      obtain ⟨k, hk, rfl, hcnt, hres, hb⟩ := hrel
      have HC := Lib.hid hcnt
      have HR := Lib.hid hres
      clear hcnt hres
      by_cases hlt : k < xs.length
      · obtain ⟨A, c, hv, hs⟩ := HS.out.below hb
        obtain ⟨ga, oa, rfl, hga, hat⟩ := hs (by omega)
        injection hv with hv1 hv2 hv3
        subst hv1
        obtain ⟨p0, p1, p2, p3, p4, p5, p6, p7⟩ := booksAt_some hat hlt
        obtain ⟨b0, b1⟩ := CB.out xs[k] (List.getElem_mem hlt)
        have FE := Lib.hid (fun n hn => cnt_step xs k hlt n hn)
        have bl := cnt_le xs k
        clear hat hv2 hv3 hs
        generalize xs[k].c = cc at p0 b0 b1 FE
        obtain ⟨n, hn⟩ : ∃ n : Nat, cc / 100 = (n : Int) := ⟨(cc / 100).toNat, by omega⟩
        have hn9 : n < 10 := by omega
        have q0 := HC.out.cell n hn9
        have z1 := HC.out.lt
        have fz := HC.out.frozen
        have l0 : 0 ≤ cnt xs k n := cnt_nonneg xs k n
        have l1 : cnt xs k n ≤ 60 := by have := bl n; omega
        have FE' := Lib.hid (FE.out n hn)
        have hq : IntKind.i16.wrap (cc.tdiv 100) = (n : Int) := by rw [Int.tdiv_eq_ediv_of_nonneg b0, hn]; exact IntWalk.i16_in _ (by omega)
        clear FE bl hn
        go_wp2
        go_roundw
        case rel => exact ⟨k + 1, by omega, by go_num, by rw [FE'.out]; exact HC.out.set n hn9 _, (Below.heap_setCell _ _ _ _ (by simp)).trans HR.out, hb.setCell (p := ⟨w.heap.size + 1, n, none⟩) (by simp) _⟩
        case measure => simp [intOf]; omega
      · obtain rfl : k = xs.length := by omega
        have q0 := HC.out.cell 0 (by omega); have q1 := HC.out.cell 1 (by omega); have q2 := HC.out.cell 2 (by omega); have q3 := HC.out.cell 3 (by omega); have q4 := HC.out.cell 4 (by omega)
        have q5 := HC.out.cell 5 (by omega); have q6 := HC.out.cell 6 (by omega); have q7 := HC.out.cell 7 (by omega); have q8 := HC.out.cell 8 (by omega); have q9 := HC.out.cell 9 (by omega)
        have a0 : wr.cell? ⟨w.heap.size, 0, none⟩ = some (.int .i64 0) := cell_of_row wr _ 0 _ _ _ HR.out
        have a1 : wr.cell? ⟨w.heap.size, 1, none⟩ = some (.int .i64 0) := cell_of_row wr _ 1 _ _ _ HR.out
        have a2 : wr.cell? ⟨w.heap.size, 2, none⟩ = some (.int .i64 0) := cell_of_row wr _ 2 _ _ _ HR.out
        have a3 : wr.cell? ⟨w.heap.size, 3, none⟩ = some (.int .i64 0) := cell_of_row wr _ 3 _ _ _ HR.out
        have a4 : wr.cell? ⟨w.heap.size, 4, none⟩ = some (.int .i64 0) := cell_of_row wr _ 4 _ _ _ HR.out
        have a5 : wr.cell? ⟨w.heap.size, 5, none⟩ = some (.int .i64 0) := cell_of_row wr _ 5 _ _ _ HR.out
        have a6 : wr.cell? ⟨w.heap.size, 6, none⟩ = some (.int .i64 0) := cell_of_row wr _ 6 _ _ _ HR.out
        have a7 : wr.cell? ⟨w.heap.size, 7, none⟩ = some (.int .i64 0) := cell_of_row wr _ 7 _ _ _ HR.out
        have a8 : wr.cell? ⟨w.heap.size, 8, none⟩ = some (.int .i64 0) := cell_of_row wr _ 8 _ _ _ HR.out
        have a9 : wr.cell? ⟨w.heap.size, 9, none⟩ = some (.int .i64 0) := cell_of_row wr _ 9 _ _ _ HR.out
        have fz := fun i => frozen_of_row wr w.heap.size i _ _ HR.out
        go_wp2
        refine bodyPost_ret (v := .tuple #[.agg #[.int .i64 (cnt xs xs.length 0), .int .i64 (cnt xs xs.length 1), .int .i64 (cnt xs xs.length 2), .int .i64 (cnt xs xs.length 3), .int .i64 (cnt xs xs.length 4), .int .i64 (cnt xs xs.length 5), .int .i64 (cnt xs xs.length 6), .int .i64 (cnt xs xs.length 7), .int .i64 (cnt xs xs.length 8), .int .i64 (cnt xs xs.length 9)], .int .i64 0]) (by simp [results, Try.results13, go_sem, a0, a1, a2, a3, a4, a5, a6, a7, a8, a9]) rfl ⟨by simp only [E0.out, E1.out], ?_⟩
        exact (Below.setCell (Below.setCell (Below.setCell (Below.setCell (Below.setCell (Below.setCell (Below.setCell (Below.setCell (Below.setCell (Below.setCell hb (p := ⟨w.heap.size, 0, none⟩) (Nat.le_refl _) _) (p := ⟨w.heap.size, 1, none⟩) (Nat.le_refl _) _) (p := ⟨w.heap.size, 2, none⟩) (Nat.le_refl _) _) (p := ⟨w.heap.size, 3, none⟩) (Nat.le_refl _) _) (p := ⟨w.heap.size, 4, none⟩) (Nat.le_refl _) _) (p := ⟨w.heap.size, 5, none⟩) (Nat.le_refl _) _) (p := ⟨w.heap.size, 6, none⟩) (Nat.le_refl _) _) (p := ⟨w.heap.size, 7, none⟩) (Nat.le_refl _) _) (p := ⟨w.heap.size, 8, none⟩) (Nat.le_refl _) _) (p := ⟨w.heap.size, 9, none⟩) (Nat.le_refl _) _)

set_option maxHeartbeats 4000000 in
theorem count_any (v : Value) (xs : List Bk) (wf : ∀ b ∈ xs, b.Wf) (w : World) (hs : SliceOf w v xs) (hm : xs.length ≤ maxLen) :
    Calls Try.prog 14 #[v] w fun e w' => e = .returned (.tuple #[.agg #[.int .i64 (ch xs 0), .int .i64 (ch xs 1), .int .i64 (ch xs 2), .int .i64 (ch xs 3), .int .i64 (ch xs 4), .int .i64 (ch xs 5), .int .i64 (ch xs 6), .int .i64 (ch xs 7), .int .i64 (ch xs 8), .int .i64 (ch xs 9)], .int .i64 (chCode xs)]) ∧ Below w.heap.size w w' := by
  have HS := Lib.hid hs
  have WF := Lib.hid wf
  obtain ⟨A0, c0, rfl, -⟩ := hs
  clear wf
  have G0 := Lib.hid (show Below w.heap.size w ((w.alloc (.cells #[.int .i64 0, .int .i64 0, .int .i64 0, .int .i64 0, .int .i64 0, .int .i64 0, .int .i64 0, .int .i64 0, .int .i64 0, .int .i64 0] 32)).alloc (.cells #[.int .i64 0, .int .i64 0, .int .i64 0, .int .i64 0, .int .i64 0, .int .i64 0, .int .i64 0, .int .i64 0, .int .i64 0, .int .i64 0] 32)) from ((Below.refl _ _).alloc (Nat.le_refl _) _).alloc (by simp) _)
  have B0 := Lib.hid (heap_alloc2_old w (.cells #[.int .i64 0, .int .i64 0, .int .i64 0, .int .i64 0, .int .i64 0, .int .i64 0, .int .i64 0, .int .i64 0, .int .i64 0, .int .i64 0] 32) (.cells #[.int .i64 0, .int .i64 0, .int .i64 0, .int .i64 0, .int .i64 0, .int .i64 0, .int .i64 0, .int .i64 0, .int .i64 0, .int .i64 0] 32))
  have B1 := Lib.hid (heap_alloc2_new w (.cells #[.int .i64 0, .int .i64 0, .int .i64 0, .int .i64 0, .int .i64 0, .int .i64 0, .int .i64 0, .int .i64 0, .int .i64 0, .int .i64 0] 32) (.cells #[.int .i64 0, .int .i64 0, .int .i64 0, .int .i64 0, .int .i64 0, .int .i64 0, .int .i64 0, .int .i64 0, .int .i64 0, .int .i64 0] 32))
  cases hk : okB xs
  · have E0 := Lib.hid (show ∀ h, ch xs h = 0 from fun h => by unfold ch; rw [hk]; rfl)
    have E1 := Lib.hid (show chCode xs = 1 by unfold chCode; rw [hk]; rfl)
    go_enter Try.func14, Try.ntmps14
    go_wp2_with fail
    generalize (w.alloc _).alloc _ = W at G0 B0 B1 ⊢
    refine (validBooks_any _ xs _ (HS.out.below G0.out) hm).mono ?_
    rintro e w1 ⟨rfl, h1⟩
    have r0 := (h1.block w.heap.size (by have := lt_of_blockQ B0.out; omega)).trans B0.out
    have r1 := (h1.block (w.heap.size + 1) (by have := lt_of_blockQ B1.out; omega)).trans B1.out
    have a0 : w1.cell? ⟨w.heap.size, 0, none⟩ = some (.int .i64 0) := cell_of_row w1 _ 0 _ _ _ r0
    have b0 : w1.cell? ⟨w.heap.size + 1, 0, none⟩ = some (.int .i64 0) := cell_of_row w1 _ 0 _ _ _ r1
    have a1 : w1.cell? ⟨w.heap.size, 1, none⟩ = some (.int .i64 0) := cell_of_row w1 _ 1 _ _ _ r0
    have b1 : w1.cell? ⟨w.heap.size + 1, 1, none⟩ = some (.int .i64 0) := cell_of_row w1 _ 1 _ _ _ r1
    have a2 : w1.cell? ⟨w.heap.size, 2, none⟩ = some (.int .i64 0) := cell_of_row w1 _ 2 _ _ _ r0
    have b2 : w1.cell? ⟨w.heap.size + 1, 2, none⟩ = some (.int .i64 0) := cell_of_row w1 _ 2 _ _ _ r1
    have a3 : w1.cell? ⟨w.heap.size, 3, none⟩ = some (.int .i64 0) := cell_of_row w1 _ 3 _ _ _ r0
    have b3 : w1.cell? ⟨w.heap.size + 1, 3, none⟩ = some (.int .i64 0) := cell_of_row w1 _ 3 _ _ _ r1
    have a4 : w1.cell? ⟨w.heap.size, 4, none⟩ = some (.int .i64 0) := cell_of_row w1 _ 4 _ _ _ r0
    have b4 : w1.cell? ⟨w.heap.size + 1, 4, none⟩ = some (.int .i64 0) := cell_of_row w1 _ 4 _ _ _ r1
    have a5 : w1.cell? ⟨w.heap.size, 5, none⟩ = some (.int .i64 0) := cell_of_row w1 _ 5 _ _ _ r0
    have b5 : w1.cell? ⟨w.heap.size + 1, 5, none⟩ = some (.int .i64 0) := cell_of_row w1 _ 5 _ _ _ r1
    have a6 : w1.cell? ⟨w.heap.size, 6, none⟩ = some (.int .i64 0) := cell_of_row w1 _ 6 _ _ _ r0
    have b6 : w1.cell? ⟨w.heap.size + 1, 6, none⟩ = some (.int .i64 0) := cell_of_row w1 _ 6 _ _ _ r1
    have a7 : w1.cell? ⟨w.heap.size, 7, none⟩ = some (.int .i64 0) := cell_of_row w1 _ 7 _ _ _ r0
    have b7 : w1.cell? ⟨w.heap.size + 1, 7, none⟩ = some (.int .i64 0) := cell_of_row w1 _ 7 _ _ _ r1
    have a8 : w1.cell? ⟨w.heap.size, 8, none⟩ = some (.int .i64 0) := cell_of_row w1 _ 8 _ _ _ r0
    have b8 : w1.cell? ⟨w.heap.size + 1, 8, none⟩ = some (.int .i64 0) := cell_of_row w1 _ 8 _ _ _ r1
    have a9 : w1.cell? ⟨w.heap.size, 9, none⟩ = some (.int .i64 0) := cell_of_row w1 _ 9 _ _ _ r0
    have b9 : w1.cell? ⟨w.heap.size + 1, 9, none⟩ = some (.int .i64 0) := cell_of_row w1 _ 9 _ _ _ r1
    have fz := fun i => frozen_of_row w1 w.heap.size i _ _ r0
    have R0 := Lib.hid r0
    clear r0 r1
    rw [hk]
    go_wp2
    refine bodyPost_ret (v := .tuple #[.agg #[.int .i64 0, .int .i64 0, .int .i64 0, .int .i64 0, .int .i64 0, .int .i64 0, .int .i64 0, .int .i64 0, .int .i64 0, .int .i64 0], .int .i64 1]) (by simp [results, Try.results14, go_sem, a0, a1, a2, a3, a4, a5, a6, a7, a8, a9]) rfl ⟨by simp only [E0.out, E1.out], ?_⟩
    exact (Below.setCell (Below.setCell (Below.setCell (Below.setCell (Below.setCell (Below.setCell (Below.setCell (Below.setCell (Below.setCell (Below.setCell (bnext G0.out h1) (p := ⟨w.heap.size, 0, none⟩) (Nat.le_refl _) _) (p := ⟨w.heap.size, 1, none⟩) (Nat.le_refl _) _) (p := ⟨w.heap.size, 2, none⟩) (Nat.le_refl _) _) (p := ⟨w.heap.size, 3, none⟩) (Nat.le_refl _) _) (p := ⟨w.heap.size, 4, none⟩) (Nat.le_refl _) _) (p := ⟨w.heap.size, 5, none⟩) (Nat.le_refl _) _) (p := ⟨w.heap.size, 6, none⟩) (Nat.le_refl _) _) (p := ⟨w.heap.size, 7, none⟩) (Nat.le_refl _) _) (p := ⟨w.heap.size, 8, none⟩) (Nat.le_refl _) _) (p := ⟨w.heap.size, 9, none⟩) (Nat.le_refl _) _)
  · have E1 := Lib.hid (show chCode xs = 0 by unfold chCode; rw [hk]; rfl)
    have E0 := Lib.hid (show ∀ h, ch xs h = cnt xs xs.length h from fun h => by unfold ch; rw [hk]; rfl)
    have CB := Lib.hid (okB_class hk)
    have h60 : xs.length ≤ 60 := by unfold okB at hk; simp at hk; exact hk.2
    go_enter Try.func14, Try.ntmps14
    go_wp2_with fail
    generalize (w.alloc _).alloc _ = W at G0 B0 B1 ⊢
    refine (validBooks_any _ xs _ (HS.out.below G0.out) hm).mono ?_
    rintro e w1 ⟨rfl, h1⟩
    have gg := Lib.hid (bnext G0.out h1)
    have r0 := Lib.hid ((h1.block w.heap.size (by have := lt_of_blockQ B0.out; omega)).trans B0.out)
    have r1 := Lib.hid ((h1.block (w.heap.size + 1) (by have := lt_of_blockQ B1.out; omega)).trans B1.out)
    have C0 := Lib.hid (cntAt_start xs r1.out)
    clear h1
    rw [hk]
    clear hk
    go_wp2
    go_loopw [13] (fun i wr => ∃ k : Nat, k ≤ xs.length ∧ i = .int .i64 k ∧ CntAt wr (w.heap.size + 1) (cnt xs k) ∧ wr.heap[w.heap.size]? = some (.cells #[.int .i64 0, .int .i64 0, .int .i64 0, .int .i64 0, .int .i64 0, .int .i64 0, .int .i64 0, .int .i64 0, .int .i64 0, .int .i64 0] 32 (0, 0)) ∧ Below w.heap.size w wr) (fun i _ => xs.length - (intOf i).toNat)
    case atStart => exact ⟨0, Nat.zero_le _, rfl, C0.out, r0.out, gg.out⟩
    case round =>
      obtain ⟨k, hk, rfl, hcnt, hres, hb⟩ := hrel
      have HC := Lib.hid hcnt
      have HR := Lib.hid hres
      clear hcnt hres
      by_cases hlt : k < xs.length
      · obtain ⟨A, c, hv, hs⟩ := HS.out.below hb
        obtain ⟨ga, oa, rfl, hga, hat⟩ := hs (by omega)
        injection hv with hv1 hv2 hv3
        subst hv1
        obtain ⟨p0, p1, p2, p3, p4, p5, p6, p7⟩ := booksAt_some hat hlt
        obtain ⟨b0, b1⟩ := CB.out xs[k] (List.getElem_mem hlt)
        have FE := Lib.hid (fun n hn => cnt_step xs k hlt n hn)
        have bl := cnt_le xs k
        clear hat hv2 hv3 hs
        generalize xs[k].c = cc at p0 b0 b1 FE
        obtain ⟨n, hn⟩ : ∃ n : Nat, cc / 100 = (n : Int) := ⟨(cc / 100).toNat, by omega⟩
        have hn9 : n < 10 := by omega
        have q0 := HC.out.cell n hn9
        have z1 := HC.out.lt
        have fz := HC.out.frozen
        have l0 : 0 ≤ cnt xs k n := cnt_nonneg xs k n
        have l1 : cnt xs k n ≤ 60 := by have := bl n; omega
        have FE' := Lib.hid (FE.out n hn)
        have hq : IntKind.i16.wrap (cc.tdiv 100) = (n : Int) := by rw [Int.tdiv_eq_ediv_of_nonneg b0, hn]; exact IntWalk.i16_in _ (by omega)
        clear FE bl hn
        go_wp2
        go_roundw
        case rel => exact ⟨k + 1, by omega, by go_num, by rw [FE'.out]; exact (HC.out.set n hn9 _).alloc _, (Below.heap_alloc _ _ _ (by simp [World.setCell]; omega)).trans ((Below.heap_setCell _ _ _ _ (by simp)).trans HR.out), (hb.setCell (p := ⟨w.heap.size + 1, n, none⟩) (by simp) _).alloc (by have := hb.size; simp [World.setCell]; omega) _⟩
        case measure => simp [intOf]; omega
      · obtain rfl : k = xs.length := by omega
        have q0 := HC.out.cell 0 (by omega); have q1 := HC.out.cell 1 (by omega); have q2 := HC.out.cell 2 (by omega); have q3 := HC.out.cell 3 (by omega); have q4 := HC.out.cell 4 (by omega)
        have q5 := HC.out.cell 5 (by omega); have q6 := HC.out.cell 6 (by omega); have q7 := HC.out.cell 7 (by omega); have q8 := HC.out.cell 8 (by omega); have q9 := HC.out.cell 9 (by omega)
        have a0 : wr.cell? ⟨w.heap.size, 0, none⟩ = some (.int .i64 0) := cell_of_row wr _ 0 _ _ _ HR.out
        have a1 : wr.cell? ⟨w.heap.size, 1, none⟩ = some (.int .i64 0) := cell_of_row wr _ 1 _ _ _ HR.out
        have a2 : wr.cell? ⟨w.heap.size, 2, none⟩ = some (.int .i64 0) := cell_of_row wr _ 2 _ _ _ HR.out
        have a3 : wr.cell? ⟨w.heap.size, 3, none⟩ = some (.int .i64 0) := cell_of_row wr _ 3 _ _ _ HR.out
        have a4 : wr.cell? ⟨w.heap.size, 4, none⟩ = some (.int .i64 0) := cell_of_row wr _ 4 _ _ _ HR.out
        have a5 : wr.cell? ⟨w.heap.size, 5, none⟩ = some (.int .i64 0) := cell_of_row wr _ 5 _ _ _ HR.out
        have a6 : wr.cell? ⟨w.heap.size, 6, none⟩ = some (.int .i64 0) := cell_of_row wr _ 6 _ _ _ HR.out
        have a7 : wr.cell? ⟨w.heap.size, 7, none⟩ = some (.int .i64 0) := cell_of_row wr _ 7 _ _ _ HR.out
        have a8 : wr.cell? ⟨w.heap.size, 8, none⟩ = some (.int .i64 0) := cell_of_row wr _ 8 _ _ _ HR.out
        have a9 : wr.cell? ⟨w.heap.size, 9, none⟩ = some (.int .i64 0) := cell_of_row wr _ 9 _ _ _ HR.out
        have fz := fun i => frozen_of_row wr w.heap.size i _ _ HR.out
        go_wp2
        refine bodyPost_ret (v := .tuple #[.agg #[.int .i64 (cnt xs xs.length 0), .int .i64 (cnt xs xs.length 1), .int .i64 (cnt xs xs.length 2), .int .i64 (cnt xs xs.length 3), .int .i64 (cnt xs xs.length 4), .int .i64 (cnt xs xs.length 5), .int .i64 (cnt xs xs.length 6), .int .i64 (cnt xs xs.length 7), .int .i64 (cnt xs xs.length 8), .int .i64 (cnt xs xs.length 9)], .int .i64 0]) (by simp [results, Try.results14, go_sem, a0, a1, a2, a3, a4, a5, a6, a7, a8, a9]) rfl ⟨by simp only [E0.out, E1.out], ?_⟩
        exact (Below.setCell (Below.setCell (Below.setCell (Below.setCell (Below.setCell (Below.setCell (Below.setCell (Below.setCell (Below.setCell (Below.setCell hb (p := ⟨w.heap.size, 0, none⟩) (Nat.le_refl _) _) (p := ⟨w.heap.size, 1, none⟩) (Nat.le_refl _) _) (p := ⟨w.heap.size, 2, none⟩) (Nat.le_refl _) _) (p := ⟨w.heap.size, 3, none⟩) (Nat.le_refl _) _) (p := ⟨w.heap.size, 4, none⟩) (Nat.le_refl _) _) (p := ⟨w.heap.size, 5, none⟩) (Nat.le_refl _) _) (p := ⟨w.heap.size, 6, none⟩) (Nat.le_refl _) _) (p := ⟨w.heap.size, 7, none⟩) (Nat.le_refl _) _) (p := ⟨w.heap.size, 8, none⟩) (Nat.le_refl _) _) (p := ⟨w.heap.size, 9, none⟩) (Nat.le_refl _) _)

end Go.Proofs.Ytahpcnfoiiggeab
