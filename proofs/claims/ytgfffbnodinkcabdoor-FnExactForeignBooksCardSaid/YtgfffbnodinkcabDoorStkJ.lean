/- A book taken out of a stock, and what is not taken of a list, by the program: contracts. Condition: at most 1048576 books, whose numbers lie within their kinds. -/
import Derived.Test.YtgfffbnodinkcabDoorStkI
import Derived.Deep.Cut
import Derived.Deep.CutRange
namespace Go.Proofs.YtgfffbnodinkcabDoor
set_option linter.unusedSimpArgs false
set_option linter.unusedVariables false
set_option maxRecDepth 100000
open Go.RowKit Go.Sort

theorem gbNext {w w1 w2 : World} {b : Nat} {row : Option Nat} (h1 : w.grownBy w1 (some b)) (h2 : w1.grownBy w2 row) (hr : ∀ k, row = some k → w.heap.size ≤ k ∨ k = b) : w.grownBy w2 (some b) :=
  ⟨h2.os.trans h1.os, h2.tape.trans h1.tape, h2.output.trans h1.output, Nat.le_trans h1.size h2.size, fun i hi hne => (h2.block i (Nat.lt_of_lt_of_le hi h1.size) (fun e => by
    rcases hr i e.symm with h | h
    · omega
    · exact hne (by rw [h]))).trans (h1.block i hi hne)⟩
theorem Stk.kept {w w' : World} {b n : Nat} {c : Bk → Nat} {row : Option Nat} (h : Stk w b n c) (hg : w.grownBy w' row) (hne : some b ≠ row) : Stk w' b n c := by
  have hl := h.lt
  obtain ⟨es, clock, h1, h2⟩ := h
  exact ⟨es, clock, (hg.block b hl hne).trans h1, h2⟩
theorem BooksAt.keptBy {w w' : World} {g o : Nat} {xs : List Bk} {b : Nat} (h : BooksAt w g o xs) (hg : w.grownBy w' (some b)) (hl : g < w.heap.size) (hne : g ≠ b) : BooksAt w' g o xs := by
  intro i hi j v hv
  rw [World.cell?_of_block (w := w) (hg.block g hl (fun e => by injection e with e; exact hne e))]
  exact h i hi j v hv
theorem Stk.mono {w : World} {b n n' : Nat} {c : Bk → Nat} (h : Stk w b n c) (hn : n ≤ n') : Stk w b n' c := by
  obtain ⟨es, clock, h1, h2, h3, h4⟩ := h
  exact ⟨es, clock, h1, h2, Nat.le_trans h3 hn, h4⟩

set_option maxHeartbeats 8000000 in
theorem take_any (b0 n : Nat) (c : Bk → Nat) (b : Bk) (wb : b.Wf) (w : World) (h : Stk w b0 n c) (hc : c b ≤ 1048576) :
    Calls Tryd.prog 62 #[.map (some b0), .agg #[.int .i16 b.c, .int .u8 b.m0, .int .u8 b.m1, .int .u8 b.m2, .int .i16 b.v, .int .i16 b.wi, .int .i16 b.hi, .int .i16 b.we]] w fun e w' => e = .returned (.bool (decide (0 < c b))) ∧ Stk w' b0 (n + 1) (upd c b (c b - 1)) ∧ w.grownBy w' (some b0) := by
  have GX := Lib.hid (World.grownBy_alloc w (.cells #[.int .i16 b.c, .int .u8 b.m0, .int .u8 b.m1, .int .u8 b.m2, .int .i16 b.v, .int .i16 b.wi, .int .i16 b.hi, .int .i16 b.we] 50) (some b0))
  have BX := Lib.hid (heap_alloc_new w (.cells #[.int .i16 b.c, .int .u8 b.m0, .int .u8 b.m1, .int .u8 b.m2, .int .i16 b.v, .int .i16 b.wi, .int .i16 b.hi, .int .i16 b.we] 50))
  have SX := Lib.hid (h.below ((Below.refl w.heap.size w).alloc (Nat.le_refl _) (.cells #[.int .i16 b.c, .int .u8 b.m0, .int .u8 b.m1, .int .u8 b.m2, .int .i16 b.v, .int .i16 b.wi, .int .i16 b.hi, .int .i16 b.we] 50)))
  clear h
  by_cases h0 : c b = 0
  · have E := Lib.hid (show upd c b (c b - 1) = c by
      funext y
      by_cases q : y = b
      · subst q; rw [upd_same, h0]
      · rw [upd_other _ _ q])
    have L0 := Lib.hid (show (decide (0 < c b)) = false by rw [h0]; rfl)
    go_enter Tryd.func62, Tryd.ntmps62
    have hL := SX.out.look b wb
    rw [h0] at hL
    unfold bkV at hL
    have H0 := Lib.hid h0
    clear h0
    go_wp2
    go_ret
    exact ⟨by rw [L0.out]; rfl, by rw [E.out]; exact SX.out.mono (by omega), GX.out⟩
  · have L0 := Lib.hid (show (decide (0 < c b)) = true by simp; omega)
    go_enter Tryd.func62, Tryd.ntmps62
    go_upto_region 1 with (fail)
    generalize World.alloc w _ = W1 at GX BX SX ⊢
    have q0 : W1.cell? ⟨w.heap.size, 0, none⟩ = some (.int .i16 b.c) := cell_of_row W1 _ 0 _ _ _ BX.out
    have q1 : W1.cell? ⟨w.heap.size, 1, none⟩ = some (.int .u8 b.m0) := cell_of_row W1 _ 1 _ _ _ BX.out
    have q2 : W1.cell? ⟨w.heap.size, 2, none⟩ = some (.int .u8 b.m1) := cell_of_row W1 _ 2 _ _ _ BX.out
    have q3 : W1.cell? ⟨w.heap.size, 3, none⟩ = some (.int .u8 b.m2) := cell_of_row W1 _ 3 _ _ _ BX.out
    have q4 : W1.cell? ⟨w.heap.size, 4, none⟩ = some (.int .i16 b.v) := cell_of_row W1 _ 4 _ _ _ BX.out
    have q5 : W1.cell? ⟨w.heap.size, 5, none⟩ = some (.int .i16 b.wi) := cell_of_row W1 _ 5 _ _ _ BX.out
    have q6 : W1.cell? ⟨w.heap.size, 6, none⟩ = some (.int .i16 b.hi) := cell_of_row W1 _ 6 _ _ _ BX.out
    have q7 : W1.cell? ⟨w.heap.size, 7, none⟩ = some (.int .i16 b.we) := cell_of_row W1 _ 7 _ _ _ BX.out
    have hL0 := SX.out.look b wb
    have SD := Lib.hid (Stk.drew SX.out)
    have hL := SD.out.look b wb
    obtain ⟨v0, st, w3, hE, hL3, g3, hS⟩ := SD.out.entry b wb
    obtain ⟨w4, hS4, hk4, g4⟩ := hS (c b - 1)
    have HK4 := Lib.hid hk4
    have HG4 := Lib.hid (show W1.grownBy w4 (some b0) from ⟨g4.os, g4.tape, g4.output, g4.size, g4.block⟩)
    clear hk4 g4 g3 hS
    unfold bkV at hL0 hL hL3 hE
    rw [show ((c b - 1 : Nat) : Int) = (c b : Int) - 1 by omega] at hS4
    obtain ⟨m, hm⟩ : ∃ m : Int, m = ((c b : Nat) : Int) := ⟨_, rfl⟩
    have m1 : 1 ≤ m := by omega
    have m2 : m ≤ 1048576 := by omega
    have m0 : (m == 0) = false := by simp; omega
    rw [← hm] at hL0 hL hL3 hS4
    clear hm h0 hc
    go_wp2
    go_region
    all_goals
      go_wp2
      go_ret
      exact ⟨by rw [L0.out]; rfl, HK4.out, gbNext GX.out HG4.out (fun k hk => by injection hk with hk; exact .inr hk.symm)⟩

set_option maxHeartbeats 8000000 in
theorem notTaken_any (v : Value) (xs ys : List Bk) (wf : ∀ b ∈ xs, b.Wf) (b0 n : Nat) (w : World) (hs : SliceOf w v xs) (h : Stk w b0 n (fun x => ys.count x)) (hne : 0 < xs.length → ∀ g, v.ownBlock = some g → g ≠ b0) (hn : xs.length ≤ 1048576) (hny : ys.length ≤ 1048576) :
    Calls Tryd.prog 60 #[v, .func (.func 62) #[.map (some b0)] #[]] w fun e w' => ∃ u, e = .returned u ∧ ResB w' w.heap.size u (more xs ys) ∧ w.grownBy w' (some b0) := by
  obtain ⟨A, c, rfl, hs⟩ := hs
  have HS := Lib.hid hs
  have WF := Lib.hid wf
  have HNE := Lib.hid (fun (hp : 0 < xs.length) g o (h : A = some ⟨g, o, none⟩) => show g ≠ b0 from hne hp g (by rw [h]; rfl))
  have hb0 := h.lt
  obtain ⟨i0, hi0, hz0, hz1, hz2⟩ := info_parts infoBook
  have S0 := Lib.hid (show Stk w b0 (n + 0) (leftAt xs ys 0) by
    have e : leftAt xs ys 0 = fun x => ys.count x := by funext x; exact left_zero xs ys x
    rw [e]; exact h)
  have O0 := Lib.hid (show w.ownsRow w.heap.size 50 8 (.slice none 0 0) (moreTo xs ys 0).length (flB (moreTo xs ys 0)) from ResB.own0 w _)
  clear hs wf h hne
  go_enter Tryd.func60, Tryd.ntmps60
  go_wp2
  go_loopw [5, 10] (fun v_ i_ wr => ∃ (v : Value) (k : Nat), v = v_ ∧ k ≤ xs.length ∧ i_ = .int .i64 (k : Int) ∧ wr.ownsRow w.heap.size 50 8 v (moreTo xs ys k).length (flB (moreTo xs ys k)) ∧ Stk wr b0 (n + k) (leftAt xs ys k) ∧ w.grownBy wr (some b0)) (fun _ i_ _ => xs.length - (intOf i_).toNat)
  case atStart => exact ⟨_, 0, rfl, Nat.zero_le _, rfl, O0.out, S0.out, World.grownBy.refl w _⟩
  case round =>
    obtain ⟨v, k, rfl, hk, rfl, hown, hstk, hg⟩ := hrel
    have OA := Lib.hid hown
    have SK := Lib.hid hstk
    have HG := Lib.hid hg
    have hsz := hg.size
    have L1 := moreTo_len xs ys k
    clear hown hstk hg
    by_cases hlt : k < xs.length
    · obtain ⟨ga, oa, rfl, hga, hat⟩ := HS.out (by omega)
      have hgb : ga ≠ b0 ∨ ga = b0 := by omega
      have WB := Lib.hid (WF.out _ (List.getElem_mem hlt))
      have MY := Lib.hid (fun h => more_yes (ys := ys) hlt h)
      have MN := Lib.hid (fun h => more_no (ys := ys) hlt h)
      have LN := Lib.hid (left_none (ys := ys) hlt)
      have LS := Lib.hid (left_same (ys := ys) hlt)
      have LOT := Lib.hid (fun y h => left_other (ys := ys) hlt (b := y) h)
      obtain ⟨p0, p1, p2, p3, p4, p5, p6, p7⟩ := booksAt_some (hat.keptBy HG.out hga (HNE.out (by omega) _ _ rfl)) hlt
      have LB := Lib.hid (show leftAt xs ys k xs[k] ≤ 1048576 from Nat.le_trans (Nat.sub_le _ _) (Nat.le_trans List.count_le_length hny))
      clear hat hgb
      generalize xs[k] = b at *
      have GX := Lib.hid (World.grownBy_alloc wr (.cells #[.int .i16 b.c, .int .u8 b.m0, .int .u8 b.m1, .int .u8 b.m2, .int .i16 b.v, .int .i16 b.wi, .int .i16 b.hi, .int .i16 b.we] 50) (some b0))
      have EX := Lib.hid ((Below.refl wr.heap.size wr).alloc (Nat.le_refl _) (.cells #[.int .i16 b.c, .int .u8 b.m0, .int .u8 b.m1, .int .u8 b.m2, .int .i16 b.v, .int .i16 b.wi, .int .i16 b.hi, .int .i16 b.we] 50))
      have BX := Lib.hid (heap_alloc_new wr (.cells #[.int .i16 b.c, .int .u8 b.m0, .int .u8 b.m1, .int .u8 b.m2, .int .i16 b.v, .int .i16 b.wi, .int .i16 b.hi, .int .i16 b.we] 50))
      have YX := Lib.hid (show wr.heap.size < (wr.alloc (.cells #[.int .i16 b.c, .int .u8 b.m0, .int .u8 b.m1, .int .u8 b.m2, .int .i16 b.v, .int .i16 b.wi, .int .i16 b.hi, .int .i16 b.we] 50)).heap.size by simp)
      go_upto_region 5 with (fail)
      generalize World.alloc wr _ = W1 at GX EX BX YX ⊢
      clear p0 p1 p2 p3 p4 p5 p6 p7
      have q0 : W1.cell? ⟨wr.heap.size, 0, none⟩ = some (.int .i16 b.c) := cell_of_row W1 _ 0 _ _ _ BX.out
      have q1 : W1.cell? ⟨wr.heap.size, 1, none⟩ = some (.int .u8 b.m0) := cell_of_row W1 _ 1 _ _ _ BX.out
      have q2 : W1.cell? ⟨wr.heap.size, 2, none⟩ = some (.int .u8 b.m1) := cell_of_row W1 _ 2 _ _ _ BX.out
      have q3 : W1.cell? ⟨wr.heap.size, 3, none⟩ = some (.int .u8 b.m2) := cell_of_row W1 _ 3 _ _ _ BX.out
      have q4 : W1.cell? ⟨wr.heap.size, 4, none⟩ = some (.int .i16 b.v) := cell_of_row W1 _ 4 _ _ _ BX.out
      have q5 : W1.cell? ⟨wr.heap.size, 5, none⟩ = some (.int .i16 b.wi) := cell_of_row W1 _ 5 _ _ _ BX.out
      have q6 : W1.cell? ⟨wr.heap.size, 6, none⟩ = some (.int .i16 b.hi) := cell_of_row W1 _ 6 _ _ _ BX.out
      have q7 : W1.cell? ⟨wr.heap.size, 7, none⟩ = some (.int .i16 b.we) := cell_of_row W1 _ 7 _ _ _ BX.out
      go_wp2_with fail
      refine (take_any b0 (n + k) (leftAt xs ys k) b WB.out W1 (SK.out.below EX.out) LB.out).mono ?_
      rintro e w2 ⟨rfl, hk2, hg2⟩
      have yx := YX.out
      have hbx := (hg2.block _ YX.out (fun e => by injection e with e; omega)).trans BX.out
      clear q0 q1 q2 q3 q4 q5 q6 q7
      have q0 : w2.cell? ⟨wr.heap.size, 0, none⟩ = some (.int .i16 b.c) := cell_of_row w2 _ 0 _ _ _ hbx
      have q1 : w2.cell? ⟨wr.heap.size, 1, none⟩ = some (.int .u8 b.m0) := cell_of_row w2 _ 1 _ _ _ hbx
      have q2 : w2.cell? ⟨wr.heap.size, 2, none⟩ = some (.int .u8 b.m1) := cell_of_row w2 _ 2 _ _ _ hbx
      have q3 : w2.cell? ⟨wr.heap.size, 3, none⟩ = some (.int .u8 b.m2) := cell_of_row w2 _ 3 _ _ _ hbx
      have q4 : w2.cell? ⟨wr.heap.size, 4, none⟩ = some (.int .i16 b.v) := cell_of_row w2 _ 4 _ _ _ hbx
      have q5 : w2.cell? ⟨wr.heap.size, 5, none⟩ = some (.int .i16 b.wi) := cell_of_row w2 _ 5 _ _ _ hbx
      have q6 : w2.cell? ⟨wr.heap.size, 6, none⟩ = some (.int .i16 b.hi) := cell_of_row w2 _ 6 _ _ _ hbx
      have q7 : w2.cell? ⟨wr.heap.size, 7, none⟩ = some (.int .i16 b.we) := cell_of_row w2 _ 7 _ _ _ hbx
      have S2 := Lib.hid (show Stk w2 b0 (n + (k + 1)) (leftAt xs ys (k + 1)) by
        have e : leftAt xs ys (k + 1) = upd (leftAt xs ys k) b (leftAt xs ys k b - 1) := by
          funext y
          by_cases q : y = b
          · subst q; rw [upd_same, LS.out]
          · rw [upd_other _ _ q, LOT.out y (fun r => q r.symm)]
        rw [e]
        exact hk2)
      have G1 := Lib.hid (gbNext HG.out GX.out (fun k hk => by injection hk with hk; exact .inr hk.symm))
      have G2 := Lib.hid (gbNext G1.out hg2 (fun k hk => by injection hk with hk; exact .inr hk.symm))
      have O2 := Lib.hid (ownOther (ownBelow OA.out EX.out) hg2 (fun k hk e => by have := (OA.out.lt k hk).1; injection e with e; omega))
      have z2 := G2.out.size
      clear hk2 hg2 hbx
      by_cases h0 : 0 < leftAt xs ys k b
      · have D0 := Lib.hid (decide_eq_true h0)
        have M0 := Lib.hid (MN.out (fun h => by have := LN.out.2 h; omega))
        clear h0
        rw [D0.out]
        go_wp2
        go_roundw
        case rel => exact ⟨_, k + 1, rfl, by omega, by go_num, by rw [M0.out]; exact O2.out, S2.out, G2.out⟩
        case measure => simp [intOf]; omega
      · have D0 := Lib.hid (decide_eq_false h0)
        have M0 := Lib.hid (MY.out (LN.out.1 (by omega)))
        clear h0
        rw [D0.out]
        go_wp2_with (at_builtin; refine wpList_append_own _ rfl (.tmp 18) (.tmp 20) _ rfl w.heap.size 50 i0 (.agg #[.int .i16 0, .int .u8 0, .int .u8 0, .int .u8 0, .int .i16 0, .int .i16 0, .int .i16 0, .int .i16 0]) 8 14 Tryd.underlying24 hi0 hz0 hz1 hz2 rfl (by decide) _ _ _ rfl (O2.out.alloc _) ⟨w2.heap.size, 0, none⟩ 1 1 [.int .i16 b.c, .int .u8 b.m0, .int .u8 b.m1, .int .u8 b.m2, .int .i16 b.v, .int .i16 b.wi, .int .i16 b.hi, .int .i16 b.we] rfl rfl (cell8_new _ _ _ _ _ _ _ _ _ _) (one8 b) (by unfold maxLen; omega) (by omega) (by simp; omega) ?_)
        intro v' w4 hown' hgrow' _
        have OC := Lib.hid (show w4.ownsRow w.heap.size 50 8 v' (moreTo xs ys (k + 1)).length (flB (moreTo xs ys (k + 1))) by rw [M0.out, flB_snoc, List.length_append]; exact hown')
        have GA := Lib.hid (gbNext (gbNext G2.out (World.grownBy_alloc w2 _ (some b0)) (fun k hk => by injection hk with hk; exact .inr hk.symm)) hgrow' (fun k hk => .inl (O2.out.lt k hk).1))
        have SA := Lib.hid ((S2.out.kept (World.grownBy_alloc w2 _ none) (by simp)).kept hgrow' (fun e => by have := (O2.out.lt b0 e.symm).1; omega))
        clear hown' hgrow'
        go_wp2
        go_roundw
        case rel => exact ⟨_, k + 1, rfl, by omega, by go_num, OC.out, SA.out, GA.out⟩
        case measure => simp [intOf]; omega
    · obtain rfl : k = xs.length := by omega
      go_wp2
      go_ret
      exact ⟨_, rfl, ResB.ofL OA.out rfl, HG.out⟩
end Go.Proofs.YtgfffbnodinkcabDoor
