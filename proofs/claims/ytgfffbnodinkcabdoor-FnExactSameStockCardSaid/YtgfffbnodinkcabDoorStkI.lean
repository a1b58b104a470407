/- The stock of a list, a book taken out of it, and what is not taken, by the program: contracts. Condition: at most 1048576 books, whose numbers lie within their kinds. -/
import Derived.Test.YtgfffbnodinkcabDoorStkM
import Derived.Test.YtgfffbnodinkcabDoorStk
import Derived.Test.YtgfffbnodinkcabDoorFlB
import Derived.RegionTactic
import Derived.BigRegion
namespace Go.Proofs.YtgfffbnodinkcabDoor
set_option linter.unusedSimpArgs false
set_option linter.unusedVariables false
set_option maxRecDepth 100000
open Go.RowKit Go.Sort

set_option maxHeartbeats 8000000 in
theorem stockOf_any (v : Value) (xs : List Bk) (wf : ∀ b ∈ xs, b.Wf) (w : World) (hs : SliceOf w v xs) (hn : xs.length ≤ 1048576) :
    Calls Tryd.prog 61 #[v] w fun e w' => ∃ b n, e = .returned (.map (some b)) ∧ w.heap.size ≤ b ∧ Stk w' b n (fun x => xs.count x) ∧ Below w.heap.size w w' := by
  obtain ⟨A, c, rfl, hs⟩ := hs
  have HS := Lib.hid hs
  have WF := Lib.hid wf
  have hmm := @run_makeMap Tryd.prog
  have S0 := Lib.hid (show Stk (w.alloc (.map #[] 0)) w.heap.size 0 (fun x => (xs.take 0).count x) from Stk.made w)
  have B0 := Lib.hid (show Below w.heap.size w (w.alloc (.map #[] 0)) from (Below.refl _ _).alloc (Nat.le_refl _) _)
  clear hs wf
  go_enter Tryd.func61, Tryd.ntmps61
  go_wp2
  go_loopw [9] (fun i_ wr => ∃ k : Nat, k ≤ xs.length ∧ i_ = .int .i64 (k : Int) ∧ Stk wr w.heap.size k (fun x => (xs.take k).count x) ∧ Below w.heap.size w wr) (fun i_ _ => xs.length - (intOf i_).toNat)
  case atStart => exact ⟨0, Nat.zero_le _, rfl, S0.out, B0.out⟩
  case round =>
    obtain ⟨k, hk, rfl, hstk, hb⟩ := hrel
    have SK := Lib.hid hstk
    have HB := Lib.hid hb
    have hsz := hb.size
    clear hstk hb
    by_cases hlt : k < xs.length
    · obtain ⟨ga, oa, rfl, hga, hat⟩ := HS.out (by omega)
      obtain ⟨p0, p1, p2, p3, p4, p5, p6, p7⟩ := booksAt_some (hat.below HB.out hga) hlt
      have WB := Lib.hid (WF.out _ (List.getElem_mem hlt))
      have TC := Lib.hid (fun y => take_count hlt y)
      clear hat
      generalize xs[k] = b at *
      have cl : (xs.take k).count b ≤ k := Nat.le_trans List.count_le_length (by rw [List.length_take]; omega)
      have GX := Lib.hid (show Below wr.heap.size wr (wr.alloc (.cells #[.int .i16 b.c, .int .u8 b.m0, .int .u8 b.m1, .int .u8 b.m2, .int .i16 b.v, .int .i16 b.wi, .int .i16 b.hi, .int .i16 b.we] 50)) from (Below.refl _ _).alloc (Nat.le_refl _) _)
      have BX := Lib.hid (heap_alloc_new wr (.cells #[.int .i16 b.c, .int .u8 b.m0, .int .u8 b.m1, .int .u8 b.m2, .int .i16 b.v, .int .i16 b.wi, .int .i16 b.hi, .int .i16 b.we] 50))
      go_wp2
      generalize World.alloc wr _ = W1 at GX BX ⊢
      clear p0 p1 p2 p3 p4 p5 p6 p7
      have q0 : W1.cell? ⟨wr.heap.size, 0, none⟩ = some (.int .i16 b.c) := cell_of_row W1 _ 0 _ _ _ BX.out
      have q1 : W1.cell? ⟨wr.heap.size, 1, none⟩ = some (.int .u8 b.m0) := cell_of_row W1 _ 1 _ _ _ BX.out
      have q2 : W1.cell? ⟨wr.heap.size, 2, none⟩ = some (.int .u8 b.m1) := cell_of_row W1 _ 2 _ _ _ BX.out
      have q3 : W1.cell? ⟨wr.heap.size, 3, none⟩ = some (.int .u8 b.m2) := cell_of_row W1 _ 3 _ _ _ BX.out
      have q4 : W1.cell? ⟨wr.heap.size, 4, none⟩ = some (.int .i16 b.v) := cell_of_row W1 _ 4 _ _ _ BX.out
      have q5 : W1.cell? ⟨wr.heap.size, 5, none⟩ = some (.int .i16 b.wi) := cell_of_row W1 _ 5 _ _ _ BX.out
      have q6 : W1.cell? ⟨wr.heap.size, 6, none⟩ = some (.int .i16 b.hi) := cell_of_row W1 _ 6 _ _ _ BX.out
      have q7 : W1.cell? ⟨wr.heap.size, 7, none⟩ = some (.int .i16 b.we) := cell_of_row W1 _ 7 _ _ _ BX.out
      have SX := Lib.hid (Stk.drew (SK.out.below GX.out))
      have hL := SX.out.look b WB.out
      obtain ⟨v0, st, w3, hE, hL3, g3, hS⟩ := SX.out.entry b WB.out
      obtain ⟨w4, hS4, hk4, g4⟩ := hS ((xs.take k).count b + 1)
      have HK4 := Lib.hid hk4
      have HG4 := Lib.hid g4
      have BD := Lib.hid ((bnext HB.out GX.out).drew)
      clear hk4 g4 g3 hS
      unfold bkV at hL hL3 hE
      push_cast at hS4
      generalize hm : (xs.take k).count b = m at *
      have HM := Lib.hid hm
      clear hm
      go_region
      all_goals
        have B4 := Lib.hid (BD.out.grown HG4.out BD.out.size (fun k hk => by injection hk with hk; omega))
        have S4 := Lib.hid (show Stk w4 w.heap.size (k + 1) (fun x => (xs.take (k + 1)).count x) by
          have e : (fun x => (xs.take (k + 1)).count x) = upd (fun x => (xs.take k).count x) b (m + 1) := by
            funext y
            rw [TC.out y]
            by_cases q : y = b
            · subst q; rw [upd_same, if_pos rfl, HM.out]
            · rw [upd_other _ _ q, if_neg (fun r => q r.symm)]; rfl
          rw [e]
          exact HK4.out)
        clear q0 q1 q2 q3 q4 q5 q6 q7 hL hL3 hE hS4
        go_wp2
        go_roundw
        case rel => exact ⟨k + 1, by omega, by go_num, S4.out, B4.out⟩
        case measure => simp [intOf]; omega
    · obtain rfl : k = xs.length := by omega
      have SE := Lib.hid (show Stk wr w.heap.size xs.length (fun x => xs.count x) by have := SK.out; rwa [List.take_length] at this)
      go_wp2
      go_ret
      exact ⟨_, _, rfl, Nat.le_refl _, SE.out, HB.out⟩
end Go.Proofs.YtgfffbnodinkcabDoor
