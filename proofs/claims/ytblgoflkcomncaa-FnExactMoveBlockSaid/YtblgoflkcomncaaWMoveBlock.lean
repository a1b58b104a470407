/- The law of MoveBlock, walked. Condition: lists no longer than the law tests, whose numbers lie within their kinds. -/
import Derived.Test.YtblgoflkcomncaaMb6
import Derived.Deep.RegionHeld3
namespace Go.Proofs.Ytblgoflkcomncaa
set_option linter.unusedSimpArgs false
set_option linter.unusedVariables false
set_option maxRecDepth 100000
open Go.RowKit

set_option maxHeartbeats 8000000 in
theorem walkMoveBlock (v : Value) (xs : List Bk) (wf : ∀ b ∈ xs, b.Wf) (m1 : Kb) (wm : m1.Wf) (w : World) (sl : SliceOf w v xs) (ml : xs.length ≤ maxLen) :
    Calls Try.prog 6 #[v, .agg #[.int .i16 m1.f, .int .i16 m1.c, .int .i16 m1.t]] w fun e w' => e = .returned (.bool true) ∧ Below w.heap.size w w' := by
  have mx : xs.length ≤ 9223372036854775807 := by unfold maxLen at ml; omega
  have GB := Lib.hid (show Below w.heap.size w (w.alloc (.cells #[.int .i16 m1.f, .int .i16 m1.c, .int .i16 m1.t] 56)) from (Below.refl _ _).alloc (Nat.le_refl _) _)
  have X0 := Lib.hid (heap_alloc_new w (.cells #[.int .i16 m1.f, .int .i16 m1.c, .int .i16 m1.t] 56))
  have SL := Lib.hid (sl.below GB.out)
  have WF := Lib.hid wf
  have WM := Lib.hid wm
  have LRL := Lib.hid (blR_length xs m1.f m1.c m1.t)
  obtain ⟨A, c, rfl, -⟩ := sl
  clear wf wm
  by_cases hn : (xs.length : Int) ≤ 1048576
  · have e0 : ¬ (1048576 - (xs.length : Int) < 0) := by omega
    have LR := Lib.hid (show (blR xs m1.f m1.c m1.t).length ≤ 1048576 by have := LRL.out; omega)
    have LM := Lib.hid (show (blR xs m1.f m1.c m1.t).length ≤ maxLen by have := LRL.out; omega)
    go_enter Try.func6, Try.ntmps6
    go_wp2_with fail
    generalize World.alloc w _ = w0 at GB X0 SL ⊢
    refine (szBookS_left _ _ _ _ _ mx (by omega) (by omega)).mono ?_
    rintro e w' ⟨rfl, rfl⟩
    rw [if_pos (by omega)]
    replace hn : xs.length ≤ 1048576 := by omega
    have Y0 := Lib.hid (Array.getElem?_eq_some_iff.1 X0.out).1
    have XB0 := Lib.hid X0.out
    go_wp2
    have b0_3 : Below w0.heap.size w0 w0.drew := (Below.refl _ _).drew
    have XX3 := Lib.hid (X0.out)
    have XL3 := Lib.hid (Array.getElem?_eq_some_iff.1 XX3.out).1
    have SS3 := Lib.hid (SL.out)
    have HK3 := Lib.hid (show ∀ W1, Below w0.heap.size w0 W1 → (fun W1 => Below w0.heap.size w0 W1 ∧ W1.cell? ⟨w.heap.size, 0, none⟩ = some (.int .i16 m1.f) ∧ W1.cell? ⟨w.heap.size, 1, none⟩ = some (.int .i16 m1.c) ∧ W1.cell? ⟨w.heap.size, 2, none⟩ = some (.int .i16 m1.t)) W1 from fun W1 hB => ⟨hB, cell_of_row W1 _ 0 _ _ _ ((hB.block _ XL3.out).trans XX3.out), cell_of_row W1 _ 1 _ _ _ ((hB.block _ XL3.out).trans XX3.out), cell_of_row W1 _ 2 _ _ _ ((hB.block _ XL3.out).trans XX3.out)⟩)
    go_region_held3 (fun W1 => Below w0.heap.size w0 W1 ∧ W1.cell? ⟨w.heap.size, 0, none⟩ = some (.int .i16 m1.f) ∧ W1.cell? ⟨w.heap.size, 1, none⟩ = some (.int .i16 m1.c) ∧ W1.cell? ⟨w.heap.size, 2, none⟩ = some (.int .i16 m1.t)) (first | exact HK3.out _ b0_3 | (refine HK3.out _ (bnext ?_ hq); exact And.left (by assumption))) (first
      | (go_at_call 26; refine (toBookS_any _ xs _ (SS3.out.below (And.left (by assumption))) hn).mono ?_; rintro e w' ⟨gz, rfl, hg, hr, hq⟩; have HR := Lib.hid hr; clear hr hg)
      | (go_at_call 35; refine (toBlock_any m1 _).mono ?_; rintro e w' ⟨rfl, hq⟩; have HR2 := Lib.hid (RowK.below HR.out hq (RowK.lt HR.out)))
      | (go_at_call 34; refine (specMoveBlock_any gz 0 xs.length xs m1.f m1.c m1.t WF.out _ (Row.slice HR2.out) (Nat.le_refl _) hn WM.out.f WM.out.c WM.out.t).mono ?_; rintro e w3 ⟨u0, rfl, ho, hq⟩; have Ou0 := Lib.hid ho; clear ho))
    all_goals
      rename_i hheld
      have hB3 := hheld.1
      clear hheld HK3 b0_3 XX3 SS3 HR HR2 XL3
      have b3 : Below w0.heap.size w0 w3 := hB3
      have z3 := b3.size
      have L0 := Lib.hid Ou0.out.lt
      have O0 := Ou0
      go_wp2_with fail
      refine (toBookS_any _ xs _ (SL.out.below b3) hn).mono ?_
      rintro e w4 ⟨gx, rfl, hgx, hrx, h4⟩
      have b4 : Below w0.heap.size w0 w4 := bnext b3 h4
      have z4 := b4.size
      have y4 := h4.size
      have RX := Lib.hid hrx
      have LX := Lib.hid (RowK.lt hrx)
      clear hrx
      have q4_0 : w4.cell? ⟨w.heap.size, 0, none⟩ = some (.int .i16 m1.f) := cell_of_row w4 _ 0 _ _ _ ((b4.block _ Y0.out).trans X0.out)
      have q4_1 : w4.cell? ⟨w.heap.size, 1, none⟩ = some (.int .i16 m1.c) := cell_of_row w4 _ 1 _ _ _ ((b4.block _ Y0.out).trans X0.out)
      have q4_2 : w4.cell? ⟨w.heap.size, 2, none⟩ = some (.int .i16 m1.t) := cell_of_row w4 _ 2 _ _ _ ((b4.block _ Y0.out).trans X0.out)
      go_wp2_with fail
      refine (toBlock_any m1 _).mono ?_
      rintro e w5 ⟨rfl, h5⟩
      have b5 : Below w0.heap.size w0 w5 := bnext b4 h5
      have z5 := b5.size
      have y5 := h5.size
      clear q4_0 q4_1 q4_2
      go_wp2_with fail
      refine (moveBlock_any _ xs m1.f m1.c m1.t WF.out _ (RX.out.slice.below h5) row_cap hn WM.out.f WM.out.c WM.out.t).mono ?_
      rintro e w6 ⟨u1, rfl, ho1, h6⟩
      have b6 : Below w0.heap.size w0 w6 := bnext b5 h6
      have z6 := b6.size
      have y6 := h6.size
      have O1 := Lib.hid ho1
      clear ho1
      have L1 := Lib.hid O1.out.lt
      generalize hrc : blC xs m1.f m1.c m1.t = rc
      have HRC := Lib.hid hrc
      clear hrc
      go_wp2_with fail
      refine (eqBookS_same _ _ (blR xs m1.f m1.c m1.t) _ O1.out.slice (O0.out.below (bnext (bnext h4 h5) h6)).slice LM.out).mono ?_
      rintro e w7 ⟨rfl, h7⟩
      have b7 : Below w0.heap.size w0 w7 := bnext b6 h7
      have z7 := b7.size
      have y7 := h7.size
      go_wp2_with fail
      refine (toBookS_any _ xs _ (SL.out.below b7) hn).mono ?_
      rintro e w8 ⟨ga, rfl, hga, hra, h8⟩
      have b8 : Below w0.heap.size w0 w8 := bnext b7 h8
      have z8 := b8.size
      have y8 := h8.size
      have RA := Lib.hid hra
      clear hra hga
      go_wp2_with fail
      refine (eqBookS_same _ _ xs _ (RX.out.slice.below (bnext (bnext (bnext h5 h6) h7) h8)) RA.out.slice ml).mono ?_
      rintro e w9 ⟨rfl, h9⟩
      have b9 : Below w0.heap.size w0 w9 := bnext b8 h9
      have z9 := b9.size
      have y9 := h9.size
      have c9 := bnext (bnext (bnext h6 h7) h8) h9
      have O0a := Lib.hid (O0.out.below (bnext (bnext h4 h5) c9))
      have O1a := Lib.hid (O1.out.below (bnext (bnext h7 h8) h9))
      have GX := Lib.hid ((RowG.of RX.out).below (bnext h5 c9) LX.out)
      have X9 := Lib.hid ((b9.block _ Y0.out).trans X0.out)
      go_wp2_with fail
      refine (markBookS_any gx xs.length _ GX.out hn).mono ?_
      rintro e w10 ⟨rfl, k10⟩
      have b10 := b9.grown k10 b9.size (fun k hk => by injection hk with hk; omega)
      have O0b := Lib.hid (O0a.out.other k10 (fun k hk e => by injection e with e; have := (L0.out k hk).2; omega))
      have O1b := Lib.hid (O1a.out.other k10 (fun k hk e => by injection e with e; have := (L1.out k hk).1; have := LX.out; omega))
      have X10 := Lib.hid ((k10.block _ (by have := Y0.out; omega) (fun e => by injection e with e; have := Y0.out; omega)).trans X9.out)
      generalize hkk : 1 + 8 * (xs.length : Int) = kk
      have kd : decide (kk < 0) = false := by simp; omega
      have kd2 : ¬ (kk < 0) := by omega
      clear hkk
      have z10 := b10.size
      go_wp2_with fail
      refine (eqBookS_same _ _ (blR xs m1.f m1.c m1.t) _ O1b.out.slice O0b.out.slice LM.out).mono ?_
      rintro e w11 ⟨rfl, h11⟩
      have b11 : Below w0.heap.size w0 w11 := bnext b10 h11
      have z11 := b11.size
      have y11 := h11.size
      have O0d := Lib.hid (O0b.out.below h11)
      have O1d := Lib.hid (O1b.out.below h11)
      have X11 := Lib.hid ((h11.block _ (by have := Y0.out; omega)).trans X10.out)
      go_wp2_with fail
      refine (markRes_any u1 (blR xs m1.f m1.c m1.t) _ _ O1d.out LR.out).mono ?_
      rintro e w12 ⟨rfl, hm, k12⟩
      have MM := Lib.hid hm
      clear hm
      have b12 := b11.grown k12 b11.size (fun k hk => by have := (L1.out k hk).1; omega)
      have O0e := Lib.hid (O0d.out.other k12 (fun k hk e => by have := (L0.out k hk).2; have := (L1.out k e.symm).1; omega))
      have X12 := Lib.hid ((k12.block _ (by have := Y0.out; omega) (fun e => by have := (L1.out _ e.symm).1; have := Y0.out; omega)).trans X11.out)
      have Y12 := Lib.hid (Array.getElem?_eq_some_iff.1 X12.out).1
      have z12 := b12.size
      go_wp2_with fail
      refine (heldBookS_any u1 (blR xs m1.f m1.c m1.t).length _ LR.out MM.out.slice).mono ?_
      rintro e w' ⟨rfl, rfl⟩
      go_wp2
      have b0_15 : Below w12.heap.size w12 w12.drew := (Below.refl _ _).drew
      have XX15 := Lib.hid (X12.out)
      have XL15 := Lib.hid (Array.getElem?_eq_some_iff.1 XX15.out).1
      have SS15 := Lib.hid (SL.out.below b12)
      have HK15 := Lib.hid (show ∀ W1, Below w12.heap.size w12 W1 → (fun W1 => Below w12.heap.size w12 W1 ∧ W1.cell? ⟨w.heap.size, 0, none⟩ = some (.int .i16 m1.f) ∧ W1.cell? ⟨w.heap.size, 1, none⟩ = some (.int .i16 m1.c) ∧ W1.cell? ⟨w.heap.size, 2, none⟩ = some (.int .i16 m1.t)) W1 from fun W1 hB => ⟨hB, cell_of_row W1 _ 0 _ _ _ ((hB.block _ XL15.out).trans XX15.out), cell_of_row W1 _ 1 _ _ _ ((hB.block _ XL15.out).trans XX15.out), cell_of_row W1 _ 2 _ _ _ ((hB.block _ XL15.out).trans XX15.out)⟩)
      go_region_held3 (fun W1 => Below w12.heap.size w12 W1 ∧ W1.cell? ⟨w.heap.size, 0, none⟩ = some (.int .i16 m1.f) ∧ W1.cell? ⟨w.heap.size, 1, none⟩ = some (.int .i16 m1.c) ∧ W1.cell? ⟨w.heap.size, 2, none⟩ = some (.int .i16 m1.t)) (first | exact HK15.out _ b0_15 | (refine HK15.out _ (bnext ?_ hq); exact And.left (by assumption))) (first
        | (go_at_call 26; refine (toBookS_any _ xs _ (SS15.out.below (And.left (by assumption))) hn).mono ?_; rintro e w' ⟨gz, rfl, hg, hr, hq⟩; have HR := Lib.hid hr; clear hr hg)
        | (go_at_call 35; refine (toBlock_any m1 _).mono ?_; rintro e w' ⟨rfl, hq⟩; have HR2 := Lib.hid (RowK.below HR.out hq (RowK.lt HR.out)))
        | (go_at_call 36; refine (moveBlock_any _ xs m1.f m1.c m1.t WF.out _ (Row.slice HR2.out) row_cap hn WM.out.f WM.out.c WM.out.t).mono ?_; rintro e w15 ⟨u2, rfl, ho, hq⟩; have Ou2 := Lib.hid ho; clear ho))
      all_goals
        rename_i hheld
        have hB15 := hheld.1
        clear hheld HK15 b0_15 XX15 SS15 HR HR2 XL15
        rw [HRC.out]
        have b15 : Below w0.heap.size w0 w15 := bnext b12 hB15
        have z15 := b15.size
        go_wp2_with fail
        refine (eqBookS_same _ _ (blR xs m1.f m1.c m1.t) _ Ou2.out.slice (O0e.out.below hB15).slice LM.out).mono ?_
        rintro e w16 ⟨rfl, h16⟩
        have b16 : Below w0.heap.size w0 w16 := bnext b15 h16
        have z16 := b16.size
        have y16 := h16.size
        go_wp2_with fail
        refine (heldBookS_any u1 (blR xs m1.f m1.c m1.t).length _ LR.out (MM.out.below (bnext hB15 h16)).slice).mono ?_
        rintro e w' ⟨rfl, rfl⟩
        go_wp2
        go_ret
        exact ⟨rfl, bnext GB.out b16⟩
  · have e0 : (1048576 - (xs.length : Int) < 0) := by omega
    go_enter Try.func6, Try.ntmps6
    go_wp2_with fail
    generalize World.alloc w _ = w0 at GB X0 SL ⊢
    refine (szBookS_left _ _ _ _ _ mx (by omega) (by omega)).mono ?_
    rintro e w' ⟨rfl, rfl⟩
    rw [if_neg (by omega)]
    go_wp2
    go_ret
    exact ⟨rfl, GB.out⟩

end Go.Proofs.Ytblgoflkcomncaa
