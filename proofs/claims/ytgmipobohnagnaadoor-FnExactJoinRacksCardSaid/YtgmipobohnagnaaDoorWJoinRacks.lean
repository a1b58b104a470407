/- The law of JoinRacks, walked. Condition: the three error variables hold three different errors of errors.New's make. -/
import Derived.Test.YtgmipobohnagnaaDoorRkJnS
import Derived.Test.YtgmipobohnagnaaDoorRkJn2
import Derived.Test.YtgmipobohnagnaaDoorRkJnL
import Derived.Test.YtgmipobohnagnaaDoorRk
import Derived.Deep.RegionHeld3
import Derived.Deep.Cut
import Derived.Deep.CutRange
namespace Go.Proofs.YtgmipobohnagnaaDoor
set_option linter.unusedSimpArgs false
set_option linter.unusedVariables false
set_option maxRecDepth 100000
open Go.RowKit

theorem hbNew {Y w' : World} {o : Obj} (hq : Below (Y.alloc o).heap.size (Y.alloc o) w') : w'.heap[Y.heap.size]? = some o := (hq.block _ (by simp)).trans (heap_alloc_new _ _)
theorem hbNewD {Y w' : World} {o : Obj} (hq : Below ((Y.alloc o).drew).heap.size ((Y.alloc o).drew) w') : w'.heap[Y.heap.size]? = some o := (hq.block Y.heap.size (show Y.heap.size < (Y.alloc o).heap.size by simp)).trans (show (Y.alloc o).heap[Y.heap.size]? = some o from heap_alloc_new _ _)
theorem hbOld {X w' : World} {p : Nat} {o : Obj} (hq : Below X.heap.size X w') (h : X.heap[p]? = some o) : w'.heap[p]? = some o := (hq.block _ (Array.getElem?_eq_some_iff.1 h).1).trans h
theorem nbR {t t' : TypeId} {w : World} {base : Nat} {v : Value} {ys : List Pl} (h : ResN Pl.cells t w base v ys) {p : Nat} {cs : Array Value} {fz : Nat × Nat} (hp : w.heap[p]? = some (.cells cs t' fz)) (hne : t' ≠ t) : ∀ k, v.ownBlock = some k → k ≠ p := by
  intro k hk hkp
  subst hkp
  rcases h with ⟨rfl, _⟩ | ⟨g, cap, rfl, _, ⟨cur, hg, _⟩, _⟩
  · simp [Value.ownBlock] at hk
  · simp only [Value.ownBlock, Option.some.injEq] at hk
    subst hk
    rw [hp] at hg
    injection hg with hg
    injection hg with _ h2
    exact hne h2

theorem rowpOtherJoinRacks {w w' : World} {g g' : Nat} {xs : List Pl} {t : TypeId} {n m : Nat} (h : RowN Pl.cells t w g xs n m) (hg : w.grownBy w' (some g')) (hne : g ≠ g') : RowN Pl.cells t w' g xs n m := by
  obtain ⟨cs, h1, h2⟩ := h
  exact ⟨cs, (hg.block g (Array.getElem?_eq_some_iff.1 h1).1 (fun e => hne (by injection e))).trans h1, h2⟩

set_option maxHeartbeats 16000000 in
theorem walkJoinRacks (r0 : Rk) (hv0 : Value) (wf0 : r0.Wf) (r1 : Rk) (hv1 : Value) (wf1 : r1.Wf) (w : World) (s i : Addr) (he : Er2 w s i) (sl0 : PlsOf w hv0 r0.ps) (ml0 : r0.ps.length ≤ maxLen) (sl1 : PlsOf w hv1 r1.ps) (ml1 : r1.ps.length ≤ maxLen) :
    Calls Tryd.prog 3 #[.agg #[.int .i16 r0.n, hv0], .agg #[.int .i16 r1.n, hv1]] w fun e w' => e = .returned (.bool true) ∧ Below w.heap.size w w' := by
  have mx0 : r0.ps.length ≤ 9223372036854775807 := by unfold maxLen at ml0; omega
  have SL0 := Lib.hid sl0
  have WF0 := Lib.hid wf0
  have ML0 := Lib.hid ml0
  obtain ⟨A0, k0, rfl, -⟩ := sl0
  have mx1 : r1.ps.length ≤ 9223372036854775807 := by unfold maxLen at ml1; omega
  have SL1 := Lib.hid sl1
  have WF1 := Lib.hid wf1
  have ML1 := Lib.hid ml1
  obtain ⟨A1, k1, rfl, -⟩ := sl1
  have HE := Lib.hid he
  clear wf0 ml0 wf1 ml1 he
  by_cases hn0 : (r0.ps.length : Int) ≤ 1048576
  · have e0 : ¬ (1048576 - (r0.ps.length : Int) < 0) := by omega
    by_cases hn1 : (r1.ps.length : Int) ≤ 1048576 - (r0.ps.length : Int)
    · have e1 : ¬ (1048576 - (r0.ps.length : Int) - (r1.ps.length : Int) < 0) := by omega
      go_enter Tryd.func3, Tryd.ntmps3
      have X0 := Lib.hid (show (World.alloc (World.alloc w (.cells #[.int .i16 r0.n, .slice A0 r0.ps.length k0] 25)) (.cells #[.int .i16 r1.n, .slice A1 r1.ps.length k1] 25)).heap[w.heap.size]? = some (Obj.cells #[.int .i16 r0.n, .slice A0 r0.ps.length k0] 25 (0, 0)) from (Below.heap_alloc _ _ _ (by simp)).trans (heap_alloc_new w _))
      have X1 := Lib.hid (show (World.alloc (World.alloc w (.cells #[.int .i16 r0.n, .slice A0 r0.ps.length k0] 25)) (.cells #[.int .i16 r1.n, .slice A1 r1.ps.length k1] 25)).heap[w.heap.size + 1]? = some (Obj.cells #[.int .i16 r1.n, .slice A1 r1.ps.length k1] 25 (0, 0)) from by have := heap_alloc_new (World.alloc w (.cells #[.int .i16 r0.n, .slice A0 r0.ps.length k0] 25)) (.cells #[.int .i16 r1.n, .slice A1 r1.ps.length k1] 25); rwa [World.size_alloc] at this)
      have Y0 := Lib.hid (show w.heap.size < (World.alloc (World.alloc w (.cells #[.int .i16 r0.n, .slice A0 r0.ps.length k0] 25)) (.cells #[.int .i16 r1.n, .slice A1 r1.ps.length k1] 25)).heap.size by simp; omega)
      have Y1 := Lib.hid (show w.heap.size + 1 < (World.alloc (World.alloc w (.cells #[.int .i16 r0.n, .slice A0 r0.ps.length k0] 25)) (.cells #[.int .i16 r1.n, .slice A1 r1.ps.length k1] 25)).heap.size by simp)
      have h1 : Below w.heap.size w (World.alloc (World.alloc w (.cells #[.int .i16 r0.n, .slice A0 r0.ps.length k0] 25)) (.cells #[.int .i16 r1.n, .slice A1 r1.ps.length k1] 25)) := by go_grown
      go_wp2_with fail
      generalize World.alloc (World.alloc w _) _ = w1 at X0 X1 Y0 Y1 h1 ⊢
      have z1 := h1.size
      have yy0 := Y0.out
      have yy1 := Y1.out
      have B1 := Lib.hid h1
      have zb1 := B1.out.size
      refine (szRack_left r0 _ _ _ _ mx0 (by omega) (by omega)).mono ?_
      rintro e w2 ⟨rfl, h2⟩
      have z2 := h2.size
      have B2 := Lib.hid (bnext B1.out h2)
      have zb2 := B2.out.size
      have a0_2 := Lib.hid ((h2.block _ Y0.out).trans X0.out)
      have a0_2_l := Lib.hid (Nat.lt_of_lt_of_le Y0.out z2)
      have a1_2 := Lib.hid ((h2.block _ Y1.out).trans X1.out)
      have a1_2_l := Lib.hid (Nat.lt_of_lt_of_le Y1.out z2)
      rw [if_pos (by omega)]
      have q_a1_0 := cell_of_row w2 _ 0 _ _ _ a1_2.out
      have q_a1_1 := cell_of_row w2 _ 1 _ _ _ a1_2.out
      simp only [List.getElem?_toArray, List.getElem?_cons_zero, List.getElem?_cons_succ] at q_a1_0 q_a1_1
      go_wp2_with fail
      refine (szRack_left r1 _ _ _ _ mx1 (by omega) (by omega)).mono ?_
      rintro e w3 ⟨rfl, h3⟩
      have z3 := h3.size
      clear q_a1_0 q_a1_1
      have B3 := Lib.hid (bnext B2.out h3)
      have zb3 := B3.out.size
      have a0_3 := Lib.hid ((h3.block _ a0_2_l.out).trans a0_2.out)
      have a0_3_l := Lib.hid (Nat.lt_of_lt_of_le a0_2_l.out z3)
      have a1_3 := Lib.hid ((h3.block _ a1_2_l.out).trans a1_2.out)
      have a1_3_l := Lib.hid (Nat.lt_of_lt_of_le a1_2_l.out z3)
      rw [if_pos (by omega)]
      replace hn0 : r0.ps.length ≤ 1048576 := by omega
      replace hn1 : r1.ps.length ≤ 1048576 := by omega
      have LR0 := Lib.hid (show (jnL r0 r1).length ≤ 1048576 from (Nat.le_trans (jnL_120 r0 r1) (by omega)))
      have LM0 := Lib.hid (show (jnL r0 r1).length ≤ maxLen from Nat.le_trans LR0.out (by unfold maxLen; omega))
      have b0_u : Below w3.heap.size w3 w3.drew := (Below.refl _ _).drew
      have HKu := Lib.hid (show ∀ W1, Below w3.heap.size w3 W1 → (fun W1 => Below w3.heap.size w3 W1 ∧ W1.cell? ⟨w.heap.size, 0, none⟩ = some (.int .i16 r0.n) ∧ W1.cell? ⟨w.heap.size, 1, none⟩ = some (.slice A0 r0.ps.length k0) ∧ W1.cell? ⟨(w.heap.size + 1), 0, none⟩ = some (.int .i16 r1.n) ∧ W1.cell? ⟨(w.heap.size + 1), 1, none⟩ = some (.slice A1 r1.ps.length k1)) W1 from fun W1 hB => ⟨hB, (hB.cell (p := ⟨_, 0, none⟩) a0_3_l.out).trans (cell_of_row w3 _ 0 _ _ _ a0_3.out), (hB.cell (p := ⟨_, 1, none⟩) a0_3_l.out).trans (cell_of_row w3 _ 1 _ _ _ a0_3.out), (hB.cell (p := ⟨_, 0, none⟩) a1_3_l.out).trans (cell_of_row w3 _ 0 _ _ _ a1_3.out), (hB.cell (p := ⟨_, 1, none⟩) a1_3_l.out).trans (cell_of_row w3 _ 1 _ _ _ a1_3.out)⟩)
      go_wp2
      go_cut [6, 7] from 6 to 34 (fun s6 s7 wx => ∃ (p : Nat) (u : Value), s6 = .pointer (some ⟨p, 0, none⟩) ∧ s7 = .int .i64 (jnC r0 r1) ∧ wx.heap[p]? = some (.cells #[.int .i16 (jnN r0 r1), u] 29 (0, 0)) ∧ ResN Pl.cells 45 wx w3.heap.size u (jnL r0 r1) ∧ Below w3.heap.size w3 wx)
      case first =>
        go_region_held3 (fun W1 => Below w3.heap.size w3 W1 ∧ W1.cell? ⟨w.heap.size, 0, none⟩ = some (.int .i16 r0.n) ∧ W1.cell? ⟨w.heap.size, 1, none⟩ = some (.slice A0 r0.ps.length k0) ∧ W1.cell? ⟨(w.heap.size + 1), 0, none⟩ = some (.int .i16 r1.n) ∧ W1.cell? ⟨(w.heap.size + 1), 1, none⟩ = some (.slice A1 r1.ps.length k1)) (first | exact HKu.out _ b0_u | (refine HKu.out _ (bnext ?_ hq); exact And.left (by assumption)) | exact HKu.out _ (bAl (by assumption)) | exact HKu.out _ (BZ.out.alloc BZ.out.size _) | exact HKu.out _ ((BZ.out.setCell (by first | exact Nat.le_refl _ | omega) _).setCell (by first | exact Nat.le_refl _ | omega) _)) (first
          | (go_at_call 6; with_reducible refine (toRack_any r0 _ _ (SL0.out.below (bnext B3.out (And.left (by assumption)))) hn0).mono ?_; rintro e wp0 ⟨gp0, rfl, hg, hr, hq⟩; have HP0 := Lib.hid (fun W2 (hB : Below wp0.heap.size wp0 W2) => SliceN.below (RowN.slice (c := r0.ps.length) hr) hB); have zp0 := (bnext (show Below w3.heap.size w3 _ from And.left (by assumption)) hq).size; clear hr hg; (first | have XB := Lib.hid (hbNewD hq) | have XB := Lib.hid (hbNew hq) | have XB := Lib.hid (hbOld hq XB.out) | skip))
          | (go_at_call 6; with_reducible refine (toRack_any r1 _ _ (SL1.out.below (bnext B3.out (And.left (by assumption)))) hn1).mono ?_; rintro e wp1 ⟨gp1, rfl, hg, hr, hq⟩; have HP1 := Lib.hid (fun W2 (hB : Below wp1.heap.size wp1 W2) => SliceN.below (RowN.slice (c := r1.ps.length) hr) hB); have zp1 := (bnext (show Below w3.heap.size w3 _ from And.left (by assumption)) hq).size; clear hr hg; (first | have XB := Lib.hid (hbNewD hq) | have XB := Lib.hid (hbNew hq) | have XB := Lib.hid (hbOld hq XB.out) | skip))
          | (go_at_call 5; refine (specJoinRacks_any r0 r1 _ _ _ _ WF0.out WF1.out _ (by first | exact HP0.out _ (Below.refl _ _) | exact HP0.out _ hq | exact HP0.out _ ((Below.refl _ _).alloc (Nat.le_refl _) _) | exact HP0.out _ (hq.alloc hq.size _) | exact HP0.out _ (bnext ((Below.refl _ _).alloc (Nat.le_refl _) _) hq)) (by first | exact HP1.out _ (Below.refl _ _) | exact HP1.out _ hq | exact HP1.out _ ((Below.refl _ _).alloc (Nat.le_refl _) _) | exact HP1.out _ (hq.alloc hq.size _) | exact HP1.out _ (bnext ((Below.refl _ _).alloc (Nat.le_refl _) _) hq)) ML0.out ML1.out).mono ?_; rintro e wz ⟨uz, rfl, hu, hq⟩; obtain ⟨Az, nz, kz, rfl⟩ := hu.form; have HU := Lib.hid (hu.mono (Below.size (show Below w3.heap.size w3 _ from And.left (by assumption)))); have BZ := Lib.hid (bnext (show Below w3.heap.size w3 _ from And.left (by assumption)) hq); clear hu; (first | have XB := Lib.hid (hbNewD hq) | have XB := Lib.hid (hbNew hq) | have XB := Lib.hid (hbOld hq XB.out) | skip); (first | (have qb0 := cell_of_row wz _ 0 _ _ _ XB.out; have qb1 := cell_of_row wz _ 1 _ _ _ XB.out; have qbf := fun j => frozen_of_row wz _ j _ _ XB.out; simp only [List.getElem?_toArray, List.getElem?_cons_zero, List.getElem?_cons_succ] at qb0 qb1) | skip)))
        all_goals
          first
          | (have XP := Lib.hid (put2 (x' := .int .i16 (jnN r0 r1)) (y' := .slice Az nz kz) XB.out)
             have NB := nbR HU.out XB.out (by decide)
             have HU2 := Lib.hid (HU.out.other (only_set2 (only_set2 (World.grownBy.refl wz (some _)) 0 (.int .i16 (jnN r0 r1))) 1 (.slice Az nz kz)) (fun k hk e => NB k hk (by injection e)))
             go_wp2_with fail
             go_meet
             exact ⟨_, _, rfl, rfl, XP.out, HU2.out, (BZ.out.setCell (by first | exact Nat.le_refl _ | omega) _).setCell (by first | exact Nat.le_refl _ | omega) _⟩)
          | (have XP := Lib.hid (heap_alloc_new wz (.cells #[.int .i16 (jnN r0 r1), .slice Az nz kz] 29))
             go_wp2_with fail
             go_meet
             exact ⟨_, _, rfl, rfl, XP.out, HU.out.below ((Below.refl _ _).alloc (Nat.le_refl _) _), BZ.out.alloc BZ.out.size _⟩)
      case rest =>
        obtain ⟨w4, rfl⟩ : ∃ x, x = wc := ⟨_, rfl⟩
        obtain ⟨pu, u0, rfl, rfl, hxb, hu0, h4⟩ := hcut
        have z4 := h4.size
        have XBu := Lib.hid hxb
        have YBu := Lib.hid (Array.getElem?_eq_some_iff.1 hxb).1
        have ybu := YBu.out
        clear hxb
        clear HKu b0_u
        have B4 := Lib.hid (bnext B3.out h4)
        have zb4 := B4.out.size
        have a0_4 := Lib.hid ((h4.block _ a0_3_l.out).trans a0_3.out)
        have a0_4_l := Lib.hid (Nat.lt_of_lt_of_le a0_3_l.out z4)
        have a1_4 := Lib.hid ((h4.block _ a1_3_l.out).trans a1_3.out)
        have a1_4_l := Lib.hid (Nat.lt_of_lt_of_le a1_3_l.out z4)
        obtain ⟨Au0, nu0, ku0, rfl⟩ := hu0.form
        have Fu0 := Lib.hid hu0
        have Lu0 := Lib.hid Fu0.out.lt
        clear hu0
        have XCu := Lib.hid (show w4.heap[pu]? = some (.cells #[.int .i16 (jnN r0 r1), (.slice Au0 nu0 ku0)] 29 (0, 0)) from XBu.out)
        have q_a0_0 := cell_of_row w4 _ 0 _ _ _ a0_4.out
        have q_a0_1 := cell_of_row w4 _ 1 _ _ _ a0_4.out
        simp only [List.getElem?_toArray, List.getElem?_cons_zero, List.getElem?_cons_succ] at q_a0_0 q_a0_1
        go_wp2_with fail
        refine (toRack_any r0 _ _ (SL0.out.below B4.out) hn0).mono ?_
        rintro e w5 ⟨g0, rfl, lo0, hr0, h5⟩
        have z5 := h5.size
        clear q_a0_0 q_a0_1
        have B5 := Lib.hid (bnext B4.out h5)
        have zb5 := B5.out.size
        have a0_5 := Lib.hid ((h5.block _ a0_4_l.out).trans a0_4.out)
        have a0_5_l := Lib.hid (Nat.lt_of_lt_of_le a0_4_l.out z5)
        have a1_5 := Lib.hid ((h5.block _ a1_4_l.out).trans a1_4.out)
        have a1_5_l := Lib.hid (Nat.lt_of_lt_of_le a1_4_l.out z5)
        have u0_5 := Lib.hid (Fu0.out.below h5)
        have ub0_5 := Lib.hid ((h5.block _ YBu.out).trans XCu.out)
        have ub0_5_l := Lib.hid (Nat.lt_of_lt_of_le YBu.out z5)
        have P0 := Lib.hid hr0
        have hi0 := hr0.lt
        clear hr0
        have h6 := (Below.refl w5.heap.size w5).alloc (Nat.le_refl _) (.cells #[.int .i16 r0.n, .slice (some ⟨g0, 0, none⟩) r0.ps.length r0.ps.length] 29)
        have X6 := Lib.hid (heap_alloc_new w5 (.cells #[.int .i16 r0.n, .slice (some ⟨g0, 0, none⟩) r0.ps.length r0.ps.length] 29))
        have Y6 := Lib.hid (show w5.heap.size < (World.alloc w5 (.cells #[.int .i16 r0.n, .slice (some ⟨g0, 0, none⟩) r0.ps.length r0.ps.length] 29)).heap.size by simp)
        have q_a1_0 := (h6.cell (p := ⟨_, 0, none⟩) a1_5_l.out).trans (cell_of_row w5 _ 0 _ _ _ a1_5.out)
        have qp_a1_0 := cell_of_row w5 _ 0 _ _ _ a1_5.out
        have q_a1_1 := (h6.cell (p := ⟨_, 1, none⟩) a1_5_l.out).trans (cell_of_row w5 _ 1 _ _ _ a1_5.out)
        have qp_a1_1 := cell_of_row w5 _ 1 _ _ _ a1_5.out
        simp only [List.getElem?_toArray, List.getElem?_cons_zero, List.getElem?_cons_succ] at q_a1_0 q_a1_1 qp_a1_0 qp_a1_1
        have ql_a1 := a1_5_l.out
        go_wp2_with fail
        generalize World.alloc w5 _ = w6 at X6 h6 Y6 ⊢
        have z6 := h6.size
        have yy6 := Y6.out
        have B6 := Lib.hid (bnext B5.out h6)
        have zb6 := B6.out.size
        have a0_6 := Lib.hid ((h6.block _ a0_5_l.out).trans a0_5.out)
        have a0_6_l := Lib.hid (Nat.lt_of_lt_of_le a0_5_l.out z6)
        have a1_6 := Lib.hid ((h6.block _ a1_5_l.out).trans a1_5.out)
        have a1_6_l := Lib.hid (Nat.lt_of_lt_of_le a1_5_l.out z6)
        have u0_6 := Lib.hid (u0_5.out.below h6)
        have ub0_6 := Lib.hid ((h6.block _ ub0_5_l.out).trans ub0_5.out)
        have ub0_6_l := Lib.hid (Nat.lt_of_lt_of_le ub0_5_l.out z6)
        have x0_6 := Lib.hid (P0.out.below h6 P0.out.lt)
        refine (toRack_any r1 _ _ (SL1.out.below B6.out) hn1).mono ?_
        rintro e w7 ⟨g1, rfl, lo1, hr1, h7⟩
        have z7 := h7.size
        clear q_a1_0 q_a1_1 qp_a1_0 qp_a1_1
        have B7 := Lib.hid (bnext B6.out h7)
        have zb7 := B7.out.size
        have a0_7 := Lib.hid ((h7.block _ a0_6_l.out).trans a0_6.out)
        have a0_7_l := Lib.hid (Nat.lt_of_lt_of_le a0_6_l.out z7)
        have a1_7 := Lib.hid ((h7.block _ a1_6_l.out).trans a1_6.out)
        have a1_7_l := Lib.hid (Nat.lt_of_lt_of_le a1_6_l.out z7)
        have u0_7 := Lib.hid (u0_6.out.below h7)
        have ub0_7 := Lib.hid ((h7.block _ ub0_6_l.out).trans ub0_6.out)
        have ub0_7_l := Lib.hid (Nat.lt_of_lt_of_le ub0_6_l.out z7)
        have x0_7 := Lib.hid (x0_6.out.below h7 x0_6.out.lt)
        have y0_7 := Lib.hid ((h7.block _ Y6.out).trans X6.out)
        have y0_7_l := Lib.hid (Nat.lt_of_lt_of_le Y6.out z7)
        have P1 := Lib.hid hr1
        have hi1 := hr1.lt
        clear hr1
        have h8 := (Below.refl w7.heap.size w7).alloc (Nat.le_refl _) (.cells #[.int .i16 r1.n, .slice (some ⟨g1, 0, none⟩) r1.ps.length r1.ps.length] 29)
        have X8 := Lib.hid (heap_alloc_new w7 (.cells #[.int .i16 r1.n, .slice (some ⟨g1, 0, none⟩) r1.ps.length r1.ps.length] 29))
        have Y8 := Lib.hid (show w7.heap.size < (World.alloc w7 (.cells #[.int .i16 r1.n, .slice (some ⟨g1, 0, none⟩) r1.ps.length r1.ps.length] 29)).heap.size by simp)
        have q_y0_0 := cell_of_row w7 _ 0 _ _ _ y0_7.out
        have q_y0_1 := cell_of_row w7 _ 1 _ _ _ y0_7.out
        simp only [List.getElem?_toArray, List.getElem?_cons_zero, List.getElem?_cons_succ] at q_y0_0 q_y0_1
        have ql_y0 := y0_7_l.out
        go_wp2_with fail
        generalize World.alloc w7 _ = w8 at X8 h8 Y8 ⊢
        have z8 := h8.size
        have yy8 := Y8.out
        have B8 := Lib.hid (bnext B7.out h8)
        have zb8 := B8.out.size
        have a0_8 := Lib.hid ((h8.block _ a0_7_l.out).trans a0_7.out)
        have a0_8_l := Lib.hid (Nat.lt_of_lt_of_le a0_7_l.out z8)
        have a1_8 := Lib.hid ((h8.block _ a1_7_l.out).trans a1_7.out)
        have a1_8_l := Lib.hid (Nat.lt_of_lt_of_le a1_7_l.out z8)
        have u0_8 := Lib.hid (u0_7.out.below h8)
        have ub0_8 := Lib.hid ((h8.block _ ub0_7_l.out).trans ub0_7.out)
        have ub0_8_l := Lib.hid (Nat.lt_of_lt_of_le ub0_7_l.out z8)
        have x0_8 := Lib.hid (x0_7.out.below h8 x0_7.out.lt)
        have y0_8 := Lib.hid ((h8.block _ y0_7_l.out).trans y0_7.out)
        have y0_8_l := Lib.hid (Nat.lt_of_lt_of_le y0_7_l.out z8)
        have x1_8 := Lib.hid (P1.out.below h8 P1.out.lt)
        refine (joinRacks_any r0 r1 _ _ WF0.out WF1.out _ s i (HE.out.below B8.out) (RowN.slice x0_8.out) (RowN.slice x1_8.out) hn0 hn1).mono ?_
        rintro e w9 ⟨t0, rfl, ht0, h9⟩
        have z9 := h9.size
        clear q_y0_0 q_y0_1 ql_y0
        have B9 := Lib.hid (bnext B8.out h9)
        have zb9 := B9.out.size
        have a0_9 := Lib.hid ((h9.block _ a0_8_l.out).trans a0_8.out)
        have a0_9_l := Lib.hid (Nat.lt_of_lt_of_le a0_8_l.out z9)
        have a1_9 := Lib.hid ((h9.block _ a1_8_l.out).trans a1_8.out)
        have a1_9_l := Lib.hid (Nat.lt_of_lt_of_le a1_8_l.out z9)
        have u0_9 := Lib.hid (u0_8.out.below h9)
        have ub0_9 := Lib.hid ((h9.block _ ub0_8_l.out).trans ub0_8.out)
        have ub0_9_l := Lib.hid (Nat.lt_of_lt_of_le ub0_8_l.out z9)
        have x0_9 := Lib.hid (x0_8.out.below h9 x0_8.out.lt)
        have y0_9 := Lib.hid ((h9.block _ y0_8_l.out).trans y0_8.out)
        have y0_9_l := Lib.hid (Nat.lt_of_lt_of_le y0_8_l.out z9)
        have x1_9 := Lib.hid (x1_8.out.below h9 x1_8.out.lt)
        have y1_9 := Lib.hid ((h9.block _ Y8.out).trans X8.out)
        have y1_9_l := Lib.hid (Nat.lt_of_lt_of_le Y8.out z9)
        obtain ⟨At0, nt0, kt0, rfl⟩ := ht0.form
        have Ft0 := Lib.hid ht0
        have Lt0 := Lib.hid Ft0.out.lt
        clear ht0
        generalize hrc1 : jnC r0 r1 = rc1
        have HRC1 := Lib.hid hrc1
        clear hrc1
        have h10 := (Below.refl w9.heap.size w9).alloc (Nat.le_refl _) (.cells #[.int .i16 (jnN r0 r1), (.slice At0 nt0 kt0)] 29)
        have X10 := Lib.hid (heap_alloc_new w9 (.cells #[.int .i16 (jnN r0 r1), (.slice At0 nt0 kt0)] 29))
        have Y10 := Lib.hid (show w9.heap.size < (World.alloc w9 (.cells #[.int .i16 (jnN r0 r1), (.slice At0 nt0 kt0)] 29)).heap.size by simp)
        have q_u_0 := (h10.cell (p := ⟨_, 0, none⟩) ub0_9_l.out).trans (cell_of_row w9 _ 0 _ _ _ ub0_9.out)
        have q_u_1 := (h10.cell (p := ⟨_, 1, none⟩) ub0_9_l.out).trans (cell_of_row w9 _ 1 _ _ _ ub0_9.out)
        have qp_u_0 := cell_of_row w9 _ 0 _ _ _ ub0_9.out
        have qp_u_1 := cell_of_row w9 _ 1 _ _ _ ub0_9.out
        have ql_u := ub0_9_l.out
        simp only [List.getElem?_toArray, List.getElem?_cons_zero, List.getElem?_cons_succ] at q_u_0 q_u_1 qp_u_0 qp_u_1
        go_wp2_with fail
        generalize World.alloc w9 _ = w10 at X10 h10 Y10 ⊢
        have z10 := h10.size
        have yy10 := Y10.out
        have B10 := Lib.hid (bnext B9.out h10)
        have zb10 := B10.out.size
        have a0_10 := Lib.hid ((h10.block _ a0_9_l.out).trans a0_9.out)
        have a0_10_l := Lib.hid (Nat.lt_of_lt_of_le a0_9_l.out z10)
        have a1_10 := Lib.hid ((h10.block _ a1_9_l.out).trans a1_9.out)
        have a1_10_l := Lib.hid (Nat.lt_of_lt_of_le a1_9_l.out z10)
        have u0_10 := Lib.hid (u0_9.out.below h10)
        have ub0_10 := Lib.hid ((h10.block _ ub0_9_l.out).trans ub0_9.out)
        have ub0_10_l := Lib.hid (Nat.lt_of_lt_of_le ub0_9_l.out z10)
        have x0_10 := Lib.hid (x0_9.out.below h10 x0_9.out.lt)
        have y0_10 := Lib.hid ((h10.block _ y0_9_l.out).trans y0_9.out)
        have y0_10_l := Lib.hid (Nat.lt_of_lt_of_le y0_9_l.out z10)
        have x1_10 := Lib.hid (x1_9.out.below h10 x1_9.out.lt)
        have y1_10 := Lib.hid ((h10.block _ y1_9_l.out).trans y1_9.out)
        have y1_10_l := Lib.hid (Nat.lt_of_lt_of_le y1_9_l.out z10)
        have t0_10 := Lib.hid (Ft0.out.below h10)
        refine (eqRack_same ⟨jnN r0 r1, jnL r0 r1⟩ _ _ _ t0_10.out.slice u0_10.out.slice LM0.out).mono ?_
        rintro e w11 ⟨rfl, h11⟩
        have z11 := h11.size
        clear q_u_0 q_u_1 qp_u_0 qp_u_1 ql_u
        have B11 := Lib.hid (bnext B10.out h11)
        have zb11 := B11.out.size
        have a0_11 := Lib.hid ((h11.block _ a0_10_l.out).trans a0_10.out)
        have a0_11_l := Lib.hid (Nat.lt_of_lt_of_le a0_10_l.out z11)
        have a1_11 := Lib.hid ((h11.block _ a1_10_l.out).trans a1_10.out)
        have a1_11_l := Lib.hid (Nat.lt_of_lt_of_le a1_10_l.out z11)
        have u0_11 := Lib.hid (u0_10.out.below h11)
        have ub0_11 := Lib.hid ((h11.block _ ub0_10_l.out).trans ub0_10.out)
        have ub0_11_l := Lib.hid (Nat.lt_of_lt_of_le ub0_10_l.out z11)
        have x0_11 := Lib.hid (x0_10.out.below h11 x0_10.out.lt)
        have y0_11 := Lib.hid ((h11.block _ y0_10_l.out).trans y0_10.out)
        have y0_11_l := Lib.hid (Nat.lt_of_lt_of_le y0_10_l.out z11)
        have x1_11 := Lib.hid (x1_10.out.below h11 x1_10.out.lt)
        have y1_11 := Lib.hid ((h11.block _ y1_10_l.out).trans y1_10.out)
        have y1_11_l := Lib.hid (Nat.lt_of_lt_of_le y1_10_l.out z11)
        have t0_11 := Lib.hid (t0_10.out.below h11)
        have tb0_11 := Lib.hid ((h11.block _ Y10.out).trans X10.out)
        have tb0_11_l := Lib.hid (Nat.lt_of_lt_of_le Y10.out z11)
        have b0_0 : Below w11.heap.size w11 w11.drew := (Below.refl _ _).drew
        have HK0 := Lib.hid (show ∀ W1, Below w11.heap.size w11 W1 → (fun W1 => Below w11.heap.size w11 W1 ∧ W1.cell? ⟨w5.heap.size, 0, none⟩ = some (.int .i16 r0.n) ∧ W1.cell? ⟨w5.heap.size, 1, none⟩ = some (.slice (some ⟨g0, 0, none⟩) r0.ps.length r0.ps.length) ∧ W1.cell? ⟨w.heap.size, 0, none⟩ = some (.int .i16 r0.n) ∧ W1.cell? ⟨w.heap.size, 1, none⟩ = some (.slice A0 r0.ps.length k0)) W1 from fun W1 hB => ⟨hB, (hB.cell (p := ⟨_, 0, none⟩) y0_11_l.out).trans (cell_of_row w11 _ 0 _ _ _ y0_11.out), (hB.cell (p := ⟨_, 1, none⟩) y0_11_l.out).trans (cell_of_row w11 _ 1 _ _ _ y0_11.out), (hB.cell (p := ⟨_, 0, none⟩) a0_11_l.out).trans (cell_of_row w11 _ 0 _ _ _ a0_11.out), (hB.cell (p := ⟨_, 1, none⟩) a0_11_l.out).trans (cell_of_row w11 _ 1 _ _ _ a0_11.out)⟩)
        have RR0 := Lib.hid (RowN.slice x0_11.out (c := r0.ps.length))
        go_wp2
        go_region_held3 (fun W1 => Below w11.heap.size w11 W1 ∧ W1.cell? ⟨w5.heap.size, 0, none⟩ = some (.int .i16 r0.n) ∧ W1.cell? ⟨w5.heap.size, 1, none⟩ = some (.slice (some ⟨g0, 0, none⟩) r0.ps.length r0.ps.length) ∧ W1.cell? ⟨w.heap.size, 0, none⟩ = some (.int .i16 r0.n) ∧ W1.cell? ⟨w.heap.size, 1, none⟩ = some (.slice A0 r0.ps.length k0)) (first | exact HK0.out _ b0_0 | (refine HK0.out _ (bnext ?_ hq); exact And.left (by assumption))) (first
          | (go_at_call 6; refine (toRack_any r0 _ _ (SL0.out.below (bnext B11.out (And.left (by assumption)))) hn0).mono ?_; rintro e w' ⟨gz, rfl, hg, hr, hq⟩; have HR := Lib.hid (RowN.slice (c := r0.ps.length) hr); clear hr hg)
          | (go_at_call 8; refine (eqRack_same r0 _ _ _ (RR0.out.below (And.left (by assumption))) HR.out ML0.out).mono ?_; rintro e w12 ⟨rfl, hq⟩))
        all_goals
          have h12 : Below w11.heap.size w11 w12 := And.left (by assumption)
          have z12 := h12.size
          clear HK0 b0_0 RR0 HR
          have B12 := Lib.hid (bnext B11.out h12)
          have zb12 := B12.out.size
          have a0_12 := Lib.hid ((h12.block _ a0_11_l.out).trans a0_11.out)
          have a0_12_l := Lib.hid (Nat.lt_of_lt_of_le a0_11_l.out z12)
          have a1_12 := Lib.hid ((h12.block _ a1_11_l.out).trans a1_11.out)
          have a1_12_l := Lib.hid (Nat.lt_of_lt_of_le a1_11_l.out z12)
          have u0_12 := Lib.hid (u0_11.out.below h12)
          have ub0_12 := Lib.hid ((h12.block _ ub0_11_l.out).trans ub0_11.out)
          have ub0_12_l := Lib.hid (Nat.lt_of_lt_of_le ub0_11_l.out z12)
          have x0_12 := Lib.hid (x0_11.out.below h12 x0_11.out.lt)
          have y0_12 := Lib.hid ((h12.block _ y0_11_l.out).trans y0_11.out)
          have y0_12_l := Lib.hid (Nat.lt_of_lt_of_le y0_11_l.out z12)
          have x1_12 := Lib.hid (x1_11.out.below h12 x1_11.out.lt)
          have y1_12 := Lib.hid ((h12.block _ y1_11_l.out).trans y1_11.out)
          have y1_12_l := Lib.hid (Nat.lt_of_lt_of_le y1_11_l.out z12)
          have t0_12 := Lib.hid (t0_11.out.below h12)
          have tb0_12 := Lib.hid ((h12.block _ tb0_11_l.out).trans tb0_11.out)
          have tb0_12_l := Lib.hid (Nat.lt_of_lt_of_le tb0_11_l.out z12)
          have b0_1 : Below w12.heap.size w12 w12.drew := (Below.refl _ _).drew
          have HK1 := Lib.hid (show ∀ W1, Below w12.heap.size w12 W1 → (fun W1 => Below w12.heap.size w12 W1 ∧ W1.cell? ⟨w7.heap.size, 0, none⟩ = some (.int .i16 r1.n) ∧ W1.cell? ⟨w7.heap.size, 1, none⟩ = some (.slice (some ⟨g1, 0, none⟩) r1.ps.length r1.ps.length) ∧ W1.cell? ⟨(w.heap.size + 1), 0, none⟩ = some (.int .i16 r1.n) ∧ W1.cell? ⟨(w.heap.size + 1), 1, none⟩ = some (.slice A1 r1.ps.length k1)) W1 from fun W1 hB => ⟨hB, (hB.cell (p := ⟨_, 0, none⟩) y1_12_l.out).trans (cell_of_row w12 _ 0 _ _ _ y1_12.out), (hB.cell (p := ⟨_, 1, none⟩) y1_12_l.out).trans (cell_of_row w12 _ 1 _ _ _ y1_12.out), (hB.cell (p := ⟨_, 0, none⟩) a1_12_l.out).trans (cell_of_row w12 _ 0 _ _ _ a1_12.out), (hB.cell (p := ⟨_, 1, none⟩) a1_12_l.out).trans (cell_of_row w12 _ 1 _ _ _ a1_12.out)⟩)
          have RR1 := Lib.hid (RowN.slice x1_12.out (c := r1.ps.length))
          go_wp2
          go_region_held3 (fun W1 => Below w12.heap.size w12 W1 ∧ W1.cell? ⟨w7.heap.size, 0, none⟩ = some (.int .i16 r1.n) ∧ W1.cell? ⟨w7.heap.size, 1, none⟩ = some (.slice (some ⟨g1, 0, none⟩) r1.ps.length r1.ps.length) ∧ W1.cell? ⟨(w.heap.size + 1), 0, none⟩ = some (.int .i16 r1.n) ∧ W1.cell? ⟨(w.heap.size + 1), 1, none⟩ = some (.slice A1 r1.ps.length k1)) (first | exact HK1.out _ b0_1 | (refine HK1.out _ (bnext ?_ hq); exact And.left (by assumption))) (first
            | (go_at_call 6; refine (toRack_any r1 _ _ (SL1.out.below (bnext B12.out (And.left (by assumption)))) hn1).mono ?_; rintro e w' ⟨gz, rfl, hg, hr, hq⟩; have HR := Lib.hid (RowN.slice (c := r1.ps.length) hr); clear hr hg)
            | (go_at_call 8; refine (eqRack_same r1 _ _ _ (RR1.out.below (And.left (by assumption))) HR.out ML1.out).mono ?_; rintro e w13 ⟨rfl, hq⟩))
          all_goals
            have h13 : Below w12.heap.size w12 w13 := And.left (by assumption)
            have z13 := h13.size
            clear HK1 b0_1 RR1 HR
            have B13 := Lib.hid (bnext B12.out h13)
            have zb13 := B13.out.size
            have a0_13 := Lib.hid ((h13.block _ a0_12_l.out).trans a0_12.out)
            have a0_13_l := Lib.hid (Nat.lt_of_lt_of_le a0_12_l.out z13)
            have a1_13 := Lib.hid ((h13.block _ a1_12_l.out).trans a1_12.out)
            have a1_13_l := Lib.hid (Nat.lt_of_lt_of_le a1_12_l.out z13)
            have u0_13 := Lib.hid (u0_12.out.below h13)
            have ub0_13 := Lib.hid ((h13.block _ ub0_12_l.out).trans ub0_12.out)
            have ub0_13_l := Lib.hid (Nat.lt_of_lt_of_le ub0_12_l.out z13)
            have x0_13 := Lib.hid (x0_12.out.below h13 x0_12.out.lt)
            have y0_13 := Lib.hid ((h13.block _ y0_12_l.out).trans y0_12.out)
            have y0_13_l := Lib.hid (Nat.lt_of_lt_of_le y0_12_l.out z13)
            have x1_13 := Lib.hid (x1_12.out.below h13 x1_12.out.lt)
            have y1_13 := Lib.hid ((h13.block _ y1_12_l.out).trans y1_12.out)
            have y1_13_l := Lib.hid (Nat.lt_of_lt_of_le y1_12_l.out z13)
            have t0_13 := Lib.hid (t0_12.out.below h13)
            have tb0_13 := Lib.hid ((h13.block _ tb0_12_l.out).trans tb0_12.out)
            have tb0_13_l := Lib.hid (Nat.lt_of_lt_of_le tb0_12_l.out z13)
            have q_y0_0 := cell_of_row w13 _ 0 _ _ _ y0_13.out
            have q_y0_1 := cell_of_row w13 _ 1 _ _ _ y0_13.out
            simp only [List.getElem?_toArray, List.getElem?_cons_zero, List.getElem?_cons_succ] at q_y0_0 q_y0_1
            go_wp2_with fail
            refine (markRackRow_any r0.n g0 r0.ps.length 1 _ (RowX.of x0_13.out) hn0 (by omega) (by omega)).mono ?_
            rintro e w14 ⟨rfl, -, h14⟩
            have z14 := h14.size
            clear q_y0_0 q_y0_1
            have B14 := Lib.hid (B13.out.grown h14 B13.out.size (fun k hk => by injection hk with hk; omega))
            have zb14 := B14.out.size
            have a0_14 := Lib.hid ((h14.block _ a0_13_l.out (fun e => by injection e with e; omega)).trans a0_13.out)
            have a0_14_l := Lib.hid (Nat.lt_of_lt_of_le a0_13_l.out z14)
            have a1_14 := Lib.hid ((h14.block _ a1_13_l.out (fun e => by injection e with e; omega)).trans a1_13.out)
            have a1_14_l := Lib.hid (Nat.lt_of_lt_of_le a1_13_l.out z14)
            have u0_14 := Lib.hid (u0_13.out.other h14 (fun k hk e => by have := Lu0.out k hk; first | (injection e with e; omega) | omega))
            have ub0_14 := Lib.hid ((h14.block _ ub0_13_l.out (fun e => by injection e with e; omega)).trans ub0_13.out)
            have ub0_14_l := Lib.hid (Nat.lt_of_lt_of_le ub0_13_l.out z14)
            have y0_14 := Lib.hid ((h14.block _ y0_13_l.out (fun e => by injection e with e; omega)).trans y0_13.out)
            have y0_14_l := Lib.hid (Nat.lt_of_lt_of_le y0_13_l.out z14)
            have x1_14 := Lib.hid (rowpOtherJoinRacks x1_13.out h14 (by have := lo1; have := hi1; omega))
            have y1_14 := Lib.hid ((h14.block _ y1_13_l.out (fun e => by injection e with e; omega)).trans y1_13.out)
            have y1_14_l := Lib.hid (Nat.lt_of_lt_of_le y1_13_l.out z14)
            have t0_14 := Lib.hid (t0_13.out.other h14 (fun k hk e => by have := Lt0.out k hk; first | (injection e with e; omega) | omega))
            have tb0_14 := Lib.hid ((h14.block _ tb0_13_l.out (fun e => by injection e with e; omega)).trans tb0_13.out)
            have tb0_14_l := Lib.hid (Nat.lt_of_lt_of_le tb0_13_l.out z14)
            generalize hkk14 : 1 + 9 * (r0.ps.length : Int) = kk14
            have kl14 : 0 ≤ kk14 := by omega
            have ku14 : kk14 ≤ 9437185 := by omega
            clear hkk14
            have q_y1_0 := cell_of_row w14 _ 0 _ _ _ y1_14.out
            have q_y1_1 := cell_of_row w14 _ 1 _ _ _ y1_14.out
            simp only [List.getElem?_toArray, List.getElem?_cons_zero, List.getElem?_cons_succ] at q_y1_0 q_y1_1
            go_wp2_with fail
            refine (markRackRow_any r1.n g1 r1.ps.length kk14 _ (RowX.of x1_14.out) hn1 (by omega) (by omega)).mono ?_
            rintro e w15 ⟨rfl, -, h15⟩
            have z15 := h15.size
            clear q_y1_0 q_y1_1
            have B15 := Lib.hid (B14.out.grown h15 B14.out.size (fun k hk => by injection hk with hk; omega))
            have zb15 := B15.out.size
            have a0_15 := Lib.hid ((h15.block _ a0_14_l.out (fun e => by injection e with e; omega)).trans a0_14.out)
            have a0_15_l := Lib.hid (Nat.lt_of_lt_of_le a0_14_l.out z15)
            have a1_15 := Lib.hid ((h15.block _ a1_14_l.out (fun e => by injection e with e; omega)).trans a1_14.out)
            have a1_15_l := Lib.hid (Nat.lt_of_lt_of_le a1_14_l.out z15)
            have u0_15 := Lib.hid (u0_14.out.other h15 (fun k hk e => by have := Lu0.out k hk; first | (injection e with e; omega) | omega))
            have ub0_15 := Lib.hid ((h15.block _ ub0_14_l.out (fun e => by injection e with e; omega)).trans ub0_14.out)
            have ub0_15_l := Lib.hid (Nat.lt_of_lt_of_le ub0_14_l.out z15)
            have y0_15 := Lib.hid ((h15.block _ y0_14_l.out (fun e => by injection e with e; omega)).trans y0_14.out)
            have y0_15_l := Lib.hid (Nat.lt_of_lt_of_le y0_14_l.out z15)
            have y1_15 := Lib.hid ((h15.block _ y1_14_l.out (fun e => by injection e with e; omega)).trans y1_14.out)
            have y1_15_l := Lib.hid (Nat.lt_of_lt_of_le y1_14_l.out z15)
            have t0_15 := Lib.hid (t0_14.out.other h15 (fun k hk e => by have := Lt0.out k hk; first | (injection e with e; omega) | omega))
            have tb0_15 := Lib.hid ((h15.block _ tb0_14_l.out (fun e => by injection e with e; omega)).trans tb0_14.out)
            have tb0_15_l := Lib.hid (Nat.lt_of_lt_of_le tb0_14_l.out z15)
            generalize hkk15 : kk14 + 9 * (r1.ps.length : Int) = kk15
            have kl15 : 0 ≤ kk15 := by omega
            have ku15 : kk15 ≤ 18874369 := by omega
            clear hkk15
            have kd : decide (kk15 < 0) = false := by simp; omega
            have kd2 : ¬ (kk15 < 0) := by omega
            have q_tb0_0 := cell_of_row w15 _ 0 _ _ _ tb0_15.out
            have q_tb0_1 := cell_of_row w15 _ 1 _ _ _ tb0_15.out
            simp only [List.getElem?_toArray, List.getElem?_cons_zero, List.getElem?_cons_succ] at q_tb0_0 q_tb0_1
            have q_ub0_0 := cell_of_row w15 _ 0 _ _ _ ub0_15.out
            have q_ub0_1 := cell_of_row w15 _ 1 _ _ _ ub0_15.out
            simp only [List.getElem?_toArray, List.getElem?_cons_zero, List.getElem?_cons_succ] at q_ub0_0 q_ub0_1
            go_wp2_with fail
            refine (eqRack_same ⟨jnN r0 r1, jnL r0 r1⟩ _ _ _ t0_15.out.slice u0_15.out.slice LM0.out).mono ?_
            rintro e w16 ⟨rfl, h16⟩
            have z16 := h16.size
            clear q_tb0_0 q_tb0_1 q_ub0_0 q_ub0_1
            have B16 := Lib.hid (bnext B15.out h16)
            have zb16 := B16.out.size
            have a0_16 := Lib.hid ((h16.block _ a0_15_l.out).trans a0_15.out)
            have a0_16_l := Lib.hid (Nat.lt_of_lt_of_le a0_15_l.out z16)
            have a1_16 := Lib.hid ((h16.block _ a1_15_l.out).trans a1_15.out)
            have a1_16_l := Lib.hid (Nat.lt_of_lt_of_le a1_15_l.out z16)
            have u0_16 := Lib.hid (u0_15.out.below h16)
            have ub0_16 := Lib.hid ((h16.block _ ub0_15_l.out).trans ub0_15.out)
            have ub0_16_l := Lib.hid (Nat.lt_of_lt_of_le ub0_15_l.out z16)
            have y0_16 := Lib.hid ((h16.block _ y0_15_l.out).trans y0_15.out)
            have y0_16_l := Lib.hid (Nat.lt_of_lt_of_le y0_15_l.out z16)
            have y1_16 := Lib.hid ((h16.block _ y1_15_l.out).trans y1_15.out)
            have y1_16_l := Lib.hid (Nat.lt_of_lt_of_le y1_15_l.out z16)
            have t0_16 := Lib.hid (t0_15.out.below h16)
            have tb0_16 := Lib.hid ((h16.block _ tb0_15_l.out).trans tb0_15.out)
            have tb0_16_l := Lib.hid (Nat.lt_of_lt_of_le tb0_15_l.out z16)
            have q_tb0_0 := cell_of_row w16 _ 0 _ _ _ tb0_16.out
            have q_tb0_1 := cell_of_row w16 _ 1 _ _ _ tb0_16.out
            simp only [List.getElem?_toArray, List.getElem?_cons_zero, List.getElem?_cons_succ] at q_tb0_0 q_tb0_1
            go_wp2_with fail
            refine (markRack_any (jnN r0 r1) (.slice At0 nt0 kt0) (jnL r0 r1) _ 1 _ t0_16.out LR0.out (by omega) (by omega)).mono ?_
            rintro e w17 ⟨rfl, hm0, h17⟩
            have z17 := h17.size
            have M0 := Lib.hid hm0
            clear hm0
            clear q_tb0_0 q_tb0_1
            have B17 := Lib.hid (B16.out.grown h17 B16.out.size (fun k hk => by have := Lt0.out k hk; omega))
            have zb17 := B17.out.size
            have a0_17 := Lib.hid ((h17.block _ a0_16_l.out (fun e => by have := Lt0.out _ e.symm; omega)).trans a0_16.out)
            have a0_17_l := Lib.hid (Nat.lt_of_lt_of_le a0_16_l.out z17)
            have a1_17 := Lib.hid ((h17.block _ a1_16_l.out (fun e => by have := Lt0.out _ e.symm; omega)).trans a1_16.out)
            have a1_17_l := Lib.hid (Nat.lt_of_lt_of_le a1_16_l.out z17)
            have u0_17 := Lib.hid (u0_16.out.other h17 (fun k hk e => by have := Lu0.out k hk; have := Lt0.out k e.symm; omega))
            have ub0_17 := Lib.hid ((h17.block _ ub0_16_l.out (fun e => by have := Lt0.out _ e.symm; omega)).trans ub0_16.out)
            have ub0_17_l := Lib.hid (Nat.lt_of_lt_of_le ub0_16_l.out z17)
            have y0_17 := Lib.hid ((h17.block _ y0_16_l.out (fun e => by have := Lt0.out _ e.symm; omega)).trans y0_16.out)
            have y0_17_l := Lib.hid (Nat.lt_of_lt_of_le y0_16_l.out z17)
            have y1_17 := Lib.hid ((h17.block _ y1_16_l.out (fun e => by have := Lt0.out _ e.symm; omega)).trans y1_16.out)
            have y1_17_l := Lib.hid (Nat.lt_of_lt_of_le y1_16_l.out z17)
            have tb0_17 := Lib.hid ((h17.block _ tb0_16_l.out (fun e => by have := Lt0.out _ e.symm; omega)).trans tb0_16.out)
            have tb0_17_l := Lib.hid (Nat.lt_of_lt_of_le tb0_16_l.out z17)
            have q_tb0_0 := cell_of_row w17 _ 0 _ _ _ tb0_17.out
            have q_tb0_1 := cell_of_row w17 _ 1 _ _ _ tb0_17.out
            simp only [List.getElem?_toArray, List.getElem?_cons_zero, List.getElem?_cons_succ] at q_tb0_0 q_tb0_1
            go_wp2_with fail
            refine (heldRack_any (jnN r0 r1) (.slice At0 nt0 kt0) (jnL r0 r1).length 1 _ LR0.out (by omega) (by omega) M0.out.slice).mono ?_
            rintro e w18 ⟨rfl, h18⟩
            have z18 := h18.size
            clear q_tb0_0 q_tb0_1
            have B18 := Lib.hid (bnext B17.out h18)
            have zb18 := B18.out.size
            have a0_18 := Lib.hid ((h18.block _ a0_17_l.out).trans a0_17.out)
            have a0_18_l := Lib.hid (Nat.lt_of_lt_of_le a0_17_l.out z18)
            have a1_18 := Lib.hid ((h18.block _ a1_17_l.out).trans a1_17.out)
            have a1_18_l := Lib.hid (Nat.lt_of_lt_of_le a1_17_l.out z18)
            have u0_18 := Lib.hid (u0_17.out.below h18)
            have ub0_18 := Lib.hid ((h18.block _ ub0_17_l.out).trans ub0_17.out)
            have ub0_18_l := Lib.hid (Nat.lt_of_lt_of_le ub0_17_l.out z18)
            have y0_18 := Lib.hid ((h18.block _ y0_17_l.out).trans y0_17.out)
            have y0_18_l := Lib.hid (Nat.lt_of_lt_of_le y0_17_l.out z18)
            have y1_18 := Lib.hid ((h18.block _ y1_17_l.out).trans y1_17.out)
            have y1_18_l := Lib.hid (Nat.lt_of_lt_of_le y1_17_l.out z18)
            have tb0_18 := Lib.hid ((h18.block _ tb0_17_l.out).trans tb0_17.out)
            have tb0_18_l := Lib.hid (Nat.lt_of_lt_of_le tb0_17_l.out z18)
            have m0_18 := Lib.hid (M0.out.below h18)
            have b0_v : Below w18.heap.size w18 w18.drew := (Below.refl _ _).drew
            have HKv := Lib.hid (show ∀ W1, Below w18.heap.size w18 W1 → (fun W1 => Below w18.heap.size w18 W1 ∧ W1.cell? ⟨w.heap.size, 0, none⟩ = some (.int .i16 r0.n) ∧ W1.cell? ⟨w.heap.size, 1, none⟩ = some (.slice A0 r0.ps.length k0) ∧ W1.cell? ⟨(w.heap.size + 1), 0, none⟩ = some (.int .i16 r1.n) ∧ W1.cell? ⟨(w.heap.size + 1), 1, none⟩ = some (.slice A1 r1.ps.length k1)) W1 from fun W1 hB => ⟨hB, (hB.cell (p := ⟨_, 0, none⟩) a0_18_l.out).trans (cell_of_row w18 _ 0 _ _ _ a0_18.out), (hB.cell (p := ⟨_, 1, none⟩) a0_18_l.out).trans (cell_of_row w18 _ 1 _ _ _ a0_18.out), (hB.cell (p := ⟨_, 0, none⟩) a1_18_l.out).trans (cell_of_row w18 _ 0 _ _ _ a1_18.out), (hB.cell (p := ⟨_, 1, none⟩) a1_18_l.out).trans (cell_of_row w18 _ 1 _ _ _ a1_18.out)⟩)
            go_wp2
            go_cut [15, 16] from 15 to 101 (fun s6 s7 wx => ∃ (p : Nat) (u : Value), s6 = .pointer (some ⟨p, 0, none⟩) ∧ s7 = .int .i64 (jnC r0 r1) ∧ wx.heap[p]? = some (.cells #[.int .i16 (jnN r0 r1), u] 29 (0, 0)) ∧ ResN Pl.cells 45 wx w18.heap.size u (jnL r0 r1) ∧ Below w18.heap.size w18 wx)
            case first =>
              go_region_held3 (fun W1 => Below w18.heap.size w18 W1 ∧ W1.cell? ⟨w.heap.size, 0, none⟩ = some (.int .i16 r0.n) ∧ W1.cell? ⟨w.heap.size, 1, none⟩ = some (.slice A0 r0.ps.length k0) ∧ W1.cell? ⟨(w.heap.size + 1), 0, none⟩ = some (.int .i16 r1.n) ∧ W1.cell? ⟨(w.heap.size + 1), 1, none⟩ = some (.slice A1 r1.ps.length k1)) (first | exact HKv.out _ b0_v | (refine HKv.out _ (bnext ?_ hq); exact And.left (by assumption)) | exact HKv.out _ (bAl (by assumption)) | exact HKv.out _ (BZ.out.alloc BZ.out.size _) | exact HKv.out _ ((BZ.out.setCell (by first | exact Nat.le_refl _ | omega) _).setCell (by first | exact Nat.le_refl _ | omega) _)) (first
                | (go_at_call 6; with_reducible refine (toRack_any r0 _ _ (SL0.out.below (bnext B18.out (And.left (by assumption)))) hn0).mono ?_; rintro e wp0 ⟨gp0, rfl, hg, hr, hq⟩; have HP0 := Lib.hid (fun W2 (hB : Below wp0.heap.size wp0 W2) => SliceN.below (RowN.slice (c := r0.ps.length) hr) hB); have zp0 := (bnext (show Below w18.heap.size w18 _ from And.left (by assumption)) hq).size; clear hr hg; (first | have XB := Lib.hid (hbNewD hq) | have XB := Lib.hid (hbNew hq) | have XB := Lib.hid (hbOld hq XB.out) | skip))
                | (go_at_call 6; with_reducible refine (toRack_any r1 _ _ (SL1.out.below (bnext B18.out (And.left (by assumption)))) hn1).mono ?_; rintro e wp1 ⟨gp1, rfl, hg, hr, hq⟩; have HP1 := Lib.hid (fun W2 (hB : Below wp1.heap.size wp1 W2) => SliceN.below (RowN.slice (c := r1.ps.length) hr) hB); have zp1 := (bnext (show Below w18.heap.size w18 _ from And.left (by assumption)) hq).size; clear hr hg; (first | have XB := Lib.hid (hbNewD hq) | have XB := Lib.hid (hbNew hq) | have XB := Lib.hid (hbOld hq XB.out) | skip))
                | (go_at_call 7; refine (joinRacks_any r0 r1 _ _ WF0.out WF1.out _ s i (HE.out.below (bnext B18.out (And.left (by assumption)))) (by first | exact HP0.out _ (Below.refl _ _) | exact HP0.out _ hq | exact HP0.out _ ((Below.refl _ _).alloc (Nat.le_refl _) _) | exact HP0.out _ (hq.alloc hq.size _) | exact HP0.out _ (bnext ((Below.refl _ _).alloc (Nat.le_refl _) _) hq)) (by first | exact HP1.out _ (Below.refl _ _) | exact HP1.out _ hq | exact HP1.out _ ((Below.refl _ _).alloc (Nat.le_refl _) _) | exact HP1.out _ (hq.alloc hq.size _) | exact HP1.out _ (bnext ((Below.refl _ _).alloc (Nat.le_refl _) _) hq)) hn0 hn1).mono ?_; rintro e wz ⟨uz, rfl, hu, hq⟩; obtain ⟨Az, nz, kz, rfl⟩ := hu.form; have HU := Lib.hid (hu.mono (Below.size (show Below w18.heap.size w18 _ from And.left (by assumption)))); have BZ := Lib.hid (bnext (show Below w18.heap.size w18 _ from And.left (by assumption)) hq); clear hu; (first | have XB := Lib.hid (hbNewD hq) | have XB := Lib.hid (hbNew hq) | have XB := Lib.hid (hbOld hq XB.out) | skip); (first | (have qb0 := cell_of_row wz _ 0 _ _ _ XB.out; have qb1 := cell_of_row wz _ 1 _ _ _ XB.out; have qbf := fun j => frozen_of_row wz _ j _ _ XB.out; simp only [List.getElem?_toArray, List.getElem?_cons_zero, List.getElem?_cons_succ] at qb0 qb1) | skip)))
              all_goals
                first
                | (have XP := Lib.hid (put2 (x' := .int .i16 (jnN r0 r1)) (y' := .slice Az nz kz) XB.out)
                   have NB := nbR HU.out XB.out (by decide)
                   have HU2 := Lib.hid (HU.out.other (only_set2 (only_set2 (World.grownBy.refl wz (some _)) 0 (.int .i16 (jnN r0 r1))) 1 (.slice Az nz kz)) (fun k hk e => NB k hk (by injection e)))
                   go_wp2_with fail
                   go_meet
                   exact ⟨_, _, rfl, rfl, XP.out, HU2.out, (BZ.out.setCell (by first | exact Nat.le_refl _ | omega) _).setCell (by first | exact Nat.le_refl _ | omega) _⟩)
                | (have XP := Lib.hid (heap_alloc_new wz (.cells #[.int .i16 (jnN r0 r1), .slice Az nz kz] 29))
                   go_wp2_with fail
                   go_meet
                   exact ⟨_, _, rfl, rfl, XP.out, HU.out.below ((Below.refl _ _).alloc (Nat.le_refl _) _), BZ.out.alloc BZ.out.size _⟩)
            case rest =>
              obtain ⟨w19, rfl⟩ : ∃ x, x = wc := ⟨_, rfl⟩
              obtain ⟨pv, v0, rfl, rfl, hxb, hv0, h19⟩ := hcut
              have z19 := h19.size
              have XBv := Lib.hid hxb
              have YBv := Lib.hid (Array.getElem?_eq_some_iff.1 hxb).1
              have ybv := YBv.out
              clear hxb
              clear HKv b0_v
              have B19 := Lib.hid (bnext B18.out h19)
              have zb19 := B19.out.size
              have a0_19 := Lib.hid ((h19.block _ a0_18_l.out).trans a0_18.out)
              have a0_19_l := Lib.hid (Nat.lt_of_lt_of_le a0_18_l.out z19)
              have a1_19 := Lib.hid ((h19.block _ a1_18_l.out).trans a1_18.out)
              have a1_19_l := Lib.hid (Nat.lt_of_lt_of_le a1_18_l.out z19)
              have u0_19 := Lib.hid (u0_18.out.below h19)
              have ub0_19 := Lib.hid ((h19.block _ ub0_18_l.out).trans ub0_18.out)
              have ub0_19_l := Lib.hid (Nat.lt_of_lt_of_le ub0_18_l.out z19)
              have y0_19 := Lib.hid ((h19.block _ y0_18_l.out).trans y0_18.out)
              have y0_19_l := Lib.hid (Nat.lt_of_lt_of_le y0_18_l.out z19)
              have y1_19 := Lib.hid ((h19.block _ y1_18_l.out).trans y1_18.out)
              have y1_19_l := Lib.hid (Nat.lt_of_lt_of_le y1_18_l.out z19)
              have tb0_19 := Lib.hid ((h19.block _ tb0_18_l.out).trans tb0_18.out)
              have tb0_19_l := Lib.hid (Nat.lt_of_lt_of_le tb0_18_l.out z19)
              have m0_19 := Lib.hid (m0_18.out.below h19)
              obtain ⟨Av0, nv0, kv0, rfl⟩ := hv0.form
              have Fv0 := Lib.hid hv0
              have Lv0 := Lib.hid Fv0.out.lt
              clear hv0
              have XCv := Lib.hid (show w19.heap[pv]? = some (.cells #[.int .i16 (jnN r0 r1), (.slice Av0 nv0 kv0)] 29 (0, 0)) from XBv.out)
              rw [HRC1.out]
              have q_vb0_0 := cell_of_row w19 _ 0 _ _ _ XCv.out
              have q_vb0_1 := cell_of_row w19 _ 1 _ _ _ XCv.out
              simp only [List.getElem?_toArray, List.getElem?_cons_zero, List.getElem?_cons_succ] at q_vb0_0 q_vb0_1
              have q_ub0_0 := cell_of_row w19 _ 0 _ _ _ ub0_19.out
              have q_ub0_1 := cell_of_row w19 _ 1 _ _ _ ub0_19.out
              simp only [List.getElem?_toArray, List.getElem?_cons_zero, List.getElem?_cons_succ] at q_ub0_0 q_ub0_1
              go_wp2_with fail
              refine (eqRack_same ⟨jnN r0 r1, jnL r0 r1⟩ _ _ _ Fv0.out.slice u0_19.out.slice LM0.out).mono ?_
              rintro e w20 ⟨rfl, h20⟩
              have z20 := h20.size
              clear q_vb0_0 q_vb0_1 q_ub0_0 q_ub0_1
              have B20 := Lib.hid (bnext B19.out h20)
              have zb20 := B20.out.size
              have a0_20 := Lib.hid ((h20.block _ a0_19_l.out).trans a0_19.out)
              have a0_20_l := Lib.hid (Nat.lt_of_lt_of_le a0_19_l.out z20)
              have a1_20 := Lib.hid ((h20.block _ a1_19_l.out).trans a1_19.out)
              have a1_20_l := Lib.hid (Nat.lt_of_lt_of_le a1_19_l.out z20)
              have u0_20 := Lib.hid (u0_19.out.below h20)
              have ub0_20 := Lib.hid ((h20.block _ ub0_19_l.out).trans ub0_19.out)
              have ub0_20_l := Lib.hid (Nat.lt_of_lt_of_le ub0_19_l.out z20)
              have y0_20 := Lib.hid ((h20.block _ y0_19_l.out).trans y0_19.out)
              have y0_20_l := Lib.hid (Nat.lt_of_lt_of_le y0_19_l.out z20)
              have y1_20 := Lib.hid ((h20.block _ y1_19_l.out).trans y1_19.out)
              have y1_20_l := Lib.hid (Nat.lt_of_lt_of_le y1_19_l.out z20)
              have tb0_20 := Lib.hid ((h20.block _ tb0_19_l.out).trans tb0_19.out)
              have tb0_20_l := Lib.hid (Nat.lt_of_lt_of_le tb0_19_l.out z20)
              have m0_20 := Lib.hid (m0_19.out.below h20)
              have v0_20 := Lib.hid (Fv0.out.below h20)
              have vb0_20 := Lib.hid ((h20.block _ YBv.out).trans XCv.out)
              have vb0_20_l := Lib.hid (Nat.lt_of_lt_of_le YBv.out z20)
              have q_tb0_0 := cell_of_row w20 _ 0 _ _ _ tb0_20.out
              have q_tb0_1 := cell_of_row w20 _ 1 _ _ _ tb0_20.out
              simp only [List.getElem?_toArray, List.getElem?_cons_zero, List.getElem?_cons_succ] at q_tb0_0 q_tb0_1
              go_wp2_with fail
              refine (heldRack_any (jnN r0 r1) (.slice At0 nt0 kt0) (jnL r0 r1).length 1 _ LR0.out (by omega) (by omega) m0_20.out.slice).mono ?_
              rintro e w21 ⟨rfl, h21⟩
              have z21 := h21.size
              clear q_tb0_0 q_tb0_1
              have B21 := Lib.hid (bnext B20.out h21)
              have zb21 := B21.out.size
              have a0_21 := Lib.hid ((h21.block _ a0_20_l.out).trans a0_20.out)
              have a0_21_l := Lib.hid (Nat.lt_of_lt_of_le a0_20_l.out z21)
              have a1_21 := Lib.hid ((h21.block _ a1_20_l.out).trans a1_20.out)
              have a1_21_l := Lib.hid (Nat.lt_of_lt_of_le a1_20_l.out z21)
              have u0_21 := Lib.hid (u0_20.out.below h21)
              have ub0_21 := Lib.hid ((h21.block _ ub0_20_l.out).trans ub0_20.out)
              have ub0_21_l := Lib.hid (Nat.lt_of_lt_of_le ub0_20_l.out z21)
              have y0_21 := Lib.hid ((h21.block _ y0_20_l.out).trans y0_20.out)
              have y0_21_l := Lib.hid (Nat.lt_of_lt_of_le y0_20_l.out z21)
              have y1_21 := Lib.hid ((h21.block _ y1_20_l.out).trans y1_20.out)
              have y1_21_l := Lib.hid (Nat.lt_of_lt_of_le y1_20_l.out z21)
              have tb0_21 := Lib.hid ((h21.block _ tb0_20_l.out).trans tb0_20.out)
              have tb0_21_l := Lib.hid (Nat.lt_of_lt_of_le tb0_20_l.out z21)
              have m0_21 := Lib.hid (m0_20.out.below h21)
              have v0_21 := Lib.hid (v0_20.out.below h21)
              have vb0_21 := Lib.hid ((h21.block _ vb0_20_l.out).trans vb0_20.out)
              have vb0_21_l := Lib.hid (Nat.lt_of_lt_of_le vb0_20_l.out z21)
              go_wp2
              go_ret
              exact ⟨rfl, B21.out⟩
    · have e1 : (1048576 - (r0.ps.length : Int) - (r1.ps.length : Int) < 0) := by omega
      go_enter Tryd.func3, Tryd.ntmps3
      have X0 := Lib.hid (show (World.alloc (World.alloc w (.cells #[.int .i16 r0.n, .slice A0 r0.ps.length k0] 25)) (.cells #[.int .i16 r1.n, .slice A1 r1.ps.length k1] 25)).heap[w.heap.size]? = some (Obj.cells #[.int .i16 r0.n, .slice A0 r0.ps.length k0] 25 (0, 0)) from (Below.heap_alloc _ _ _ (by simp)).trans (heap_alloc_new w _))
      have X1 := Lib.hid (show (World.alloc (World.alloc w (.cells #[.int .i16 r0.n, .slice A0 r0.ps.length k0] 25)) (.cells #[.int .i16 r1.n, .slice A1 r1.ps.length k1] 25)).heap[w.heap.size + 1]? = some (Obj.cells #[.int .i16 r1.n, .slice A1 r1.ps.length k1] 25 (0, 0)) from by have := heap_alloc_new (World.alloc w (.cells #[.int .i16 r0.n, .slice A0 r0.ps.length k0] 25)) (.cells #[.int .i16 r1.n, .slice A1 r1.ps.length k1] 25); rwa [World.size_alloc] at this)
      have Y0 := Lib.hid (show w.heap.size < (World.alloc (World.alloc w (.cells #[.int .i16 r0.n, .slice A0 r0.ps.length k0] 25)) (.cells #[.int .i16 r1.n, .slice A1 r1.ps.length k1] 25)).heap.size by simp; omega)
      have Y1 := Lib.hid (show w.heap.size + 1 < (World.alloc (World.alloc w (.cells #[.int .i16 r0.n, .slice A0 r0.ps.length k0] 25)) (.cells #[.int .i16 r1.n, .slice A1 r1.ps.length k1] 25)).heap.size by simp)
      have h1 : Below w.heap.size w (World.alloc (World.alloc w (.cells #[.int .i16 r0.n, .slice A0 r0.ps.length k0] 25)) (.cells #[.int .i16 r1.n, .slice A1 r1.ps.length k1] 25)) := by go_grown
      go_wp2_with fail
      generalize World.alloc (World.alloc w _) _ = w1 at X0 X1 Y0 Y1 h1 ⊢
      have z1 := h1.size
      have yy0 := Y0.out
      have yy1 := Y1.out
      have B1 := Lib.hid h1
      have zb1 := B1.out.size
      refine (szRack_left r0 _ _ _ _ mx0 (by omega) (by omega)).mono ?_
      rintro e w2 ⟨rfl, h2⟩
      have z2 := h2.size
      have B2 := Lib.hid (bnext B1.out h2)
      have zb2 := B2.out.size
      have a0_2 := Lib.hid ((h2.block _ Y0.out).trans X0.out)
      have a0_2_l := Lib.hid (Nat.lt_of_lt_of_le Y0.out z2)
      have a1_2 := Lib.hid ((h2.block _ Y1.out).trans X1.out)
      have a1_2_l := Lib.hid (Nat.lt_of_lt_of_le Y1.out z2)
      rw [if_pos (by omega)]
      have q_a1_0 := cell_of_row w2 _ 0 _ _ _ a1_2.out
      have q_a1_1 := cell_of_row w2 _ 1 _ _ _ a1_2.out
      simp only [List.getElem?_toArray, List.getElem?_cons_zero, List.getElem?_cons_succ] at q_a1_0 q_a1_1
      go_wp2_with fail
      refine (szRack_left r1 _ _ _ _ mx1 (by omega) (by omega)).mono ?_
      rintro e w3 ⟨rfl, h3⟩
      have z3 := h3.size
      clear q_a1_0 q_a1_1
      have B3 := Lib.hid (bnext B2.out h3)
      have zb3 := B3.out.size
      have a0_3 := Lib.hid ((h3.block _ a0_2_l.out).trans a0_2.out)
      have a0_3_l := Lib.hid (Nat.lt_of_lt_of_le a0_2_l.out z3)
      have a1_3 := Lib.hid ((h3.block _ a1_2_l.out).trans a1_2.out)
      have a1_3_l := Lib.hid (Nat.lt_of_lt_of_le a1_2_l.out z3)
      rw [if_neg (by omega)]
      go_wp2
      go_ret
      exact ⟨rfl, B3.out⟩
  · have e0 : (1048576 - (r0.ps.length : Int) < 0) := by omega
    go_enter Tryd.func3, Tryd.ntmps3
    have X0 := Lib.hid (show (World.alloc (World.alloc w (.cells #[.int .i16 r0.n, .slice A0 r0.ps.length k0] 25)) (.cells #[.int .i16 r1.n, .slice A1 r1.ps.length k1] 25)).heap[w.heap.size]? = some (Obj.cells #[.int .i16 r0.n, .slice A0 r0.ps.length k0] 25 (0, 0)) from (Below.heap_alloc _ _ _ (by simp)).trans (heap_alloc_new w _))
    have X1 := Lib.hid (show (World.alloc (World.alloc w (.cells #[.int .i16 r0.n, .slice A0 r0.ps.length k0] 25)) (.cells #[.int .i16 r1.n, .slice A1 r1.ps.length k1] 25)).heap[w.heap.size + 1]? = some (Obj.cells #[.int .i16 r1.n, .slice A1 r1.ps.length k1] 25 (0, 0)) from by have := heap_alloc_new (World.alloc w (.cells #[.int .i16 r0.n, .slice A0 r0.ps.length k0] 25)) (.cells #[.int .i16 r1.n, .slice A1 r1.ps.length k1] 25); rwa [World.size_alloc] at this)
    have Y0 := Lib.hid (show w.heap.size < (World.alloc (World.alloc w (.cells #[.int .i16 r0.n, .slice A0 r0.ps.length k0] 25)) (.cells #[.int .i16 r1.n, .slice A1 r1.ps.length k1] 25)).heap.size by simp; omega)
    have Y1 := Lib.hid (show w.heap.size + 1 < (World.alloc (World.alloc w (.cells #[.int .i16 r0.n, .slice A0 r0.ps.length k0] 25)) (.cells #[.int .i16 r1.n, .slice A1 r1.ps.length k1] 25)).heap.size by simp)
    have h1 : Below w.heap.size w (World.alloc (World.alloc w (.cells #[.int .i16 r0.n, .slice A0 r0.ps.length k0] 25)) (.cells #[.int .i16 r1.n, .slice A1 r1.ps.length k1] 25)) := by go_grown
    go_wp2_with fail
    generalize World.alloc (World.alloc w _) _ = w1 at X0 X1 Y0 Y1 h1 ⊢
    have z1 := h1.size
    have yy0 := Y0.out
    have yy1 := Y1.out
    have B1 := Lib.hid h1
    have zb1 := B1.out.size
    refine (szRack_left r0 _ _ _ _ mx0 (by omega) (by omega)).mono ?_
    rintro e w2 ⟨rfl, h2⟩
    have z2 := h2.size
    have B2 := Lib.hid (bnext B1.out h2)
    have zb2 := B2.out.size
    have a0_2 := Lib.hid ((h2.block _ Y0.out).trans X0.out)
    have a0_2_l := Lib.hid (Nat.lt_of_lt_of_le Y0.out z2)
    have a1_2 := Lib.hid ((h2.block _ Y1.out).trans X1.out)
    have a1_2_l := Lib.hid (Nat.lt_of_lt_of_le Y1.out z2)
    rw [if_neg (by omega)]
    go_wp2
    go_ret
    exact ⟨rfl, B2.out⟩

end Go.Proofs.YtgmipobohnagnaaDoor
