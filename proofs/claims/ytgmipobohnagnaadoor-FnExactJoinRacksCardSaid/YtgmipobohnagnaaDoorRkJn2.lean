/- JoinRacks, by the program: a contract. Condition: at most 1048576 books, whose numbers lie within their kinds; the two error variables hold errors of errors.New's make. -/
import Derived.Test.YtgmipobohnagnaaDoorRkJn
namespace Go.Proofs.YtgmipobohnagnaaDoor
set_option linter.unusedSimpArgs false
set_option linter.unusedVariables false
set_option maxRecDepth 100000
open Go.RowKit Go.Sort

set_option maxHeartbeats 16000000 in
theorem joinRacks_any (r s : Rk) (hv1 hv2 : Value) (wf1 : r.Wf) (wf2 : s.Wf) (w : World) (a b : Addr) (he : Er2 w a b) (hs1 : PlsOf w hv1 r.ps) (hs2 : PlsOf w hv2 s.ps) (hn1 : r.ps.length ≤ 1048576) (hn2 : s.ps.length ≤ 1048576) :
    Calls Tryd.prog 7 #[.agg #[.int .i16 r.n, hv1], .agg #[.int .i16 s.n, hv2]] w fun e w' => ∃ u, e = .returned (.tuple #[.agg #[.int .i16 (jnN r s), u], .int .i64 (jnC r s)]) ∧ ResN Pl.cells 45 w' w.heap.size u (jnL r s) ∧ Below w.heap.size w w' := by
  have HE := Lib.hid he
  have WF1 := Lib.hid wf1
  have WF2 := Lib.hid wf2
  have HS1 := Lib.hid hs1
  have HS2 := Lib.hid hs2
  obtain ⟨A1, k1, rfl, -⟩ := hs1
  obtain ⟨A2, k2, rfl, -⟩ := hs2
  have G0 := Lib.hid (show Below w.heap.size w (((w.alloc (.cells #[.int .i16 r.n, .slice A1 r.ps.length k1] 29)).alloc (.cells #[.int .i16 s.n, .slice A2 s.ps.length k2] 29)).alloc (.cells #[.int .i16 0, .slice none 0 0] 29)) by go_grown)
  have K0 := Lib.hid (al3 w (.cells #[.int .i16 r.n, .slice A1 r.ps.length k1] 29) (.cells #[.int .i16 s.n, .slice A2 s.ps.length k2] 29) (.cells #[.int .i16 0, .slice none 0 0] 29)).2
  have TC := Lib.hid (jn_cases r s)
  clear he wf1 wf2
  go_enter Tryd.func7, Tryd.ntmps7
  go_wp2_with fail
  generalize ((w.alloc _).alloc _).alloc _ = w0 at G0 K0 ⊢
  have z0 : w.heap.size + 1 + 1 < w0.heap.size := (Array.getElem?_eq_some_iff.1 K0.out).1
  refine (placesOfBoth_any r s _ _ WF1.out WF2.out _ a b (HE.out.below G0.out) (HS1.out.below G0.out) (HS2.out.below G0.out) hn1 hn2).mono ?_
  rintro e w1 ⟨v1, v2, rfl, hp1, hp2, g1⟩
  have B1 := Lib.hid (bnext G0.out g1)
  have R1 := Lib.hid ((g1.block _ z0).trans K0.out)
  have z1 : w.heap.size + 1 + 1 < w1.heap.size := Nat.lt_of_lt_of_le z0 g1.size
  clear g1
  rcases TC.out with ⟨hk, e1, e2, e3⟩ | ⟨hk, hk2, e1, e2, e3⟩ | ⟨hk, hk2, hj, e1, e2, e3⟩ | ⟨hk, hk2, hj, hl, e1, e2, e3⟩ | ⟨hk, hk2, hj, hl, e1, e2, e3⟩
  · have E := Lib.hid (And.intro e1 (And.intro e2 e3))
    rw [show boC r s = 1 by unfold boC; rw [hk]; rfl]
    obtain ⟨_, _, _, rfl⟩ := hp1.form
    obtain ⟨_, _, _, rfl⟩ := hp2.form
    clear e1 e2 e3 hk hp1 hp2
    have b0 := cell_of_row w1 _ 0 _ _ _ R1.out
    have b1 := cell_of_row w1 _ 1 _ _ _ R1.out
    have fz := fun j => frozen_of_row w1 _ j _ _ R1.out
    simp only [List.getElem?_toArray, List.getElem?_cons_zero, List.getElem?_cons_succ] at b0 b1
    go_wp2
    refine bodyPost_ret (v := .tuple #[.agg #[.int .i16 0, .slice none 0 0], .int .i64 1]) (by simp [results, Tryd.results7, go_sem, b0, b1]) rfl ?_
    refine ⟨.slice none 0 0, by rw [E.out.1, E.out.2.2], by rw [E.out.2.1]; exact ResN.nil _ _ _, ?_⟩
    repeat (refine Below.setCell ?_ (by first | (simp; done) | (simp; omega) | omega) _)
    exact B1.out
  · have E := Lib.hid (And.intro e1 (And.intro e2 e3))
    rw [show boC r s = 1 by unfold boC; rw [hk, hk2]; rfl]
    obtain ⟨_, _, _, rfl⟩ := hp1.form
    obtain ⟨_, _, _, rfl⟩ := hp2.form
    clear e1 e2 e3 hk hk2 hp1 hp2
    have b0 := cell_of_row w1 _ 0 _ _ _ R1.out
    have b1 := cell_of_row w1 _ 1 _ _ _ R1.out
    have fz := fun j => frozen_of_row w1 _ j _ _ R1.out
    simp only [List.getElem?_toArray, List.getElem?_cons_zero, List.getElem?_cons_succ] at b0 b1
    go_wp2
    refine bodyPost_ret (v := .tuple #[.agg #[.int .i16 0, .slice none 0 0], .int .i64 1]) (by simp [results, Tryd.results7, go_sem, b0, b1]) rfl ?_
    refine ⟨.slice none 0 0, by rw [E.out.1, E.out.2.2], by rw [E.out.2.1]; exact ResN.nil _ _ _, ?_⟩
    repeat (refine Below.setCell ?_ (by first | (simp; done) | (simp; omega) | omega) _)
    exact B1.out
  all_goals
    have E := Lib.hid (And.intro e1 (And.intro e2 e3))
    rw [show boC r s = 0 by unfold boC; rw [hk, hk2]; rfl]
    obtain ⟨ga, rfl, -, hra⟩ := hp1.ok hk
    obtain ⟨gb, rfl, -, hrb⟩ := hp2.ok hk2
    obtain ⟨x1, x2, x3, x4⟩ := rk_nat hk
    obtain ⟨y1, y2, y3, y4⟩ := rk_nat hk2
    have ox := rkB_of hk
    have oy := rkB_of hk2
    have FX := Lib.hid ox.2.2.2
    have FY := Lib.hid oy.2.2.2
    have BW := Lib.hid (show ∀ z ∈ bks r.ps ++ bks s.ps, z.Wf from fun z hz => by
      rcases List.mem_append.1 hz with h | h
      · exact bks_wf WF1.out.ps z h
      · exact bks_wf WF2.out.ps z h)
    have n1 := rkB_len hk
    have n2 := rkB_len hk2
    obtain ⟨zs, hzs⟩ : ∃ zs, bks r.ps ++ bks s.ps = zs := ⟨_, rfl⟩
    have lb : zs.length ≤ 1048576 := by rw [← hzs, List.length_append, bks_length, bks_length]; omega
    rw [hzs] at BW
    have HZ := Lib.hid hzs
    clear ox oy e1 e2 e3 hp1 hp2 hk hk2 hzs
    have LA := Lib.hid (plc_length r.n.toNat r.ps)
    have LB := Lib.hid (plc_length s.n.toNat s.ps)
    have JP := Lib.hid (join_plc x4 y4)
    have JO := Lib.hid (show PosTo ((r.n.toNat + s.n.toNat : Nat) : Int) (r.ps ++ shL s.ps (r.n.toNat : Int)) (r.ps ++ shL s.ps (r.n.toNat : Int)).length by
      have := joinL_pos x4 y4 (by omega) (by omega)
      rwa [show (r.n.toNat : Int) + (s.n.toNat : Int) = ((r.n.toNat + s.n.toNat : Nat) : Int) by omega] at this)
    have X1 := Lib.hid x1
    have Y1 := Lib.hid y1
    have EA := Lib.hid (RowN.flat hra LA.out)
    have EB := Lib.hid (RowN.flat hrb LB.out)
    have zga := hra.lt
    have zgb := hrb.lt
    clear hra hrb x4 y4 x1 y1
    obtain ⟨n, hn⟩ : ∃ n, r.n.toNat = n := ⟨_, rfl⟩
    obtain ⟨m, hm⟩ : ∃ m, s.n.toNat = m := ⟨_, rfl⟩
    rw [hn] at x2 x3 LA JP JO X1 EA ⊢
    rw [hm] at y2 y3 LB JP JO Y1 EB ⊢
    try (rw [X1.out, Y1.out] at hl)
    clear hn hm
    have g2 := (Below.refl w1.heap.size w1).alloc (Nat.le_refl _) (.cells #[.slice (some ⟨ga, 0, none⟩) n n, .slice (some ⟨gb, 0, none⟩) m m] 48)
    have X2 := Lib.hid (heap_alloc_new w1 (.cells #[.slice (some ⟨ga, 0, none⟩) n n, .slice (some ⟨gb, 0, none⟩) m m] 48))
    go_wp2_with fail
    generalize World.alloc w1 _ = w2 at g2 X2 ⊢
    have z2 : w1.heap.size < w2.heap.size := (Array.getElem?_eq_some_iff.1 X2.out).1
    have B2 := Lib.hid (bnext B1.out g2)
    have R2 := Lib.hid ((g2.block _ z1).trans R1.out)
    obtain ⟨ss, hss⟩ : ∃ ss : List Sl, ss = [⟨ga, 0, n, n, flN Pc.cells (plc n r.ps)⟩, ⟨gb, 0, m, m, flN Pc.cells (plc m s.ps)⟩] := ⟨_, rfl⟩
    have SS := Lib.hid (show ∀ s ∈ ss, SlOk 9 w2 s from fun t ht => by
      rw [hss] at ht
      simp only [List.mem_cons, List.not_mem_nil, or_false] at ht
      rcases ht with rfl | rfl
      · exact (EA.out).below g2
      · exact (EB.out).below g2)
    have sl2 : ss.length = 2 := by rw [hss]; rfl
    have SC := Lib.hid (show ∀ (k : Nat) (h : k < ss.length), w2.cell? ⟨w1.heap.size, k, none⟩ = some ss[k].v from fun k hk => by
      subst hss
      have := cell_of_row w2 _ k _ _ _ X2.out
      match k, hk with
      | 0, _ => simpa [Sl.v] using this
      | 1, _ => simpa [Sl.v] using this)
    have SN := Lib.hid (show catN ss ss.length = n + m by rw [hss]; simp [catN])
    have SLL := Lib.hid (show catL ss ss.length = flN Pc.cells (plc (n + m) (r.ps ++ shL s.ps (n : Int))) by rw [← JP.out, flN_app, hss]; simp [catL])
    have CC := concatP_any ss w1.heap.size w2 SS.out SC.out z2 (by rw [SN.out]; omega) (by omega)
    rw [SN.out, SLL.out, sl2] at CC
    have CC := Lib.hid CC
    clear hss sl2
    refine CC.out.mono ?_
    rintro e w3 ⟨v, rfl, ho, g3⟩
    have PLN := Lib.hid (plc_length (n + m) (r.ps ++ shL s.ps (n : Int)))
    have RV := Lib.hid (ResN.of (ys := plc (n + m) (r.ps ++ shL s.ps (n : Int))) Pc.nine ho PLN.out.symm)
    have B3 := Lib.hid (bnext B2.out g3)
    have R3 := Lib.hid ((g3.block _ (by omega)).trans R2.out)
    have z3 : w.heap.size + 1 + 1 < w3.heap.size := by have := g3.size; omega
    have QB := Lib.hid (bkq_plc JO.out)
    have QP := Lib.hid (plq_plc JO.out)
    obtain ⟨Av, kv, rfl⟩ := ownForm ho
    clear ho g2 g3 CC
    go_wp2_with fail
    refine (booksM_any _ (plc (n + m) (r.ps ++ shL s.ps (n : Int))) _ RV.out.slice (by rw [PLN.out]; omega)).mono ?_
    rintro e w4 ⟨u, rfl, hu, g4⟩
    rw [QB.out, bks_join, HZ.out] at hu
    have U4 := Lib.hid hu
    obtain ⟨Au, cu, rfl, -⟩ := hu.slice
    have B4 := Lib.hid (bnext B3.out g4)
    have R4 := Lib.hid ((g4.block _ z3).trans R3.out)
    have z4 : w.heap.size + 1 + 1 < w4.heap.size := Nat.lt_of_lt_of_le z3 g4.size
    have RV4 := Lib.hid (RV.out.below g4)
    clear hu g4
    go_wp2_with fail
    refine (runsOf_any _ zs BW.out _ U4.out.slice lb).mono ?_
    rintro e w5 ⟨u5, rfl, ho5, g5⟩
    obtain ⟨A5, c5, rfl, -⟩ := ownsInts ho5
    have B5 := Lib.hid (bnext B4.out g5)
    have R5 := Lib.hid ((g5.block _ z4).trans R4.out)
    have z5 : w.heap.size + 1 + 1 < w5.heap.size := Nat.lt_of_lt_of_le z4 g5.size
    have RV5 := Lib.hid (RV4.out.below g5)
    clear ho5 g5 lb
  · have hr : (1 : Int) < ((runs zs).length : Int) := by
      rw [← HZ.out]
      obtain ⟨q, hq⟩ := jn_some (none_of_out FX.out) hj
      rw [hq]
      simp
      omega
    clear hj
    have b0 := cell_of_row w5 _ 0 _ _ _ R5.out
    have b1 := cell_of_row w5 _ 1 _ _ _ R5.out
    have fz := fun j => frozen_of_row w5 _ j _ _ R5.out
    simp only [List.getElem?_toArray, List.getElem?_cons_zero, List.getElem?_cons_succ] at b0 b1
    go_wp2
    refine bodyPost_ret (v := .tuple #[.agg #[.int .i16 0, .slice none 0 0], .int .i64 4]) (by simp [results, Tryd.results7, go_sem, b0, b1]) rfl ?_
    refine ⟨.slice none 0 0, by rw [E.out.1, E.out.2.2], by rw [E.out.2.1]; exact ResN.nil _ _ _, ?_⟩
    repeat (refine Below.setCell ?_ (by first | (simp; done) | (simp; omega) | omega) _)
    exact B5.out
  all_goals
    have hr : ¬ (1 : Int) < ((runs zs).length : Int) := by
      rw [← HZ.out]
      have := runs_none (jn_none (none_of_out FX.out) (none_of_out FY.out) hj)
      omega
    clear hj
  · have hl' : (60 : Int) < ((n + m : Nat) : Int) := by omega
    have hl2 : (60 : Int) < (n : Int) + (m : Int) := by omega
    clear hl
    have b0 := cell_of_row w5 _ 0 _ _ _ R5.out
    have b1 := cell_of_row w5 _ 1 _ _ _ R5.out
    have fz := fun j => frozen_of_row w5 _ j _ _ R5.out
    simp only [List.getElem?_toArray, List.getElem?_cons_zero, List.getElem?_cons_succ] at b0 b1
    go_wp2
    refine bodyPost_ret (v := .tuple #[.agg #[.int .i16 0, .slice none 0 0], .int .i64 3]) (by simp [results, Tryd.results7, go_sem, b0, b1]) rfl ?_
    refine ⟨.slice none 0 0, by rw [E.out.1, E.out.2.2], by rw [E.out.2.1]; exact ResN.nil _ _ _, ?_⟩
    repeat (refine Below.setCell ?_ (by first | (simp; done) | (simp; omega) | omega) _)
    exact B5.out
  · have hl' : ¬ (60 : Int) < ((n + m : Nat) : Int) := by omega
    have hl2 : ¬ (60 : Int) < (n : Int) + (m : Int) := by omega
    have zlo : w.heap.size ≤ w5.heap.size := by omega
    clear hl
    go_wp2_with fail
    refine (rackM_any _ (plc (n + m) (r.ps ++ shL s.ps (n : Int))) w5 RV5.out.slice (by rw [PLN.out]; omega)).mono ?_
    rintro e w6 ⟨u, rfl, hres, g6⟩
    rw [QP.out] at hres
    rw [PLN.out]
    have RS := Lib.hid hres
    obtain ⟨Au2, nu, cu2, rfl⟩ := hres.form
    have R6 := Lib.hid ((g6.block _ z5).trans R5.out)
    have B6 := Lib.hid (bnext B5.out g6)
    rename_i _ _ _ _ _ _
    have EN := Lib.hid (show jnN r s = ((n + m : Nat) : Int) by rw [E.out.1, X1.out, Y1.out]; omega)
    have EL := Lib.hid (show jnL r s = r.ps ++ shL s.ps (n : Int) by rw [E.out.2.1, X1.out])
    clear hres g6
    have b0 := cell_of_row w6 _ 0 _ _ _ R6.out
    have b1 := cell_of_row w6 _ 1 _ _ _ R6.out
    have fz := fun j => frozen_of_row w6 _ j _ _ R6.out
    simp only [List.getElem?_toArray, List.getElem?_cons_zero, List.getElem?_cons_succ] at b0 b1
    have E1 := Lib.hid (only_set2 (only_set2 (World.grownBy.refl w6 (some (w.heap.size + 1 + 1))) 0 (.int .i16 ((n + m : Nat) : Int))) 1 (.slice Au2 nu cu2))
    have E2 := Lib.hid (RS.out.other E1.out (fun p hp e => by
      have := (RS.out.lt p hp).1
      have h2 : p = w.heap.size + 1 + 1 := by injection e
      omega))
    go_wp2
    refine bodyPost_ret (v := .tuple #[.agg #[.int .i16 ((n + m : Nat) : Int), .slice Au2 nu cu2], .int .i64 0]) (by simp [results, Tryd.results7, go_sem, b0, b1]) rfl ?_
    refine ⟨_, by rw [EN.out, E.out.2.2], by rw [EL.out]; exact E2.out.mono zlo, ?_⟩
    repeat (refine Below.setCell ?_ (by first | (simp; done) | (simp; omega) | omega) _)
    exact B6.out
end Go.Proofs.YtgmipobohnagnaaDoor
