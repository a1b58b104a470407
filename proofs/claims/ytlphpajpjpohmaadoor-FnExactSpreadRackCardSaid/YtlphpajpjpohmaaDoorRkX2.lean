/- SpreadRack, by the model: contracts. Condition: numbers within their kinds, no longer than a slice can be. -/
import Derived.Test.YtlphpajpjpohmaaDoorRkX
import Derived.Test.YtlphpajpjpohmaaDoorRkU2
import Derived.Test.YtlphpajpjpohmaaDoorRkK2
import Derived.Deep.RegionHeld3
namespace Go.Proofs.YtlphpajpjpohmaaDoor
set_option linter.unusedSimpArgs false
set_option linter.unusedVariables false
set_option maxRecDepth 100000
open Go.RowKit Go.Sort

theorem cD_yes {xs ys : List Int} {k : Nat} (h : xs.getD k 0 = ys.getD k 0) : cD xs ys (k + 1) = cD xs ys k := by rw [cD, if_pos h]; omega
theorem cD_no {xs ys : List Int} {k : Nat} (h : ¬ xs.getD k 0 = ys.getD k 0) : cD xs ys (k + 1) = cD xs ys k + 1 := by rw [cD, if_neg h]
noncomputable def srN (r : Rk) : Int := if rkB r then r.n else 0
noncomputable def srL (r : Rk) : List Pl := if rkB r then sprL r.n.toNat (bks r.ps) else []
noncomputable def srM (r : Rk) : Int := if rkB r then cD (pos r.ps) (pos (sprL r.n.toNat (bks r.ps))) r.ps.length else 0
theorem srL_len (r : Rk) : (srL r).length ≤ r.ps.length := by
  unfold srL
  split
  · rw [sprL_len, bks_length]; exact Nat.le_refl _
  · exact Nat.zero_le _
theorem sr_cases (r : Rk) : (rkB r = false ∧ srN r = 0 ∧ srL r = [] ∧ srM r = 0 ∧ rkC r = 1) ∨ (rkB r = true ∧ srN r = r.n ∧ srL r = sprL r.n.toNat (bks r.ps) ∧ srM r = cD (pos r.ps) (pos (sprL r.n.toNat (bks r.ps))) r.ps.length ∧ rkC r = 0) := by
  unfold srN srL srM rkC
  cases rkB r
  · exact .inl ⟨rfl, rfl, rfl, rfl, rfl⟩
  · exact .inr ⟨rfl, rfl, rfl, rfl, rfl⟩

set_option maxHeartbeats 8000000 in
theorem l05Elsewhere_any (r s : Rk) (hv1 hv2 : Value) (g1 o1 g2 o2 : Nat) (w : World) (h1 : RackAt w g1 o1 r hv1) (h2 : RackAt w g2 o2 s hv2) (hl : r.ps.length = s.ps.length) (ml : r.ps.length ≤ 60) :
    Calls Tryd.prog 84 #[.pointer (some ⟨g1, o1, none⟩), .pointer (some ⟨g2, o2, none⟩)] w fun e w' => e = .returned (.int .i64 (cD (pos r.ps) (pos s.ps) r.ps.length)) ∧ Below w.heap.size w w' := by
  have H1 := Lib.hid h1
  have H2 := Lib.hid h2
  obtain ⟨A1, k1, rfl, ha1⟩ := h1.ps
  obtain ⟨A2, k2, rfl, ha2⟩ := h2.ps
  have T1 := Lib.hid ha1
  have T2 := Lib.hid ha2
  have HL := Lib.hid hl
  have zg1 := h1.low
  have zg2 := h2.low
  have CB := Lib.hid (cD_bd (pos r.ps) (pos s.ps))
  clear h1 h2 ha1 ha2 hl
  go_enter Tryd.func84, Tryd.ntmps84
  go_wp2
  go_loopw [5, 6] (fun n_ i_ wr => ∃ k : Nat, k ≤ r.ps.length ∧ i_ = .int .i64 (k : Int) ∧ n_ = .int .i64 (cD (pos r.ps) (pos s.ps) k) ∧ Below w.heap.size w wr) (fun _ i_ _ => r.ps.length - (intOf i_).toNat)
  case atStart => exact ⟨0, Nat.zero_le _, rfl, rfl, Below.refl _ _⟩
  case round =>
    obtain ⟨k, hk, rfl, rfl, hb⟩ := hrel
    have HB := Lib.hid hb
    have c1 := (H1.out.below hb).h
    have d1 := (H2.out.below hb).h
    have cb := CB.out k
    clear hb
    by_cases hlt : k < r.ps.length
    · have hlt2 : k < s.ps.length := by have := HL.out; omega
      obtain ⟨ga, oa, rfl, hga, hat⟩ := T1.out (by omega)
      obtain ⟨gb, ob, rfl, hgb, hbt⟩ := T2.out (by omega)
      have p0 := (plAt_some (hat.below HB.out hga) hlt).1
      have q0 := (plAt_some (hbt.below HB.out hgb) hlt2).1
      have PE := Lib.hid (show (pos r.ps).getD k 0 = r.ps[k].p from pos_getD hlt)
      have QE := Lib.hid (show (pos s.ps).getD k 0 = s.ps[k].p from pos_getD hlt2)
      have CY := Lib.hid (fun h => cD_yes (xs := pos r.ps) (ys := pos s.ps) (k := k) h)
      have CN := Lib.hid (fun h => cD_no (xs := pos r.ps) (ys := pos s.ps) (k := k) h)
      have kx : (k : Int) < (r.ps.length : Int) := by omega
      have ky : (k : Int) < (s.ps.length : Int) := by omega
      have k0 : (0 : Int) ≤ (k : Int) := by omega
      clear hat hbt
      rw [PE.out, QE.out] at CY CN
      generalize r.ps[k].p = x at *
      generalize s.ps[k].p = y at *
      by_cases hxy : x = y
      · have e1 : (x != y) = false := by simp [hxy]
        have CE := Lib.hid (CY.out hxy)
        clear hxy CY CN
        go_wp2
        go_quiet (fail)
        go_wp2
        go_roundw
        case rel => exact ⟨k + 1, by omega, by go_num, by rw [CE.out], below_drewN HB.out _⟩
        case measure => simp [intOf]; omega
      · have e1 : (x != y) = true := by simpa using hxy
        have CE := Lib.hid (CN.out hxy)
        clear hxy CY CN
        generalize cD (pos r.ps) (pos s.ps) k = C at *
        obtain ⟨cb1, cb2⟩ := cb
        go_wp2
        go_quiet (fail)
        go_wp2
        go_roundw
        case rel => exact ⟨k + 1, by omega, by go_num, by rw [CE.out], below_drewN HB.out _⟩
        case measure => simp [intOf]; omega
    · obtain rfl : k = r.ps.length := by omega
      go_wp2
      go_ret
      exact ⟨rfl, HB.out⟩

theorem far2 {w : World} {g k l i j : Nat} {u v x : Value} (h : w.cell? ⟨g, l, none⟩ = some x) (hne : g ≠ k) : ((w.setCell ⟨k, i, none⟩ u).setCell ⟨k, j, none⟩ v).cell? ⟨g, l, none⟩ = some x := by
  have e1 := Below.heap_setCell w ⟨k, i, none⟩ u g (by first | exact hne | exact hne.symm)
  have e2 := Below.heap_setCell (w.setCell ⟨k, i, none⟩ u) ⟨k, j, none⟩ v g (by first | exact hne | exact hne.symm)
  unfold World.cell? at h ⊢
  simp only [e2, e1]
  exact h
set_option maxHeartbeats 16000000 in
theorem specSpreadRack_any (r : Rk) (hv : Value) (wf : r.Wf) (w : World) (hs : PlsOf w hv r.ps) (ml : r.ps.length ≤ maxLen) :
    Calls Tryd.prog 49 #[.agg #[.int .i16 r.n, hv]] w fun e w' => ∃ u, e = .returned (.tuple #[.agg #[.int .i16 (srN r), u], .int .i64 (srM r), .int .i64 (rkC r)]) ∧ ResN Pl.cells 99 w' w.heap.size u (srL r) ∧ Below w.heap.size w w' := by
  have ra := RackAt.new 30 hs
  have RA := Lib.hid (ra.below ((Below.refl _ _).alloc (Nat.le_refl _) (.cells #[.int .i16 0, .slice none 0 0] 30)))
  have WF := Lib.hid wf
  obtain ⟨A, c, rfl, -⟩ := hs
  have G0 := Lib.hid (show Below w.heap.size w ((w.alloc (.cells #[.int .i16 r.n, .slice A r.ps.length c] 30)).alloc (.cells #[.int .i16 0, .slice none 0 0] 30)) by go_grown)
  have K1 := Lib.hid (show ((w.alloc (.cells #[.int .i16 r.n, .slice A r.ps.length c] 30)).alloc (.cells #[.int .i16 0, .slice none 0 0] 30)).heap[w.heap.size + 1]? = some (.cells #[.int .i16 0, .slice none 0 0] 30 (0, 0)) from by
    have := heap_alloc_new (w.alloc (.cells #[.int .i16 r.n, .slice A r.ps.length c] 30)) (.cells #[.int .i16 0, .slice none 0 0] 30)
    rwa [World.size_alloc] at this)
  clear wf ra
  have TC := Lib.hid (sr_cases r)
  go_enter Tryd.func49, Tryd.ntmps49
  go_wp2_with fail
  generalize (w.alloc _).alloc _ = w0 at RA G0 K1 ⊢
  refine (l05Ok_any r _ WF.out _ _ _ RA.out ml).mono ?_
  rintro e w1 ⟨rfl, h1⟩
  have zz0 : w.heap.size + 1 < w0.heap.size := (Array.getElem?_eq_some_iff.1 K1.out).1
  have B1 := Lib.hid (bnext G0.out h1)
  have RA1 := Lib.hid (RA.out.below h1)
  have R1 := Lib.hid ((h1.block _ zz0).trans K1.out)
  have z1 : w.heap.size + 1 < w1.heap.size := Nat.lt_of_lt_of_le zz0 h1.size
  clear h1
  rcases TC.out with ⟨hk, e1, e2, e3, e4⟩ | ⟨hk, e1, e2, e3, e4⟩
  · have E := Lib.hid (And.intro e1 (And.intro e2 (And.intro e3 e4)))
    rw [hk]
    clear e1 e2 e3 e4 hk
    have b0 := cell_of_row w1 _ 0 _ _ _ R1.out
    have b1 := cell_of_row w1 _ 1 _ _ _ R1.out
    have fz := fun j => frozen_of_row w1 _ j _ _ R1.out
    simp only [List.getElem?_toArray, List.getElem?_cons_zero, List.getElem?_cons_succ] at b0 b1
    go_wp2
    refine bodyPost_ret (v := .tuple #[.agg #[.int .i16 0, .slice none 0 0], .int .i64 0, .int .i64 1]) (by simp [results, Tryd.results49, go_sem, b0, b1]) rfl ?_
    refine ⟨.slice none 0 0, by rw [E.out.1, E.out.2.2.1, E.out.2.2.2], by rw [E.out.2.1]; exact ResN.nil _ _ _, ?_⟩
    repeat (refine Below.setCell ?_ (by first | (simp; done) | (simp; omega) | omega) _)
    exact B1.out
  · have E := Lib.hid (And.intro e1 (And.intro e2 (And.intro e3 e4)))
    rw [hk]
    obtain ⟨en, en1, en2, e5⟩ := rk_nat hk
    have h60 := rkB_len hk
    have L1 := Lib.hid (show (bks r.ps).length ≤ r.n.toNat by
      have := e5.len (by omega)
      rw [bks_length]; omega)
    have BW := Lib.hid (bks_wf WF.out.ps)
    have BL := Lib.hid (bks_length r.ps)
    clear e1 e2 e3 e4 hk e5
    obtain ⟨n, hn⟩ : ∃ n, r.n.toNat = n := ⟨_, rfl⟩
    rw [hn] at en en1 en2 L1 E
    have EN := Lib.hid en
    clear hn en
    have HK := Lib.hid (show ∀ W1, Below w1.heap.size w1 W1 → (fun W1 => Below w1.heap.size w1 W1 ∧ W1.cell? ⟨w.heap.size, 0, none⟩ = some (.int .i16 (n : Int))) W1 from
      fun W1 hB => ⟨hB, by have h := (RA1.out.below hB).n; rw [EN.out] at h; exact h⟩)
    have b0 : Below w1.heap.size w1 w1.drew := (Below.refl _ _).drew
    have WN := Lib.hid (show IntKind.i64.wrap (n : Int) = (n : Int) from IntWalk.i64_in _ (by omega))
    go_wp2
    go_region_held3 (fun W1 => Below w1.heap.size w1 W1 ∧ W1.cell? ⟨w.heap.size, 0, none⟩ = some (.int .i16 (n : Int))) (first | exact HK.out _ b0 | (refine HK.out _ (bnext ?_ hq); exact And.left (by assumption)) | (refine HK.out _ ?_; first | exact Below.alloc H9.out H9.out.size _ | exact Below.alloc H8.out H8.out.size _ | exact ((Below.refl _ _).alloc (Nat.le_refl _) _).drew | exact (H9.out.setCell (p := ⟨_, _, none⟩) (by first | exact Nat.le_refl _ | exact H8.out.size) _).setCell (p := ⟨_, _, none⟩) (by first | exact Nat.le_refl _ | exact H8.out.size) _)) (first
      | (go_at_call 58; refine (l05Books_any r _ _ _ _ (RA1.out.below (And.left (by assumption))) h60).mono ?_; rintro e w2 ⟨v2, rfl, hv2, hq⟩; have V2 := Lib.hid hv2.slice; have H8 := Lib.hid (bnext (show Below w1.heap.size w1 _ from And.left (by assumption)) hq); clear hv2; try (have X8 := (hq.block w1.heap.size (by simp)).trans (heap_alloc_new w1 _); have HX8 := Lib.hid X8; clear X8))
      | (go_at_call 79; try rw [WN.out]; refine (l05Spread_any n _ (bks r.ps) BW.out _ (by first | exact V2.out | exact V2.out.below ((Below.refl _ _).alloc (Nat.le_refl _) _)) en1 en2 L1.out).mono ?_; rintro e w3 ⟨v3, rfl, hv3, hq⟩; obtain ⟨A3, n3, k3, rfl⟩ := hv3.form; have V3 := Lib.hid hv3; have H9 := Lib.hid (bnext (show Below w1.heap.size w1 _ from And.left (by assumption)) hq); clear hv3; first | (have X9 := (hq.block w1.heap.size (Array.getElem?_eq_some_iff.1 HX8.out).1).trans HX8.out; have y0 := cell_of_row _ _ 0 _ _ _ X9; have y1 := cell_of_row _ _ 1 _ _ _ X9; have yf := fun j => frozen_of_row _ _ j _ _ X9; simp only [List.getElem?_toArray, List.getElem?_cons_zero, List.getElem?_cons_succ] at y0 y1; have HX9 := Lib.hid X9; clear X9) | (have X9 := (hq.block w2.heap.size (by simp)).trans (heap_alloc_new w2 _); have y0 := cell_of_row _ _ 0 _ _ _ X9; have y1 := cell_of_row _ _ 1 _ _ _ X9; have yf := fun j => frozen_of_row _ _ j _ _ X9; simp only [List.getElem?_toArray, List.getElem?_cons_zero, List.getElem?_cons_succ] at y0 y1; have HX9 := Lib.hid X9; clear X9) | skip))
    · have X := Lib.hid (heap_alloc_new w3 (.cells #[.int .i16 (n : Int), .slice A3 n3 k3] 30))
      have B8 := Lib.hid (Below.alloc H9.out H9.out.size (.cells #[.int .i16 (n : Int), .slice A3 n3 k3] 30))
      have R8 := Lib.hid ((V3.out.below ((Below.refl _ _).alloc (Nat.le_refl _) (.cells #[.int .i16 (n : Int), .slice A3 n3 k3] 30))).mono (base' := w1.heap.size) H8.out.size)
      rename_i hheld
      have ane : w1.heap.size ≤ w3.heap.size := H9.out.size
      generalize World.alloc w3 _ = W8 at X B8 R8 ⊢
      clear hheld hq H8 H9 V2 V3
      generalize w3.heap.size = a at X ane ⊢
      have hlt8 := (Array.getElem?_eq_some_iff.1 X.out).1
      have SA := Lib.hid (show RackAt W8 a 0 ⟨(n : Int), sprL n (bks r.ps)⟩ (.slice A3 n3 k3) from ⟨hlt8, (cell_of_row W8 _ 0 _ _ _ X.out).trans (by rfl), (cell_of_row W8 _ 1 _ _ _ X.out).trans (by rfl), R8.out.slice⟩)
      have RA8 := Lib.hid (RA1.out.below B8.out)
      have BX8 := Lib.hid ((B8.out.block _ z1).trans R1.out)
      have HL := Lib.hid (show r.ps.length = (sprL n (bks r.ps)).length by rw [sprL_len]; exact BL.out.symm)
      have x0 : W8.drew.cell? ⟨a, 0, none⟩ = some (.int .i16 (n : Int)) := SA.out.n
      have x1 : W8.drew.cell? ⟨a, 1, none⟩ = some (.slice A3 n3 k3) := SA.out.h
      have z8 := B8.out.size
      have b8 : Below (w.heap.size + 1) w1 W8.drew := (B8.out.mono (by omega)).drew
      clear hlt8
      go_wp2
      go_region_held3 (fun W1 => Below (w.heap.size + 1) w1 W1 ∧ W1.cell? ⟨a, 0, none⟩ = some (.int .i16 (n : Int)) ∧ W1.cell? ⟨a, 1, none⟩ = some (.slice A3 n3 k3)) (first | exact ⟨b8, x0, x1⟩ | exact ⟨B10.out, u0, u1⟩ | exact ⟨(B10.out.setCell (p := ⟨_, _, none⟩) (Nat.le_refl _) _).setCell (p := ⟨_, _, none⟩) (Nat.le_refl _) _, far2 u0 (by omega), far2 u1 (by omega)⟩) (first
        | (go_at_call 84; refine (l05Elsewhere_any r ⟨(n : Int), sprL n (bks r.ps)⟩ _ _ _ _ _ _ _ (RA8.out.below ((Below.refl _ W8).drew)) (SA.out.below ((Below.refl _ W8).drew)) HL.out h60).mono ?_; rintro e w9 ⟨rfl, hq⟩; have H10 := Lib.hid (bnext ((Below.refl _ W8).drew) hq); have B10 := Lib.hid ((B8.out.mono (by omega)).trans (H10.out.mono (by omega)) : Below (w.heap.size + 1) w1 w9); have X10 := (H10.out.block (w.heap.size + 1) (by omega)).trans BX8.out; have y0 := cell_of_row _ _ 0 _ _ _ X10; have y1 := cell_of_row _ _ 1 _ _ _ X10; have yf := fun j => frozen_of_row _ _ j _ _ X10; have u0 := (SA.out.below H10.out).n; have u1 : w9.cell? ⟨a, 1, none⟩ = some (.slice A3 n3 k3) := (SA.out.below H10.out).h; simp only [List.getElem?_toArray, List.getElem?_cons_zero, List.getElem?_cons_succ] at y0 y1; have HX10 := Lib.hid X10; clear X10))
      all_goals
        have G9 := only_set2 (only_set2 (World.grownBy.refl w9 (some (w.heap.size + 1))) 0 (.int .i16 (n : Int))) 1 (.slice A3 n3 k3)
        have R9 := Lib.hid (R8.out.below H10.out)
        have RF := Lib.hid ((R9.out.other G9 (fun k hk e => by have := R9.out.lt k hk; first | (injection e with e; omega) | omega)).mono (base' := w.heap.size) (by omega))
        have BF := Lib.hid (((B1.out.trans ((B10.out.mono (by omega)))).setCell (p := ⟨w.heap.size + 1, 0, none⟩) (by simp) (.int .i16 (n : Int))).setCell (p := ⟨w.heap.size + 1, 1, none⟩) (by simp) (.slice A3 n3 k3))
        clear G9
        go_wp2
        refine bodyPost_ret (v := .tuple #[.agg #[.int .i16 (n : Int), .slice A3 n3 k3], .int .i64 (cD (pos r.ps) (pos (sprL n (bks r.ps))) r.ps.length), .int .i64 0]) (by simp [results, Tryd.results49, go_sem, y0, y1, yf]) rfl ?_
        exact ⟨.slice A3 n3 k3, by rw [E.out.1, E.out.2.2.1, E.out.2.2.2, EN.out], by rw [E.out.2.1]; exact RF.out, BF.out⟩
    · have HXX := HX9.out
      have G := only_set2 (only_set2 (World.grownBy.refl w3 (some w2.heap.size)) 0 (.int .i16 (n : Int))) 1 (.slice A3 n3 k3)
      have X := Lib.hid (heap_setCell_same _ _ 1 _ _ (.slice A3 n3 k3) (heap_setCell_same w3 w2.heap.size 0 _ _ (.int .i16 (n : Int)) HXX))
      have R8 := Lib.hid ((V3.out.other G (fun k hk e => by have := V3.out.lt k hk; simp at this; first | (injection e with e; omega) | omega)).mono (base' := w1.heap.size) (by have := H8.out.size; simp; omega))
      rename_i hheld
      have B8 := Lib.hid hheld.1
      have ane : w1.heap.size ≤ w2.heap.size := H8.out.size
      clear hheld hq H8 H9 V2 V3 HX9 HXX G y0 y1 yf
      generalize World.setCell (World.setCell w3 _ _) _ _ = W8 at X B8 R8 ⊢
      generalize w2.heap.size = a at X ane ⊢
      have hlt8 := (Array.getElem?_eq_some_iff.1 X.out).1
      have SA := Lib.hid (show RackAt W8 a 0 ⟨(n : Int), sprL n (bks r.ps)⟩ (.slice A3 n3 k3) from ⟨hlt8, (cell_of_row W8 _ 0 _ _ _ X.out).trans (by rfl), (cell_of_row W8 _ 1 _ _ _ X.out).trans (by rfl), R8.out.slice⟩)
      have RA8 := Lib.hid (RA1.out.below B8.out)
      have BX8 := Lib.hid ((B8.out.block _ z1).trans R1.out)
      have HL := Lib.hid (show r.ps.length = (sprL n (bks r.ps)).length by rw [sprL_len]; exact BL.out.symm)
      have x0 : W8.drew.cell? ⟨a, 0, none⟩ = some (.int .i16 (n : Int)) := SA.out.n
      have x1 : W8.drew.cell? ⟨a, 1, none⟩ = some (.slice A3 n3 k3) := SA.out.h
      have z8 := B8.out.size
      have b8 : Below (w.heap.size + 1) w1 W8.drew := (B8.out.mono (by omega)).drew
      clear hlt8
      go_wp2
      go_region_held3 (fun W1 => Below (w.heap.size + 1) w1 W1 ∧ W1.cell? ⟨a, 0, none⟩ = some (.int .i16 (n : Int)) ∧ W1.cell? ⟨a, 1, none⟩ = some (.slice A3 n3 k3)) (first | exact ⟨b8, x0, x1⟩ | exact ⟨B10.out, u0, u1⟩ | exact ⟨(B10.out.setCell (p := ⟨_, _, none⟩) (Nat.le_refl _) _).setCell (p := ⟨_, _, none⟩) (Nat.le_refl _) _, far2 u0 (by omega), far2 u1 (by omega)⟩) (first
        | (go_at_call 84; refine (l05Elsewhere_any r ⟨(n : Int), sprL n (bks r.ps)⟩ _ _ _ _ _ _ _ (RA8.out.below ((Below.refl _ W8).drew)) (SA.out.below ((Below.refl _ W8).drew)) HL.out h60).mono ?_; rintro e w9 ⟨rfl, hq⟩; have H10 := Lib.hid (bnext ((Below.refl _ W8).drew) hq); have B10 := Lib.hid ((B8.out.mono (by omega)).trans (H10.out.mono (by omega)) : Below (w.heap.size + 1) w1 w9); have X10 := (H10.out.block (w.heap.size + 1) (by omega)).trans BX8.out; have y0 := cell_of_row _ _ 0 _ _ _ X10; have y1 := cell_of_row _ _ 1 _ _ _ X10; have yf := fun j => frozen_of_row _ _ j _ _ X10; have u0 := (SA.out.below H10.out).n; have u1 : w9.cell? ⟨a, 1, none⟩ = some (.slice A3 n3 k3) := (SA.out.below H10.out).h; simp only [List.getElem?_toArray, List.getElem?_cons_zero, List.getElem?_cons_succ] at y0 y1; have HX10 := Lib.hid X10; clear X10))
      all_goals
        have G9 := only_set2 (only_set2 (World.grownBy.refl w9 (some (w.heap.size + 1))) 0 (.int .i16 (n : Int))) 1 (.slice A3 n3 k3)
        have R9 := Lib.hid (R8.out.below H10.out)
        have RF := Lib.hid ((R9.out.other G9 (fun k hk e => by have := R9.out.lt k hk; first | (injection e with e; omega) | omega)).mono (base' := w.heap.size) (by omega))
        have BF := Lib.hid (((B1.out.trans ((B10.out.mono (by omega)))).setCell (p := ⟨w.heap.size + 1, 0, none⟩) (by simp) (.int .i16 (n : Int))).setCell (p := ⟨w.heap.size + 1, 1, none⟩) (by simp) (.slice A3 n3 k3))
        clear G9
        go_wp2
        refine bodyPost_ret (v := .tuple #[.agg #[.int .i16 (n : Int), .slice A3 n3 k3], .int .i64 (cD (pos r.ps) (pos (sprL n (bks r.ps))) r.ps.length), .int .i64 0]) (by simp [results, Tryd.results49, go_sem, y0, y1, yf]) rfl ?_
        exact ⟨.slice A3 n3 k3, by rw [E.out.1, E.out.2.2.1, E.out.2.2.2, EN.out], by rw [E.out.2.1]; exact RF.out, BF.out⟩
    · have HXX := HX9.out
      have G := only_set2 (only_set2 (World.grownBy.refl w3 (some w1.heap.size)) 0 (.int .i16 (n : Int))) 1 (.slice A3 n3 k3)
      have X := Lib.hid (heap_setCell_same _ _ 1 _ _ (.slice A3 n3 k3) (heap_setCell_same w3 w1.heap.size 0 _ _ (.int .i16 (n : Int)) HXX))
      have zz := (Array.getElem?_eq_some_iff.1 HX8.out).1
      have R8 := Lib.hid ((V3.out.other G (fun k hk e => by have := V3.out.lt k hk; first | (injection e with e; omega) | omega)).mono (base' := w1.heap.size) (by omega))
      rename_i hheld
      have B8 := Lib.hid hheld.1
      clear hheld hq H8 H9 V2 V3 HX8 HX9 HXX G y0 y1 yf zz
      generalize World.setCell (World.setCell w3 _ _) _ _ = W8 at X B8 R8 ⊢
      have hlt8 := (Array.getElem?_eq_some_iff.1 X.out).1
      have SA := Lib.hid (show RackAt W8 w1.heap.size 0 ⟨(n : Int), sprL n (bks r.ps)⟩ (.slice A3 n3 k3) from ⟨hlt8, (cell_of_row W8 _ 0 _ _ _ X.out).trans (by rfl), (cell_of_row W8 _ 1 _ _ _ X.out).trans (by rfl), R8.out.slice⟩)
      have RA8 := Lib.hid (RA1.out.below B8.out)
      have BX8 := Lib.hid ((B8.out.block _ z1).trans R1.out)
      have HL := Lib.hid (show r.ps.length = (sprL n (bks r.ps)).length by rw [sprL_len]; exact BL.out.symm)
      have x0 : W8.drew.cell? ⟨w1.heap.size, 0, none⟩ = some (.int .i16 (n : Int)) := SA.out.n
      have x1 : W8.drew.cell? ⟨w1.heap.size, 1, none⟩ = some (.slice A3 n3 k3) := SA.out.h
      have z8 := B8.out.size
      have b8 : Below (w.heap.size + 1) w1 W8.drew := (B8.out.mono (by omega)).drew
      clear hlt8
      go_wp2
      go_region_held3 (fun W1 => Below (w.heap.size + 1) w1 W1 ∧ W1.cell? ⟨w1.heap.size, 0, none⟩ = some (.int .i16 (n : Int)) ∧ W1.cell? ⟨w1.heap.size, 1, none⟩ = some (.slice A3 n3 k3)) (first | exact ⟨b8, x0, x1⟩ | exact ⟨B10.out, u0, u1⟩ | exact ⟨(B10.out.setCell (p := ⟨_, _, none⟩) (Nat.le_refl _) _).setCell (p := ⟨_, _, none⟩) (Nat.le_refl _) _, far2 u0 (by omega), far2 u1 (by omega)⟩) (first
        | (go_at_call 84; refine (l05Elsewhere_any r ⟨(n : Int), sprL n (bks r.ps)⟩ _ _ _ _ _ _ _ (RA8.out.below ((Below.refl _ W8).drew)) (SA.out.below ((Below.refl _ W8).drew)) HL.out h60).mono ?_; rintro e w9 ⟨rfl, hq⟩; have H10 := Lib.hid (bnext ((Below.refl _ W8).drew) hq); have B10 := Lib.hid ((B8.out.mono (by omega)).trans (H10.out.mono (by omega)) : Below (w.heap.size + 1) w1 w9); have X10 := (H10.out.block (w.heap.size + 1) (by omega)).trans BX8.out; have y0 := cell_of_row _ _ 0 _ _ _ X10; have y1 := cell_of_row _ _ 1 _ _ _ X10; have yf := fun j => frozen_of_row _ _ j _ _ X10; have u0 := (SA.out.below H10.out).n; have u1 : w9.cell? ⟨w1.heap.size, 1, none⟩ = some (.slice A3 n3 k3) := (SA.out.below H10.out).h; simp only [List.getElem?_toArray, List.getElem?_cons_zero, List.getElem?_cons_succ] at y0 y1; have HX10 := Lib.hid X10; clear X10))
      all_goals
        have G9 := only_set2 (only_set2 (World.grownBy.refl w9 (some (w.heap.size + 1))) 0 (.int .i16 (n : Int))) 1 (.slice A3 n3 k3)
        have R9 := Lib.hid (R8.out.below H10.out)
        have RF := Lib.hid ((R9.out.other G9 (fun k hk e => by have := R9.out.lt k hk; first | (injection e with e; omega) | omega)).mono (base' := w.heap.size) (by omega))
        have BF := Lib.hid (((B1.out.trans ((B10.out.mono (by omega)))).setCell (p := ⟨w.heap.size + 1, 0, none⟩) (by simp) (.int .i16 (n : Int))).setCell (p := ⟨w.heap.size + 1, 1, none⟩) (by simp) (.slice A3 n3 k3))
        clear G9
        go_wp2
        refine bodyPost_ret (v := .tuple #[.agg #[.int .i16 (n : Int), .slice A3 n3 k3], .int .i64 (cD (pos r.ps) (pos (sprL n (bks r.ps))) r.ps.length), .int .i64 0]) (by simp [results, Tryd.results49, go_sem, y0, y1, yf]) rfl ?_
        exact ⟨.slice A3 n3 k3, by rw [E.out.1, E.out.2.2.1, E.out.2.2.2, EN.out], by rw [E.out.2.1]; exact RF.out, BF.out⟩
end Go.Proofs.YtlphpajpjpohmaaDoor
