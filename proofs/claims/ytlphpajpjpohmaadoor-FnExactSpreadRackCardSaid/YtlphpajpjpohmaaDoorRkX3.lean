/- SpreadRack, by the program: contracts. Condition: the two error variables hold two different errors; no longer than the law tests. -/
import Derived.Test.YtlphpajpjpohmaaDoorRkX2
import Derived.Test.YtlphpajpjpohmaaDoorRkP3
import Derived.Test.YtlphpajpjpohmaaDoorRkZb
namespace Go.Proofs.YtlphpajpjpohmaaDoor
set_option linter.unusedSimpArgs false
set_option linter.unusedVariables false
set_option maxRecDepth 100000
open Go.RowKit Go.Sort

theorem two_set1 {w : World} {g : Nat} {t : TypeId} {a b : Value} (h : w.heap[g]? = some (.cells #[a, b] t (0, 0))) (u : Value) : (w.setCell ⟨g, 1, none⟩ u).heap[g]? = some (.cells #[a, u] t (0, 0)) := heap_setCell_same w g 1 _ _ u h
theorem two_set0 {w : World} {g : Nat} {t : TypeId} {a b : Value} (h : w.heap[g]? = some (.cells #[a, b] t (0, 0))) (u : Value) : (w.setCell ⟨g, 0, none⟩ u).heap[g]? = some (.cells #[u, b] t (0, 0)) := heap_setCell_same w g 0 _ _ u h
theorem RowN.otherB {α : Type} {cel : α → List Value} {t : TypeId} {w w' : World} {g n k : Nat} {xs : List α} {h : Nat} (hr : RowN cel t w g xs k n) (hg : w.grownBy w' (some h)) (hne : g ≠ h) : RowN cel t w' g xs k n := by
  obtain ⟨cs, h1, h2⟩ := hr
  exact ⟨cs, (hg.block g (Array.getElem?_eq_some_iff.1 h1).1 (fun e => hne (by injection e))).trans h1, h2⟩

theorem gb_trans {a b c : World} {g : Nat} (h : Below a.heap.size a b) (k : b.grownBy c (some g)) : a.grownBy c (some g) :=
  ⟨k.os.trans h.os, k.tape.trans h.tape, k.output.trans h.output, Nat.le_trans h.size k.size, fun i hi hne => (k.block i (Nat.lt_of_lt_of_le hi h.size) hne).trans (h.block i hi)⟩

set_option maxHeartbeats 4000000 in
theorem spread_any (ga gp n : Nat) (ps : List Pl) (w : World) (hx : w.heap[ga]? = some (.cells #[.slice (some ⟨gp, 0, none⟩) n n, .int .i64 0] 113 (0, 0))) (hp : PosTo n ps ps.length) (hr : RowN Pc.cells 101 w gp (plc n ps) n n) (hne : gp ≠ ga) (hn1 : 1 ≤ n) (hn2 : n ≤ 60) (hl : ps.length ≤ n) :
    Calls Tryd.prog 85 #[.pointer (some ⟨ga, 0, none⟩)] w fun e w' => ∃ gq, e = .returned (.tuple #[]) ∧ w'.heap[ga]? = some (.cells #[.slice (some ⟨gq, 0, none⟩) n n, .int .i64 (cD (pos ps) (pos (sprL n (bks ps))) ps.length)] 113 (0, 0)) ∧ w.heap.size ≤ gq ∧ RowN Pc.cells 101 w' gq (plc n (sprL n (bks ps))) n n ∧ w.grownBy w' (some ga) := by
  have zg : ga < w.heap.size := (Array.getElem?_eq_some_iff.1 hx).1
  have X0 := Lib.hid hx
  have HP := Lib.hid (RowN.sl hr (plc_length _ _))
  have LP := Lib.hid (plc_length n ps)
  have QA := Lib.hid (bkq_plc hp)
  have WA := Lib.hid (show whr true (plc n ps) = pos ps from whr_true hp)
  have BL := Lib.hid (bks_length ps)
  have hlb : (bks ps).length ≤ n := by rw [bks_length]; exact hl
  have WB := Lib.hid (show whr true (plc n (sprL n (bks ps))) = pos (sprL n (bks ps)) from whr_true (sprL_pos hlb))
  have LQ := Lib.hid (plc_length n (sprL n (bks ps)))
  have P1 := Lib.hid (pos_bd hp (by omega))
  have P2 := Lib.hid (pos_bd (sprL_pos hlb) (by omega))
  have PL := Lib.hid (pos_length ps)
  have LE := Lib.hid (show (whr true (plc n ps)).length ≤ (whr true (plc n (sprL n (bks ps)))).length by rw [WA.out, WB.out, pos_length, pos_length, sprL_len, bks_length]; exact Nat.le_refl _)
  have HK := Lib.hid (show ∀ W1, Below w.heap.size w W1 → (fun W1 => Below w.heap.size w W1 ∧ W1.cell? ⟨ga, 0, none⟩ = some (.slice (some ⟨gp, 0, none⟩) n n)) W1 from
    fun W1 hB => ⟨hB, cell_of_row W1 _ 0 _ _ _ ((hB.block ga zg).trans X0.out)⟩)
  have b0 : Below w.heap.size w w.drew := (Below.refl _ _).drew
  have lp : (plc n ps).length ≤ 60 := by rw [LP.out]; exact hn2
  have lq : (plc n (sprL n (bks ps))).length ≤ 60 := by rw [LQ.out]; exact hn2
  clear hx hr hp
  go_enter Tryd.func85, Tryd.ntmps85
  go_wp2
  go_region_held3 (fun W1 => Below w.heap.size w W1 ∧ W1.cell? ⟨ga, 0, none⟩ = some (.slice (some ⟨gp, 0, none⟩) n n)) (first | exact HK.out _ b0 | exact HK.out _ H9.out | exact HK.out _ H8.out | exact HK.out _ (And.left (by assumption))) (first
    | (go_at_call 59; refine (books_any _ (plc n ps) _ (HP.out.below (And.left (by assumption))) lp).mono ?_; rintro e w2 ⟨u2, rfl, hu2, hq⟩; rw [QA.out] at hu2; have U2 := Lib.hid hu2.slice; obtain ⟨Au2, cu2, rfl, -⟩ := hu2.slice; have H8 := Lib.hid (bnext (show Below w.heap.size w _ from And.left (by assumption)) hq); clear hu2)
    | (go_at_call 83; refine (spreadOver_any n _ (bks ps) _ U2.out hn1 hn2 hlb).mono ?_; rintro e w3 ⟨gq, rfl, lo, hr3, hq⟩; have R3 := Lib.hid hr3; have H9 := Lib.hid (bnext H8.out hq); have lo3 : w.heap.size ≤ gq := Nat.le_trans H8.out.size lo; clear hr3))
  rename_i hheld
  clear hheld hq
  have z3 := H9.out.size
  have HA3 := Lib.hid (HP.out.below H9.out)
  have HB3 := Lib.hid (RowN.sl R3.out LQ.out)
  have X3 := Lib.hid ((H9.out.block ga zg).trans X0.out)
  have x0 := cell_of_row w3 _ 0 _ _ _ X3.out
  simp only [List.getElem?_toArray, List.getElem?_cons_zero, List.getElem?_cons_succ] at x0
  go_wp2_with fail
  refine (distances_any _ _ (plc n ps) (plc n (sprL n (bks ps))) _ HA3.out HB3.out lp lq LE.out).mono ?_
  rintro e w5 ⟨u, rfl, ho, g5⟩
  rw [WA.out, WB.out, PL.out] at ho
  have OD := Lib.hid ho
  obtain ⟨Ad, cd, rfl, -⟩ := ownsInts ho
  have B5 := Lib.hid (bnext H9.out g5)
  have X5 := Lib.hid ((g5.block ga (by omega)).trans X3.out)
  have R5 := Lib.hid (R3.out.below g5 R3.out.lt)
  have DL := Lib.hid (dTo_length (pos ps) (pos (sprL n (bks ps))) ps.length)
  have DG := Lib.hid (dTo_get (pos ps) (pos (sprL n (bks ps))) ps.length)
  have DB := Lib.hid (dA_bd P1.out P2.out)
  have D1 := Lib.hid (dA_one (pos ps) (pos (sprL n (bks ps))))
  have CB := Lib.hid (cD_bd (pos ps) (pos (sprL n (bks ps))))
  have zq := R3.out.lt
  rw [DL.out]
  generalize hys : pos (sprL n (bks ps)) = ys at *
  generalize hxs : pos ps = xs at *
  have HYS := Lib.hid hys
  have HXS := Lib.hid hxs
  clear hys hxs
  clear ho x0
  have z5 := g5.size
  clear g5
  go_wp2
  go_loopw [23] (fun i_ wr => ∃ k : Nat, k ≤ ps.length ∧ i_ = .int .i64 (k : Int) ∧ wr.heap[ga]? = some (.cells #[.slice (some ⟨gp, 0, none⟩) n n, .int .i64 (cD xs ys k)] 113 (0, 0)) ∧ w5.grownBy wr (some ga)) (fun i_ _ => ps.length - (intOf i_).toNat)
  case atStart => exact ⟨0, Nat.zero_le _, rfl, X5.out, World.grownBy.refl _ _⟩
  case round =>
    obtain ⟨k, hk, rfl, hxk, hgk⟩ := hrel
    have XK := Lib.hid hxk
    have GK := Lib.hid hgk
    have OK := Lib.hid (ownOther OD.out hgk (fun q hq e => by have := (OD.out.lt q hq).1; first | (injection e with e; omega) | omega))
    have b0' := cell_of_row wr _ 0 _ _ _ hxk
    have b1' := cell_of_row wr _ 1 _ _ _ hxk
    have bf := fun j => frozen_of_row wr _ j _ _ hxk
    simp only [List.getElem?_toArray, List.getElem?_cons_zero, List.getElem?_cons_succ] at b0' b1'
    have cb := CB.out k
    obtain ⟨cb1, cb2⟩ := cb
    clear hxk hgk
    by_cases hlt : k < ps.length
    · obtain ⟨Ad', cd', ed, hd⟩ := ownsInts OK.out
      obtain ⟨gd, od, hAd, hgd, hat⟩ := hd (by rw [DL.out]; omega)
      obtain rfl : Ad = some ⟨gd, od, none⟩ := by injection ed with x y z; rw [x]; exact hAd
      have c1 := hat k (by rw [DL.out]; exact hlt)
      rw [DG.out k (by rw [DL.out]; exact hlt)] at c1
      have SS := Lib.hid (show cD xs ys (k + 1) = cD xs ys k + min (dA xs ys k) 1 by rw [cD, D1.out])
      have d0 := DB.out k
      clear hat hd ed
      generalize cD xs ys k = S at *
      generalize dA xs ys k = D at *
      obtain ⟨d01, d02⟩ := d0
      go_wp2
      go_roundw
      case rel => exact ⟨k + 1, by omega, by go_num, by rw [SS.out]; exact two_set1 XK.out _, only_set2 GK.out _ _⟩
      case measure => simp [intOf]; omega
    · obtain rfl : k = ps.length := by omega
      have GF := Lib.hid (show w.grownBy (wr.setCell ⟨ga, 0, none⟩ (.slice (some ⟨gq, 0, none⟩) n n)) (some ga) from only_set2 (gb_trans B5.out GK.out) _ _)
      go_wp2
      go_returns
      exact ⟨gq, by first | rfl | trivial, by rw [HXS.out, HYS.out]; exact two_set0 XK.out _, by omega, (R5.out.otherB GK.out (by omega)).otherB (only_set2 (World.grownBy.refl _ _) _ _) (by omega), GF.out⟩

set_option maxHeartbeats 4000000 in
theorem spreadRack_any (r : Rk) (hv : Value) (wf : r.Wf) (w : World) (s i : Addr) (he : Er2 w s i) (hs : PlsOf w hv r.ps) (hn : r.ps.length ≤ 1048576) :
    Calls Tryd.prog 50 #[.agg #[.int .i16 r.n, hv]] w fun e w' => ∃ u, e = .returned (.tuple #[.agg #[.int .i16 (srN r), u], .int .i64 (srM r), .int .i64 (rkC r)]) ∧ ResN Pl.cells 99 w' w.heap.size u (srL r) ∧ Below w.heap.size w w' := by
  have HE := Lib.hid he
  have WF := Lib.hid wf
  have HS := Lib.hid hs
  obtain ⟨A, c, rfl, -⟩ := hs
  have G0 := Lib.hid (show Below w.heap.size w ((w.alloc (.cells #[.int .i16 r.n, .slice A r.ps.length c] 30)).alloc (.cells #[.int .i16 0, .slice none 0 0] 30)) by go_grown)
  have K1 := Lib.hid (show ((w.alloc (.cells #[.int .i16 r.n, .slice A r.ps.length c] 30)).alloc (.cells #[.int .i16 0, .slice none 0 0] 30)).heap[w.heap.size + 1]? = some (.cells #[.int .i16 0, .slice none 0 0] 30 (0, 0)) from by
    have := heap_alloc_new (w.alloc (.cells #[.int .i16 r.n, .slice A r.ps.length c] 30)) (.cells #[.int .i16 0, .slice none 0 0] 30)
    rwa [World.size_alloc] at this)
  clear he wf
  have TC := Lib.hid (sr_cases r)
  go_enter Tryd.func50, Tryd.ntmps50
  go_wp2_with fail
  generalize (w.alloc _).alloc _ = w0 at G0 K1 ⊢
  refine (placesOf_any r _ WF.out _ s i (HE.out.below G0.out) (HS.out.below G0.out) hn).mono ?_
  rintro e w1 ⟨v1, rfl, hp1, h1⟩
  have zz0 : w.heap.size + 1 < w0.heap.size := (Array.getElem?_eq_some_iff.1 K1.out).1
  have B1 := Lib.hid (bnext G0.out h1)
  have R1 := Lib.hid ((h1.block _ zz0).trans K1.out)
  have z1 : w.heap.size + 1 < w1.heap.size := Nat.lt_of_lt_of_le zz0 h1.size
  clear h1
  rcases TC.out with ⟨hk, e1, e2, e3, e4⟩ | ⟨hk, e1, e2, e3, e4⟩
  · have E := Lib.hid (And.intro e1 (And.intro e2 (And.intro e3 e4)))
    rw [e4]
    obtain ⟨_, _, _, rfl⟩ := hp1.form
    clear e1 e2 e3 e4 hk hp1
    have b0 := cell_of_row w1 _ 0 _ _ _ R1.out
    have b1 := cell_of_row w1 _ 1 _ _ _ R1.out
    have fz := fun j => frozen_of_row w1 _ j _ _ R1.out
    simp only [List.getElem?_toArray, List.getElem?_cons_zero, List.getElem?_cons_succ] at b0 b1
    go_wp2
    refine bodyPost_ret (v := .tuple #[.agg #[.int .i16 0, .slice none 0 0], .int .i64 0, .int .i64 1]) (by simp [results, Tryd.results50, go_sem, b0, b1]) rfl ?_
    refine ⟨.slice none 0 0, by rw [E.out.1, E.out.2.2.1, E.out.2.2.2], by rw [E.out.2.1]; exact ResN.nil _ _ _, ?_⟩
    repeat (refine Below.setCell ?_ (by first | (simp; done) | (simp; omega) | omega) _)
    exact B1.out
  · have E := Lib.hid (And.intro e1 (And.intro e2 (And.intro e3 e4)))
    rw [e4]
    obtain ⟨gp, rfl, lp, hrp⟩ := hp1.ok hk
    obtain ⟨en, en1, en2, e5⟩ := rk_nat hk
    have L1 : r.ps.length ≤ r.n.toNat := by have := e5.len (by omega); omega
    have e5 := Lib.hid e5
    clear e1 e2 e3 e4 hk hp1
    obtain ⟨n, hnn⟩ : ∃ n, r.n.toNat = n := ⟨_, rfl⟩
    rw [hnn] at en en1 en2 L1 E e5 hrp ⊢
    have EN := Lib.hid en
    have RP := Lib.hid hrp
    have zp := hrp.lt
    have lb : (bks r.ps).length ≤ n := by rw [bks_length]; exact L1
    have LQ := Lib.hid (plc_length n (sprL n (bks r.ps)))
    have QP := Lib.hid (plq_plc (sprL_pos lb))
    clear hnn en hrp
    have XG := Lib.hid (heap_alloc_new w1 (.cells #[.slice (some ⟨gp, 0, none⟩) n n, .int .i64 0] 113))
    have BG := Lib.hid (Below.alloc (Below.refl w1.heap.size w1) (Nat.le_refl _) (.cells #[.slice (some ⟨gp, 0, none⟩) n n, .int .i64 0] 113))
    go_wp2_with fail
    generalize World.alloc w1 _ = w2 at XG BG ⊢
    have z2 := BG.out.size
    refine (spread_any w1.heap.size gp n r.ps w2 XG.out e5.out (RP.out.below BG.out zp) (by omega) en1 en2 L1).mono ?_
    rintro e w3 ⟨gq, rfl, hx3, lq, hr3, hg3⟩
    have X3 := Lib.hid hx3
    have B3 := Lib.hid (B1.out.trans (show Below w.heap.size w1 w3 from (BG.out.mono (by omega)).grown hg3 (by omega) (fun k hk => by injection hk with hk; omega)))
    have R3 := Lib.hid (RowN.sl hr3 LQ.out)
    have K3 := Lib.hid ((hg3.block (w.heap.size + 1) (by omega) (fun e => by injection e with e; omega)).trans ((BG.out.block _ z1).trans R1.out))
    have z3 := hg3.size
    have zx := (Array.getElem?_eq_some_iff.1 hx3).1
    have lq60 : (plc n (sprL n (bks r.ps))).length ≤ 60 := by rw [LQ.out]; exact en2
    have HK := Lib.hid (show ∀ W1, Below w3.heap.size w3 W1 → W1.cell? ⟨w1.heap.size, 0, none⟩ = some (.slice (some ⟨gq, 0, none⟩) n n) ∧ W1.cell? ⟨w1.heap.size, 1, none⟩ = some (.int .i64 (cD (pos r.ps) (pos (sprL n (bks r.ps))) r.ps.length)) from
      fun W1 hB => ⟨cell_of_row W1 _ 0 _ _ _ ((hB.block _ zx).trans X3.out), cell_of_row W1 _ 1 _ _ _ ((hB.block _ zx).trans X3.out)⟩)
    obtain ⟨x0, x1⟩ := HK.out w3.drew ((Below.refl _ _).drew)
    clear hx3 hr3 hg3 lq
    generalize cD (pos r.ps) (pos (sprL n (bks r.ps))) r.ps.length = M at *
    go_wp2
    go_region_held3 (fun W1 => Below (w.heap.size + 1) w3 W1 ∧ W1.cell? ⟨w1.heap.size, 0, none⟩ = some (.slice (some ⟨gq, 0, none⟩) n n) ∧ W1.cell? ⟨w1.heap.size, 1, none⟩ = some (.int .i64 M)) (first | exact ⟨(Below.refl _ _).drew, x0, x1⟩ | exact ⟨B10.out, u0, u1⟩ | exact ⟨(B10.out.setCell (p := ⟨_, _, none⟩) (Nat.le_refl _) _).setCell (p := ⟨_, _, none⟩) (Nat.le_refl _) _, far2 u0 (by omega), far2 u1 (by omega)⟩) (first
      | (go_at_call 74; refine (rack_any _ (plc n (sprL n (bks r.ps))) _ (R3.out.below ((Below.refl _ w3).drew)) lq60).mono ?_; rintro e w9 ⟨u9, rfl, hu9, hq⟩; rw [QP.out, LQ.out] at *; obtain ⟨A9, n9, k9, rfl⟩ := hu9.form; have H10 := Lib.hid (bnext ((Below.refl _ w3).drew) hq); have B10 := Lib.hid (show Below (w.heap.size + 1) w3 w9 from H10.out.mono (by omega)); have U9 := Lib.hid hu9; have X10 := (H10.out.block (w.heap.size + 1) (by omega)).trans K3.out; have y0 := cell_of_row _ _ 0 _ _ _ X10; have y1 := cell_of_row _ _ 1 _ _ _ X10; have yf := fun j => frozen_of_row _ _ j _ _ X10; obtain ⟨u0, u1⟩ := HK.out w9 H10.out; simp only [List.getElem?_toArray, List.getElem?_cons_zero, List.getElem?_cons_succ] at y0 y1; clear X10 hu9))
    have G9 := only_set2 (only_set2 (World.grownBy.refl w9 (some (w.heap.size + 1))) 0 (.int .i16 (n : Int))) 1 (.slice A9 n9 k9)
    have RF := Lib.hid ((U9.out.other G9 (fun k hk e => by have h := (U9.out.lt k hk).1; have h2 : w3.heap.size ≤ k := h; first | (injection e with e; omega) | omega)).mono (base' := w.heap.size) (by show w.heap.size ≤ w3.heap.size; omega))
    have BF := Lib.hid (((B3.out.trans (H10.out.mono (by omega))).setCell (p := ⟨w.heap.size + 1, 0, none⟩) (by simp) (.int .i16 (n : Int))).setCell (p := ⟨w.heap.size + 1, 1, none⟩) (by simp) (.slice A9 n9 k9))
    clear G9
    go_wp2
    refine bodyPost_ret (v := .tuple #[.agg #[.int .i16 (n : Int), .slice A9 n9 k9], .int .i64 M, .int .i64 0]) (by simp [results, Tryd.results50, go_sem, y0, y1, yf]) rfl ?_
    exact ⟨.slice A9 n9 k9, by rw [E.out.1, E.out.2.2.1, E.out.2.2.2, EN.out], by rw [E.out.2.1]; exact RF.out, BF.out⟩
end Go.Proofs.YtlphpajpjpohmaaDoor
