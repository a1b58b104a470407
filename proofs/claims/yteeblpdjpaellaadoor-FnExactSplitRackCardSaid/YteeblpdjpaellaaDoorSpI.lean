/- SplitRack, by the program: a contract. Condition: the two error variables hold two different errors; no longer than the law tests. -/
import Derived.Test.YteeblpdjpaellaaDoorSpP
import Derived.Test.YteeblpdjpaellaaDoorResN
import Derived.Deep.RegionHeld3
namespace Go.Proofs.YteeblpdjpaellaaDoor
set_option linter.unusedSimpArgs false
set_option linter.unusedVariables false
set_option maxRecDepth 100000
open Go.RowKit Go.Sort

theorem within64_any' (n low high : Int) (w : World) :
    Calls Tryd.prog 37 #[.int .i64 n, .int .i64 low, .int .i64 high] w fun e w' => e = .returned (.bool (inB n low high)) ∧ w = w' := by
  by_cases h1 : low ≤ n
  · by_cases h2 : n ≤ high
    · go_enter Tryd.func37, Tryd.ntmps37
      go_wp2
      go_ret
      exact ⟨by simp [inB, h1, h2], rfl⟩
    · go_enter Tryd.func37, Tryd.ntmps37
      go_wp2
      go_ret
      exact ⟨by simp [inB, h1, h2], rfl⟩
  · have h1' : n < low := by omega
    go_enter Tryd.func37, Tryd.ntmps37
    go_wp2
    go_ret
    exact ⟨by simp [inB, show ¬ low ≤ n from by omega], rfl⟩
theorem resN_both {W : World} {base g : Nat} {v : Value} {ps : List Pl} (h : ResN Pl.cells 67 W base v ps) (hb : g + 1 < base) (x y a b : Value) :
    ResN Pl.cells 67 ((((W.setCell ⟨g, 0, none⟩ x).setCell ⟨g, 1, none⟩ a).setCell ⟨g + 1, 0, none⟩ y).setCell ⟨g + 1, 1, none⟩ b) base v ps := by
  have h1 := h.other (only_set2 (only_set2 (World.grownBy.refl W (some g)) 0 x) 1 a) (fun k hk e => by have := (h.lt k hk).1; injection e with e; omega)
  exact h1.other (only_set2 (only_set2 (World.grownBy.refl _ (some (g + 1))) 0 y) 1 b) (fun k hk e => by have := (h.lt k hk).1; injection e with e; omega)
/-- What SplitRack hands back. -/
def SpR (r : Rk) (a : Int) (w : World) (e : Ending) (w' : World) : Prop :=
  ∃ u v, e = .returned (.tuple #[.agg #[.int .i16 (spN1 r a), u], .agg #[.int .i16 (spN2 r a), v], .int .i64 (spC r a)]) ∧ ResN Pl.cells 67 w' w.heap.size u (spL1 r a) ∧ ResN Pl.cells 67 w' w.heap.size v (spL2 r a) ∧ (∀ k, u.ownBlock = some k → v.ownBlock ≠ some k) ∧ Below w.heap.size w w'
theorem spR_mk {r : Rk} {a : Int} {w w' : World} {n1 n2 c : Int} {l1 l2 : List Pl} (e1 : spN1 r a = n1) (e2 : spL1 r a = l1) (e3 : spN2 r a = n2) (e4 : spL2 r a = l2) (e5 : spC r a = c) {u v : Value}
    (h1 : ResN Pl.cells 67 w' w.heap.size u l1) (h2 : ResN Pl.cells 67 w' w.heap.size v l2) (h3 : ∀ k, u.ownBlock = some k → v.ownBlock ≠ some k) (h4 : Below w.heap.size w w') :
    SpR r a w (.returned (.tuple #[.agg #[.int .i16 n1, u], .agg #[.int .i16 n2, v], .int .i64 c])) w' := by
  subst e1 e2 e3 e4 e5
  exact ⟨u, v, rfl, h1, h2, h3, h4⟩
theorem resN_nil' (w : World) (base : Nat) : ResN Pl.cells 67 w base (.slice none 0 0) [] := .inl ⟨rfl, rfl⟩
theorem spR_nil {r : Rk} {a : Int} {w : World} {c : Int} (e1 : spN1 r a = 0) (e2 : spL1 r a = []) (e3 : spN2 r a = 0) (e4 : spL2 r a = []) (e5 : spC r a = c) (w' : World) (h4 : Below w.heap.size w w') :
    SpR r a w (.returned (.tuple #[.agg #[.int .i16 0, .slice none 0 0], .agg #[.int .i16 0, .slice none 0 0], .int .i64 c])) w' :=
  spR_mk e1 e2 e3 e4 e5 (resN_nil' _ _) (resN_nil' _ _) (fun k hk => by cases hk) h4
/-- Both boxes when both are stored. -/
theorem kq_both {W : World} {g n1 n2 : _} {h1 h2 : Value} (k1 : KQ W g n1 h1) (k2 : KQ W (g + 1) n2 h2) (x y : Int) (u v : Value) :
    KQ ((((W.setCell ⟨g, 0, none⟩ (.int .i16 x)).setCell ⟨g, 1, none⟩ u).setCell ⟨g + 1, 0, none⟩ (.int .i16 y)).setCell ⟨g + 1, 1, none⟩ v) g x u ∧ KQ ((((W.setCell ⟨g, 0, none⟩ (.int .i16 x)).setCell ⟨g, 1, none⟩ u).setCell ⟨g + 1, 0, none⟩ (.int .i16 y)).setCell ⟨g + 1, 1, none⟩ v) (g + 1) y v :=
  ⟨((k1.all x u).far _ (by omega)).far _ (by omega), (((k2.far _ (by omega)).far _ (by omega)).all y v)⟩
theorem below_both {B : Nat} {w W : World} {g : Nat} (h : Below B w W) (hg : B ≤ g) (x y u v : Value) :
    Below B w ((((W.setCell ⟨g, 0, none⟩ x).setCell ⟨g, 1, none⟩ u).setCell ⟨g + 1, 0, none⟩ y).setCell ⟨g + 1, 1, none⟩ v) :=
  (((h.setCell (p := ⟨g, 0, none⟩) hg x).setCell (p := ⟨g, 1, none⟩) hg u).setCell (p := ⟨g + 1, 0, none⟩) (Nat.le_succ_of_le hg) y).setCell (p := ⟨g + 1, 1, none⟩) (Nat.le_succ_of_le hg) v
def RaR (n : Int) (ps : List Pl) (W : World) (e : Ending) (w' : World) : Prop :=
  ∃ A9 n9 k9, e = .returned (.agg #[.int .i16 n, .slice A9 n9 k9]) ∧ ResN Pl.cells 67 w' W.heap.size (.slice A9 n9 k9) ps ∧ Below W.heap.size W w'
theorem rack_to (v0 : Value) (q : List Pc) (W : World) (hs : PcsOf W v0 q) (hn : q.length ≤ 60) {n : Int} {ps : List Pl} (e1 : (q.length : Int) = n) (e2 : plq q = ps) :
    Calls Tryd.prog 38 #[v0] W (RaR n ps W) := by
  subst e1 e2
  refine (rack_any v0 q W hs hn).mono ?_
  rintro e w' ⟨u, rfl, h1, h2⟩
  obtain ⟨A9, n9, k9, rfl⟩ := h1.form
  exact ⟨A9, n9, k9, rfl, h1, h2⟩
set_option maxHeartbeats 400000 in
theorem splitRack_any (r : Rk) (hv : Value) (wf : r.Wf) (a : Int) (ha : (Lit.int .i64 a).wf = true) (w : World) (s i : Addr) (he : Er2 w s i) (hs : PlsOf w hv r.ps) (hn : r.ps.length ≤ 1048576) :
    Calls Tryd.prog 18 #[.agg #[.int .i16 r.n, hv], .int .i64 a] w (SpR r a w) := by
  have HE := Lib.hid he
  have WF := Lib.hid wf
  have HS := Lib.hid hs
  have HA := Lib.hid ha
  obtain ⟨A, c, rfl, -⟩ := hs
  have G0 := Lib.hid (show Below w.heap.size w (((w.alloc (.cells #[.int .i16 r.n, .slice A r.ps.length c] 41)).alloc (.cells #[.int .i16 0, .slice none 0 0] 41)).alloc (.cells #[.int .i16 0, .slice none 0 0] 41)) by go_grown)
  have K1 := Lib.hid (show KQ (((w.alloc (.cells #[.int .i16 r.n, .slice A r.ps.length c] 41)).alloc (.cells #[.int .i16 0, .slice none 0 0] 41)).alloc (.cells #[.int .i16 0, .slice none 0 0] 41)) (w.heap.size + 1) 0 (.slice none 0 0) from by
    have := heap_alloc_new (w.alloc (.cells #[.int .i16 r.n, .slice A r.ps.length c] 41)) (.cells #[.int .i16 0, .slice none 0 0] 41)
    rw [World.size_alloc] at this
    exact (Below.heap_alloc _ _ _ (by simp)).trans this)
  have K2 := Lib.hid (show KQ (((w.alloc (.cells #[.int .i16 r.n, .slice A r.ps.length c] 41)).alloc (.cells #[.int .i16 0, .slice none 0 0] 41)).alloc (.cells #[.int .i16 0, .slice none 0 0] 41)) (w.heap.size + 2) 0 (.slice none 0 0) from by
    have := heap_alloc_new ((w.alloc (.cells #[.int .i16 r.n, .slice A r.ps.length c] 41)).alloc (.cells #[.int .i16 0, .slice none 0 0] 41)) (.cells #[.int .i16 0, .slice none 0 0] 41)
    rw [World.size_alloc, World.size_alloc] at this
    exact this)
  clear he wf ha
  have TC := Lib.hid (sp_cases r a)
  go_enter Tryd.func18, Tryd.ntmps18
  go_wp2_with fail
  generalize ((w.alloc _).alloc _).alloc _ = w0 at G0 K1 K2 ⊢
  refine (placesOf_any r _ WF.out _ s i (HE.out.below G0.out) (HS.out.below G0.out) hn).mono ?_
  rintro e w1 ⟨v1, rfl, hp1, h1⟩
  have zz0 : w.heap.size + 2 < w0.heap.size := K2.out.lt
  have B1 := Lib.hid (bnext G0.out h1)
  have R1 := Lib.hid (K1.out.below h1 (by omega))
  have R2 := Lib.hid (K2.out.below h1 zz0)
  have z1 : w.heap.size + 2 < w1.heap.size := Nat.lt_of_lt_of_le zz0 h1.size
  clear h1
  have b0 := R1.out.c0
  have b1 := R1.out.c1
  have fz := R1.out.fz
  have c0 := R2.out.c0
  have c1 := R2.out.c1
  have fy := R2.out.fz
  rcases TC.out with ⟨hk, e1, e2, e3, e4, e5⟩ | ⟨hk, hi, e1, e2, e3, e4, e5⟩ | ⟨hk, hi, e1, e2, e3, e4, e5⟩
  · have E := Lib.hid (spR_nil (w := w) e1 e2 e3 e4 e5)
    have e6 : rkC r = 1 := by unfold rkC; rw [hk]; rfl
    rw [e6]
    obtain rfl := hp1.no hk
    clear e1 e2 e3 e4 e5 e6 hk hp1
    go_wp2
    have PR := kq_both R1.out R2.out 0 0 (.slice none 0 0) (.slice none 0 0)
    have q0 := PR.1.c0
    have q1 := PR.1.c1
    have q2 := PR.2.c0
    have q3 := PR.2.c1
    exact bodyPost_ret (v := .tuple #[.agg #[.int .i16 0, .slice none 0 0], .agg #[.int .i16 0, .slice none 0 0], .int .i64 1]) (by simp [results, Tryd.results18, go_sem, q0, q1, q2, q3]) rfl (E.out _ (below_both B1.out (by omega) _ _ _ _))
  · obtain ⟨en, en1, en2, e9⟩ := rk_nat hk
    have E := Lib.hid (spR_nil (w := w) e1 e2 e3 e4 e5)
    have e6 : rkC r = 0 := by unfold rkC; rw [hk]; rfl
    rw [e6]
    obtain ⟨gp, rfl, lp, hrp⟩ := hp1.ok hk
    clear e1 e2 e3 e4 e5 e6 hk hp1 lp hrp e9
    obtain ⟨n, hnn⟩ : ∃ n, r.n.toNat = n := ⟨_, rfl⟩
    rw [hnn] at en en1 en2 ⊢
    have EI := Lib.hid (show inB a 1 ((n : Int) - 1) = false by rw [← en]; exact hi)
    clear hi hnn en
    have wn : IntKind.i64.wrap ((n : Int) - 1) = (n : Int) - 1 := IntWalk.i64_in _ (by omega)
    go_wp2_with fail
    refine (within64_any' _ _ _ _).mono ?_
    rintro e w' ⟨rfl, rfl⟩
    rw [EI.out]
    go_wp2
    have PR := kq_both R1.out R2.out 0 0 (.slice none 0 0) (.slice none 0 0)
    have q0 := PR.1.c0
    have q1 := PR.1.c1
    have q2 := PR.2.c0
    have q3 := PR.2.c1
    exact bodyPost_ret (v := .tuple #[.agg #[.int .i16 0, .slice none 0 0], .agg #[.int .i16 0, .slice none 0 0], .int .i64 2]) (by simp [results, Tryd.results18, go_sem, q0, q1, q2, q3]) rfl (E.out _ (below_both B1.out (by omega) _ _ _ _))
  · obtain ⟨en, en1, en2, e9⟩ := rk_nat hk
    have e6 : rkC r = 0 := by unfold rkC; rw [hk]; rfl
    rw [e6]
    obtain ⟨gp, rfl, lp, hrp⟩ := hp1.ok hk
    have L1 : r.ps.length ≤ r.n.toNat := by have := e9.len (by omega); omega
    obtain ⟨n, hnn⟩ : ∃ n, r.n.toNat = n := ⟨_, rfl⟩
    rw [hnn] at en en1 en2 hrp L1 e9 ⊢
    have HI := Lib.hid (show inB a 1 ((n : Int) - 1) = true by rw [← en]; exact hi)
    have ia : 1 ≤ a ∧ a ≤ (n : Int) - 1 := by have := HI.out; unfold inB at this; exact of_decide_eq_true this
    obtain ⟨k, rfl⟩ : ∃ k : Nat, a = (k : Int) := ⟨a.toNat, by omega⟩
    obtain ⟨i1, i2⟩ := ia
    have SP := Lib.hid (split_plq (n := n) (k := k) (ps := r.ps) e9 (by omega))
    have LP := Lib.hid (plc_length n r.ps)
    rw [en] at e3
    have E := Lib.hid (fun (W : World) (u v : Value) => spR_mk (w := w) (w' := W) (u := u) (v := v) e1 e2 e3 e4 e5)
    have RP := Lib.hid hrp
    have zp := hrp.lt
    clear e1 e2 e3 e4 e5 e6 hk hp1 hrp e9 hnn hi
    have wn : IntKind.i64.wrap ((n : Int) - 1) = (n : Int) - 1 := IntWalk.i64_in _ (by omega)
    go_wp2_with fail
    refine (within64_any' _ _ _ _).mono ?_
    rintro e w' ⟨rfl, rfl⟩
    rw [HI.out]
    have PA := Lib.hid (pcs_hi RP.out LP.out (k := k) (by omega))
    have PB := Lib.hid (pcs_lo RP.out LP.out (k := k) (by omega))
    have SA := fun W => run_hiQ (some ⟨gp, 0, none⟩) n n k (by omega) W
    have SB := fun W => run_loQ gp 0 n n k (by omega) (Nat.le_refl _) W
    have la : ((plc n r.ps).take k).length = k := by rw [List.length_take, LP.out]; omega
    have lb : ((plc n r.ps).drop k).length = n - k := by rw [List.length_drop, LP.out]
    have LA := Lib.hid la
    have LB := Lib.hid lb
    have la6 : ((plc n r.ps).take k).length ≤ 60 := by omega
    have lb6 : ((plc n r.ps).drop k).length ≤ 60 := by omega
    have nn : ((n - k : Nat) : Int) = (n : Int) - (k : Int) := by omega
    have NN := Lib.hid nn
    generalize loQ 0 k n = oo at PB SB
    generalize n - k = dd at PB SB LB NN
    have CA := Lib.hid (show ∀ W, Below w1.heap.size w1 W → Calls Tryd.prog 38 #[.slice (some ⟨gp, 0, none⟩) k n] W (RaR (k : Int) (lowP (k : Int) r.ps) W) from fun W hW => rack_to _ _ W (PA.out.below hW) la6 (by rw [LA.out]) SP.out.1)
    have CB := Lib.hid (show ∀ W, Below w1.heap.size w1 W → Calls Tryd.prog 38 #[.slice (some ⟨gp, oo, none⟩) dd dd] W (RaR ((n : Int) - (k : Int)) (highP (k : Int) r.ps) W) from fun W hW => rack_to _ _ W (PB.out.below hW) lb6 (by rw [LB.out, NN.out]) SP.out.2)
    clear la lb nn la6 lb6
    have bz : Below w1.heap.size w1 w1.drew := (Below.refl _ _).drew
    go_wp2
    have bz2 := bz.mono (show w.heap.size + 1 ≤ w1.heap.size by omega)
    go_region_held3 (fun W1 => Below (w.heap.size + 1) w1 W1) (first | exact bz2 | exact BL.out | exact BK.out | exact (BL.out.setCell (p := ⟨_, _, none⟩) (Nat.le_refl _) _).setCell (p := ⟨_, _, none⟩) (Nat.le_refl _) _ | exact below_both BL.out (Nat.le_refl _) _ _ _ _) (first
      | (go_at_call 38; refine (CB.out _ BA.out).mono ?_; rintro e w6 ⟨A6, n6, k6, rfl, hu6, hq6⟩; have BC := Lib.hid (bnext BA.out hq6); have BL := Lib.hid (BC.out.mono (show w.heap.size + 1 ≤ w1.heap.size by omega)); have U6 := Lib.hid hu6; have QB := Lib.hid hq6; have K6 := Lib.hid (R1.out.below BC.out (by omega)); have J6 := Lib.hid (R2.out.below BC.out z1); have x0 := K6.out.c0; have x1 := K6.out.c1; have xf := K6.out.fz; have y0 := J6.out.c0; have y1 := J6.out.c1; have yf := J6.out.fz; clear hu6)
      | (go_at_call 38; refine (CA.out _ bz).mono ?_; rintro e w5 ⟨A5, n5, k5, rfl, hu5, hq5⟩; have BA := Lib.hid (bnext bz hq5); have BK := Lib.hid (BA.out.mono (show w.heap.size + 1 ≤ w1.heap.size by omega)); have U5 := Lib.hid hu5; clear hu5))
    have M5 := Lib.hid ((U5.out.below QB.out).mono (base' := w1.heap.size) (Nat.le_refl _))
    have M6 := Lib.hid (U6.out.mono (base' := w1.heap.size) (by have := hq5.size; exact this))
    have AP := Lib.hid (show ∀ q, (Value.slice A5 n5 k5).ownBlock = some q → (Value.slice A6 n6 k6).ownBlock ≠ some q from fun q h1 h2 => by
      have h3 := (U5.out.lt q h1).2
      have h4 := (U6.out.lt q h2).1
      omega)
    go_wp2
    have PR := kq_both K6.out J6.out (k : Int) ((n : Int) - (k : Int)) (.slice A5 n5 k5) (.slice A6 n6 k6)
    have q0 := PR.1.c0
    have q1 := PR.1.c1
    have q2 := PR.2.c0
    have q3 := PR.2.c1
    have N5 := resN_both (g := w.heap.size + 1) M5.out (by omega) (.int .i16 (k : Int)) (.int .i16 ((n : Int) - (k : Int))) (.slice A5 n5 k5) (.slice A6 n6 k6)
    have N6 := resN_both (g := w.heap.size + 1) M6.out (by omega) (.int .i16 (k : Int)) (.int .i16 ((n : Int) - (k : Int))) (.slice A5 n5 k5) (.slice A6 n6 k6)
    exact bodyPost_ret (v := .tuple #[.agg #[.int .i16 (k : Int), .slice A5 n5 k5], .agg #[.int .i16 ((n : Int) - (k : Int)), .slice A6 n6 k6], .int .i64 0]) (by simp [results, Tryd.results18, go_sem, q0, q1, q2, q3]) rfl (E.out _ _ _ (N5.mono (by omega)) (N6.mono (by omega)) AP.out (below_both (B1.out.trans (BC.out.mono (by omega))) (by omega) _ _ _ _))
end Go.Proofs.YteeblpdjpaellaaDoor
