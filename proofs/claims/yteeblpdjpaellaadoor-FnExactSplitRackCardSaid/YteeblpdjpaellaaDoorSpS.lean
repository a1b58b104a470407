/- SplitRack, by the model: a contract. Condition: numbers within their kinds, no longer than a slice can be. -/
import Derived.Test.YteeblpdjpaellaaDoorSpI
import Derived.Test.YteeblpdjpaellaaDoorRkS
import Derived.Deep.AppendLies
namespace Go.Proofs.YteeblpdjpaellaaDoor
set_option linter.unusedSimpArgs false
set_option linter.unusedVariables false
set_option maxRecDepth 100000
open Go.RowKit Go.Sort

theorem low_yes {ps : List Pl} {a : Int} {k : Nat} (h : k < ps.length) (e : ps[k].p < a) : lowP a (ps.take (k + 1)) = lowP a (ps.take k) ++ [ps[k]] ∧ highP a (ps.take (k + 1)) = highP a (ps.take k) := by
  unfold lowP highP
  rw [List.take_succ_eq_append_getElem h, List.filter_append, List.filter_append, List.filter_cons, if_pos (by simpa using e), List.filter_nil, List.filter_cons, if_neg (by simp [e]), List.filter_nil, List.append_nil]
  exact ⟨rfl, rfl⟩
theorem low_no {ps : List Pl} {a : Int} {k : Nat} (h : k < ps.length) (e : ¬ ps[k].p < a) : lowP a (ps.take (k + 1)) = lowP a (ps.take k) ∧ highP a (ps.take (k + 1)) = highP a (ps.take k) ++ [shP (-a) ps[k]] := by
  unfold lowP highP
  rw [List.take_succ_eq_append_getElem h, List.filter_append, List.filter_append, List.filter_cons, if_neg (by simpa using e), List.filter_nil, List.filter_cons, if_pos (by simpa using e), List.filter_nil, List.append_nil, List.map_append]
  exact ⟨rfl, rfl⟩
theorem lowT_len (ps : List Pl) (a : Int) (k : Nat) : (lowP a (ps.take k)).length ≤ ps.length := Nat.le_trans (List.length_filter_le _ _) (by rw [List.length_take]; omega)
theorem highT_len (ps : List Pl) (a : Int) (k : Nat) : (highP a (ps.take k)).length ≤ ps.length := by
  unfold highP
  rw [List.length_map]
  exact Nat.le_trans (List.length_filter_le _ _) (by rw [List.length_take]; omega)
theorem farS {w : World} {g k l i j : Nat} {u v x : Value} (h : w.cell? ⟨g, l, none⟩ = some x) (hne : g ≠ k) : ((w.setCell ⟨k, i, none⟩ u).setCell ⟨k, j, none⟩ v).cell? ⟨g, l, none⟩ = some x := by
  have e1 := Below.heap_setCell w ⟨k, i, none⟩ u g (by first | exact hne | exact hne.symm)
  have e2 := Below.heap_setCell (w.setCell ⟨k, i, none⟩ u) ⟨k, j, none⟩ v g (by first | exact hne | exact hne.symm)
  unfold World.cell? at h ⊢
  rw [e2, e1]
  exact h
/-- The two racks that are being filled: their boxes, their rows. -/
structure SpM (W3 W : World) (g : Nat) (n1 n2 : Int) (l1 l2 : List Pl) (v1 v2 : Value) : Prop where
  bw : Below g W3 W
  x1 : KQ W g n1 v1
  x2 : KQ W (g + 1) n2 v2
  o1 : W.ownsRow (g + 2) 67 9 v1 l1.length (flN Pl.cells l1)
  o2 : W.ownsRow (g + 2) 67 9 v2 l2.length (flN Pl.cells l2)
  ap : ∀ k, v1.ownBlock = some k → v2.ownBlock ≠ some k
section
variable {W3 W W' : World} {g : Nat} {n1 n2 : Int} {l1 l2 : List Pl} {v1 v2 : Value}
theorem SpM.nx (h : SpM W3 W g n1 n2 l1 l2 v1 v2) (hb : Below W.heap.size W W') : SpM W3 W' g n1 n2 l1 l2 v1 v2 :=
  ⟨h.bw.trans (hb.mono (by have := h.x1.lt; omega)), h.x1.below hb h.x1.lt, h.x2.below hb h.x2.lt, ownBelow h.o1 hb, ownBelow h.o2 hb, h.ap⟩
theorem SpM.put1 (h : SpM W3 W g n1 n2 l1 l2 v1 v2) {g5 c5 : Nat} {l : List Pl} (hg : W.grownBy W' v1.ownBlock) (ho : W'.ownsRow (g + 2) 67 9 (.slice (some ⟨g5, 0, none⟩) (l1.length + 1) c5) l.length (flN Pl.cells l)) (hw : v1.ownBlock = some g5 ∨ g5 = W.heap.size) :
    SpM W3 (W'.setCell ⟨g, 1, none⟩ (.slice (some ⟨g5, 0, none⟩) (l1.length + 1) c5)) g n1 n2 l l2 (.slice (some ⟨g5, 0, none⟩) (l1.length + 1) c5) v2 := by
  have f1 : ∀ k, v1.ownBlock = some k → g + 2 ≤ k := fun k hk => (h.o1.lt k hk).1
  have g3 := only_set2 (World.grownBy.refl W' (some g)) 1 (.slice (some ⟨g5, 0, none⟩) (l1.length + 1) c5)
  have x1 := h.x1.kept hg (fun e => by have := f1 _ e.symm; omega)
  have x2 := h.x2.kept hg (fun e => by have := f1 _ e.symm; omega)
  refine ⟨(h.bw.grown hg (by have := h.x1.lt; omega) (fun k hk => by have := f1 k hk; omega)).setCell (p := ⟨g, 1, none⟩) (Nat.le_refl _) _, x1.s1 _, x2.far _ (by omega), ownOther ho g3 (fun k hk e => by have := (ho.lt k hk).1; injection e with e; omega), ?_, ?_⟩
  · have o2 := ownOther h.o2 hg (fun k hk e => h.ap k e.symm hk)
    exact ownOther o2 g3 (fun k hk e => by have := (o2.lt k hk).1; injection e with e; omega)
  · intro k hk h2
    obtain rfl : g5 = k := by injection hk
    rcases hw with hw | hw
    · exact h.ap _ hw h2
    · have := (h.o2.lt _ h2).2
      omega
theorem SpM.put2 (h : SpM W3 W g n1 n2 l1 l2 v1 v2) {g5 c5 : Nat} {l : List Pl} (hg : W.grownBy W' v2.ownBlock) (ho : W'.ownsRow (g + 2) 67 9 (.slice (some ⟨g5, 0, none⟩) (l2.length + 1) c5) l.length (flN Pl.cells l)) (hw : v2.ownBlock = some g5 ∨ g5 = W.heap.size) :
    SpM W3 (W'.setCell ⟨g + 1, 1, none⟩ (.slice (some ⟨g5, 0, none⟩) (l2.length + 1) c5)) g n1 n2 l1 l v1 (.slice (some ⟨g5, 0, none⟩) (l2.length + 1) c5) := by
  have f1 : ∀ k, v2.ownBlock = some k → g + 2 ≤ k := fun k hk => (h.o2.lt k hk).1
  have g3 := only_set2 (World.grownBy.refl W' (some (g + 1))) 1 (.slice (some ⟨g5, 0, none⟩) (l2.length + 1) c5)
  have x1 := h.x1.kept hg (fun e => by have := f1 _ e.symm; omega)
  have x2 := h.x2.kept hg (fun e => by have := f1 _ e.symm; omega)
  refine ⟨(h.bw.grown hg (by have := h.x1.lt; omega) (fun k hk => by have := f1 k hk; omega)).setCell (p := ⟨g + 1, 1, none⟩) (Nat.le_succ g) _, x1.far _ (by omega), x2.s1 _, ?_, ownOther ho g3 (fun k hk e => by have := (ho.lt k hk).1; injection e with e; omega), ?_⟩
  · have o1 := ownOther h.o1 hg (fun k hk e => h.ap k hk e.symm)
    exact ownOther o1 g3 (fun k hk e => by have := (o1.lt k hk).1; injection e with e; omega)
  · intro k hk h2
    obtain rfl : g5 = k := by injection h2
    rcases hw with hw | hw
    · exact h.ap _ hk hw
    · have := (h.o1.lt _ hk).2
      omega
end
set_option maxHeartbeats 8000000 in
theorem specSplitRack_any (r : Rk) (hv : Value) (wf : r.Wf) (a : Int) (ha : (Lit.int .i64 a).wf = true) (w : World) (hs : PlsOf w hv r.ps) (ml : r.ps.length ≤ maxLen) :
    Calls Tryd.prog 16 #[.agg #[.int .i16 r.n, hv], .int .i64 a] w (SpR r a w) := by
  obtain ⟨i0, hi0, hz0, hz1, hz2⟩ := info_parts infoPlaced
  have ra := RackAt.new 41 hs
  have RA := Lib.hid (ra.below (((Below.refl _ _).alloc (Nat.le_refl _) (.cells #[.int .i16 0, .slice none 0 0] 41)).alloc (by simp) (.cells #[.int .i16 0, .slice none 0 0] 41)))
  have WF := Lib.hid wf
  have HA := Lib.hid ha
  obtain ⟨A, c, rfl, hat⟩ := hs
  have HT := Lib.hid hat
  obtain ⟨bn1, bn2⟩ := wf.n
  have G0 := Lib.hid (show Below w.heap.size w (((w.alloc (.cells #[.int .i16 r.n, .slice A r.ps.length c] 41)).alloc (.cells #[.int .i16 0, .slice none 0 0] 41)).alloc (.cells #[.int .i16 0, .slice none 0 0] 41)) by go_grown)
  have K0 := Lib.hid (show KQ (((w.alloc (.cells #[.int .i16 r.n, .slice A r.ps.length c] 41)).alloc (.cells #[.int .i16 0, .slice none 0 0] 41)).alloc (.cells #[.int .i16 0, .slice none 0 0] 41)) w.heap.size r.n (.slice A r.ps.length c) from (Below.heap_alloc _ _ _ (by simp; omega)).trans ((Below.heap_alloc _ _ _ (by simp)).trans (heap_alloc_new w _)))
  have K1 := Lib.hid (show KQ (((w.alloc (.cells #[.int .i16 r.n, .slice A r.ps.length c] 41)).alloc (.cells #[.int .i16 0, .slice none 0 0] 41)).alloc (.cells #[.int .i16 0, .slice none 0 0] 41)) (w.heap.size + 1) 0 (.slice none 0 0) from by
    have := heap_alloc_new (w.alloc (.cells #[.int .i16 r.n, .slice A r.ps.length c] 41)) (.cells #[.int .i16 0, .slice none 0 0] 41)
    rw [World.size_alloc] at this
    exact (Below.heap_alloc _ _ _ (by simp)).trans this)
  have K2 := Lib.hid (show KQ (((w.alloc (.cells #[.int .i16 r.n, .slice A r.ps.length c] 41)).alloc (.cells #[.int .i16 0, .slice none 0 0] 41)).alloc (.cells #[.int .i16 0, .slice none 0 0] 41)) (w.heap.size + 2) 0 (.slice none 0 0) from by
    have := heap_alloc_new ((w.alloc (.cells #[.int .i16 r.n, .slice A r.ps.length c] 41)).alloc (.cells #[.int .i16 0, .slice none 0 0] 41)) (.cells #[.int .i16 0, .slice none 0 0] 41)
    rw [World.size_alloc, World.size_alloc] at this
    exact this)
  clear wf ra hat ha
  have TC := Lib.hid (sp_cases r a)
  go_enter Tryd.func16, Tryd.ntmps16
  go_wp2_with fail
  generalize ((w.alloc _).alloc _).alloc _ = w0 at RA G0 K0 K1 K2 ⊢
  refine (l05Ok_any r _ WF.out _ _ _ RA.out ml).mono ?_
  rintro e w1 ⟨rfl, h1⟩
  have zz0 : w.heap.size + 2 < w0.heap.size := K2.out.lt
  have B1 := Lib.hid (bnext G0.out h1)
  have R0 := Lib.hid (K0.out.below h1 (by omega))
  have R1 := Lib.hid (K1.out.below h1 (by omega))
  have R2 := Lib.hid (K2.out.below h1 zz0)
  have z1 : w.heap.size + 2 < w1.heap.size := Nat.lt_of_lt_of_le zz0 h1.size
  clear h1 RA K0 K1 K2 ml
  have d0 := R0.out.c0
  have b0 := R1.out.c0
  have b1 := R1.out.c1
  have fz := R1.out.fz
  have c0 := R2.out.c0
  have c1 := R2.out.c1
  have fy := R2.out.fz
  rcases TC.out with ⟨hk, e1, e2, e3, e4, e5⟩ | ⟨hk, hin, e1, e2, e3, e4, e5⟩ | ⟨hk, hin, e1, e2, e3, e4, e5⟩
  · have E := Lib.hid (spR_nil (w := w) e1 e2 e3 e4 e5)
    rw [hk]
    clear e1 e2 e3 e4 e5 hk
    go_wp2
    have PR := kq_both R1.out R2.out 0 0 (.slice none 0 0) (.slice none 0 0)
    have q0 := PR.1.c0
    have q1 := PR.1.c1
    have q2 := PR.2.c0
    have q3 := PR.2.c1
    exact bodyPost_ret (v := .tuple #[.agg #[.int .i16 0, .slice none 0 0], .agg #[.int .i16 0, .slice none 0 0], .int .i64 1]) (by simp [results, Tryd.results16, go_sem, q0, q1, q2, q3]) rfl (E.out _ (below_both B1.out (by omega) _ _ _ _))
  · have E := Lib.hid (spR_nil (w := w) e1 e2 e3 e4 e5)
    obtain ⟨en, en1, en2, e9⟩ := rk_nat hk
    have wn : IntKind.i64.wrap (r.n - 1) = r.n - 1 := IntWalk.i64_in _ (by omega)
    rw [hk]
    clear e1 e2 e3 e4 e5 hk en e9
    go_wp2_with fail
    refine (l00In_any _ _ _ _).mono ?_
    rintro e w' ⟨rfl, rfl⟩
    rw [hin]
    clear hin
    go_wp2
    have PR := kq_both R1.out R2.out 0 0 (.slice none 0 0) (.slice none 0 0)
    have q0 := PR.1.c0
    have q1 := PR.1.c1
    have q2 := PR.2.c0
    have q3 := PR.2.c1
    exact bodyPost_ret (v := .tuple #[.agg #[.int .i16 0, .slice none 0 0], .agg #[.int .i16 0, .slice none 0 0], .int .i64 2]) (by simp [results, Tryd.results16, go_sem, q0, q1, q2, q3]) rfl (E.out _ (below_both B1.out (by omega) _ _ _ _))
  · obtain ⟨en, en1, en2, e9⟩ := rk_nat hk
    have h60 := rkB_len hk
    have E := Lib.hid (fun (W : World) (u v : Value) => spR_mk (w := w) (w' := W) (u := u) (v := v) e1 e2 e3 e4 e5)
    have PM := Lib.hid (show ∀ x ∈ r.ps, 0 ≤ x.p ∧ x.p ≤ r.n - 1 from PosTo.mem (by rw [en]; exact e9))
    have ia : 1 ≤ a ∧ a ≤ r.n - 1 := by unfold inB at hin; exact of_decide_eq_true hin
    have n60 : r.n ≤ 60 := by omega
    obtain ⟨i1, i2⟩ := ia
    have wn : IntKind.i64.wrap (r.n - 1) = r.n - 1 := IntWalk.i64_in _ (by omega)
    have wa : IntKind.i16.wrap a = a := IntWalk.i16_in _ (by omega)
    have wb : IntKind.i16.wrap (r.n - a) = r.n - a := IntWalk.i16_in _ (by omega)
    rw [hk]
    clear e1 e2 e3 e4 e5 hk en e9
    go_wp2_with fail
    refine (l00In_any _ _ _ _).mono ?_
    rintro e w' ⟨rfl, rfl⟩
    rw [hin]
    clear hin
    have D2 := Lib.hid (show Below w1.heap.size w1 ((w1.alloc (.cells #[.int .i16 a, .slice none 0 0] 41)).alloc (.cells #[.int .i16 (r.n - a), .slice none 0 0] 41)) by go_grown)
    have Y1 := Lib.hid (show KQ ((w1.alloc (.cells #[.int .i16 a, .slice none 0 0] 41)).alloc (.cells #[.int .i16 (r.n - a), .slice none 0 0] 41)) w1.heap.size a (.slice none 0 0) from (Below.heap_alloc _ _ _ (by simp)).trans (heap_alloc_new w1 _))
    have Y2 := Lib.hid (show KQ ((w1.alloc (.cells #[.int .i16 a, .slice none 0 0] 41)).alloc (.cells #[.int .i16 (r.n - a), .slice none 0 0] 41)) (w1.heap.size + 1) (r.n - a) (.slice none 0 0) from by
      have := heap_alloc_new (w1.alloc (.cells #[.int .i16 a, .slice none 0 0] 41)) (.cells #[.int .i16 (r.n - a), .slice none 0 0] 41)
      rw [World.size_alloc] at this
      exact this)
    have d0' : (w1.alloc (.cells #[.int .i16 a, .slice none 0 0] 41)).cell? ⟨w.heap.size, 0, none⟩ = some (.int .i16 r.n) := (((Below.refl w1.heap.size w1).alloc (Nat.le_refl _) _).cell (p := ⟨w.heap.size, 0, none⟩) (show w.heap.size < w1.heap.size by omega)).trans d0
    go_upto_region 7 with (fail)
    generalize (w1.alloc _).alloc _ = w2 at D2 Y1 Y2 ⊢
    obtain ⟨g, hg⟩ : ∃ g, w1.heap.size = g := ⟨_, rfl⟩
    have zg : w.heap.size + 2 < g := by omega
    have D3 := Lib.hid (show Below g w1 w2 by rw [← hg]; exact D2.out)
    have zz2 : g + 1 < w2.heap.size := by rw [← hg]; exact Y2.out.lt
    rw [hg] at Y1 Y2 ⊢
    have M0 := Lib.hid (show SpM w2 w2 g a (r.n - a) (lowP a (r.ps.take 0)) (highP a (r.ps.take 0)) (.slice none 0 0) (.slice none 0 0) from
      ⟨(Below.refl w2.heap.size w2).mono (by omega), Y1.out, Y2.out, ⟨rfl, .inl ⟨rfl, rfl⟩⟩, ⟨rfl, .inl ⟨rfl, rfl⟩⟩, fun k hk => by cases hk⟩)
    have S0 := Lib.hid (R0.out.below D3.out (by omega))
    have S1 := Lib.hid (R1.out.below D3.out (by omega))
    have S2 := Lib.hid (R2.out.below D3.out (by omega))
    have B2 := Lib.hid (B1.out.trans (D3.out.mono (by omega)))
    clear d0 d0' b0 b1 fz c0 c1 fy hg
    go_wp2
    go_loopw [9] (fun i_ wr => ∃ (v1 v2 : Value) (l1 l2 : List Pl) (k : Nat), k ≤ r.ps.length ∧ i_ = .int .i64 (k : Int) ∧ l1 = lowP a (r.ps.take k) ∧ l2 = highP a (r.ps.take k) ∧ SpM w2 wr g a (r.n - a) l1 l2 v1 v2) (fun i_ _ => r.ps.length - (intOf i_).toNat)
    case atStart => exact ⟨_, _, _, _, 0, Nat.zero_le _, rfl, rfl, rfl, M0.out⟩
    case round =>
      obtain ⟨v1, v2, l1, l2, k, hk, rfl, el1, el2, hm⟩ := hrel
      have MM := Lib.hid hm
      have q1 : l1.length ≤ 60 := by rw [el1]; exact Nat.le_trans (lowT_len _ _ _) h60
      have q2 : l2.length ≤ 60 := by rw [el2]; exact Nat.le_trans (highT_len _ _ _) h60
      have EL1 := Lib.hid el1
      have EL2 := Lib.hid el2
      have d1 := (S0.out.below MM.out.bw (by omega)).c1
      have zr : g + 1 < wr.heap.size := MM.out.x2.lt
      clear el1 el2 hm
      by_cases hlt : k < r.ps.length
      · have hlt' := hlt
        obtain ⟨ga, oa, rfl, hga, hat⟩ := HT.out (by omega)
        obtain ⟨p0, p1, p2, p3, p4, p5, p6, p7, p8⟩ := plAt_some ((hat.below B2.out hga).below MM.out.bw (by omega)) hlt
        have PB := Lib.hid (PM.out _ (List.getElem_mem hlt))
        have LY := Lib.hid (fun h => low_yes (a := a) hlt h)
        have LN := Lib.hid (fun h => low_no (a := a) hlt h)
        clear hat
        generalize r.ps[k] = x at LY LN PB p0 p1 p2 p3 p4 p5 p6 p7 p8
        have ba := (Below.refl wr.heap.size wr).alloc (Nat.le_refl _) (.cells #[.int .i16 x.p, .int .i16 x.b.c, .int .u8 x.b.m0, .int .u8 x.b.m1, .int .u8 x.b.m2, .int .i16 x.b.v, .int .i16 x.b.wi, .int .i16 x.b.hi, .int .i16 x.b.we] 67)
        have M1 := Lib.hid (MM.out.nx ba)
        have X1 := Lib.hid (heap_alloc_new wr (.cells #[.int .i16 x.p, .int .i16 x.b.c, .int .u8 x.b.m0, .int .u8 x.b.m1, .int .u8 x.b.m2, .int .i16 x.b.v, .int .i16 x.b.wi, .int .i16 x.b.hi, .int .i16 x.b.we] 67))
        clear ba
        go_upto_region 11 with (fail)
        generalize World.alloc _ _ = W1 at M1 X1 ⊢
        obtain ⟨xb, hxb⟩ : ∃ xb, wr.heap.size = xb := ⟨_, rfl⟩
        rw [hxb] at X1 ⊢
        have c0 := cell_of_row W1 _ 0 _ _ _ X1.out
        have c1 := cell_of_row W1 _ 1 _ _ _ X1.out
        have c2 := cell_of_row W1 _ 2 _ _ _ X1.out
        have c3 := cell_of_row W1 _ 3 _ _ _ X1.out
        have c4 := cell_of_row W1 _ 4 _ _ _ X1.out
        have c5 := cell_of_row W1 _ 5 _ _ _ X1.out
        have c6 := cell_of_row W1 _ 6 _ _ _ X1.out
        have c7 := cell_of_row W1 _ 7 _ _ _ X1.out
        have c8 := cell_of_row W1 _ 8 _ _ _ X1.out
        simp only [List.getElem?_toArray, List.getElem?_cons_zero, List.getElem?_cons_succ] at c0 c1 c2 c3 c4 c5 c6 c7 c8
        obtain ⟨pb1, pb2⟩ := PB.out
        have y1 := M1.out.x1.c1
        have y2 := M1.out.x2.c1
        clear hxb zr p0 p1 p2 p3 p4 p5 p6 p7 p8 d1
        have zx : g + 1 < W1.heap.size := M1.out.x2.lt
        by_cases hx : x.p < a
        · have FE := Lib.hid (LY.out hx)
          have g1 : decide (x.p < a) = true := decide_eq_true hx
          have M2 := Lib.hid (M1.out.nx ((Below.refl W1.heap.size W1).alloc (Nat.le_refl _) (.cells #[.int .i16 x.p, .int .i16 x.b.c, .int .u8 x.b.m0, .int .u8 x.b.m1, .int .u8 x.b.m2, .int .i16 x.b.v, .int .i16 x.b.wi, .int .i16 x.b.hi, .int .i16 x.b.we] 67)))
          clear hx
          go_wp2_with (at_builtin; refine wpList_append_lies _ rfl (.tmp 51) (.tmp 53) _ rfl (g + 2) 67 i0 (.agg #[.int .i16 0, .int .i16 0, .int .u8 0, .int .u8 0, .int .u8 0, .int .i16 0, .int .i16 0, .int .i16 0, .int .i16 0]) 9 16 Tryd.underlying39 hi0 hz0 hz1 hz2 rfl (by decide) _ _ _ rfl M2.out.o1 ⟨W1.heap.size, 0, none⟩ 1 1 [.int .i16 x.p, .int .i16 x.b.c, .int .u8 x.b.m0, .int .u8 x.b.m1, .int .u8 x.b.m2, .int .i16 x.b.v, .int .i16 x.b.wi, .int .i16 x.b.hi, .int .i16 x.b.we] rfl rfl (cell9_new _ _ _ _ _ _ _ _ _ _ _) (one9 x) (by decide) (by unfold maxLen; omega) (by omega) (by have := M2.out.x2.lt; omega) _ rfl ?_)
          intro g4 cap w4 ho4 hg4 ha4 hl4
          have x4 := (M2.out.x1.kept hg4 (fun e => by have := (M2.out.o1.lt _ e.symm).1; omega)).c1
          have f4 := (M2.out.x1.kept hg4 (fun e => by have := (M2.out.o1.lt _ e.symm).1; omega)).fz
          have M6 := Lib.hid (M2.out.put1 (l := l1 ++ [x]) hg4 (by rw [plN_snoc, List.length_append]; exact ho4) (ha4.imp id (fun e => by rw [World.size_alloc]; exact e)))
          have N1 := Lib.hid (show l1 ++ [x] = lowP a (r.ps.take (k + 1)) by rw [FE.out.1, EL1.out])
          have N2 := Lib.hid (show l2 = highP a (r.ps.take (k + 1)) by rw [FE.out.2, EL2.out])
          clear ho4 hg4 ha4 c0 c1 c2 c3 c4 c5 c6 c7 c8 y1 y2 g1
          go_wp2
          go_roundw
          case rel => exact ⟨_, v2, l1 ++ [x], l2, k + 1, by omega, by go_num, N1.out, N2.out, M6.out⟩
          case measure => simp [intOf]; omega
        · have FE := Lib.hid (LN.out hx)
          have g1 : decide (x.p < a) = false := decide_eq_false hx
          have wx : IntKind.i16.wrap (x.p - a) = x.p - a := IntWalk.i16_in _ (by omega)
          have M2 := Lib.hid (M1.out.nx ((Below.refl W1.heap.size W1).alloc (Nat.le_refl _) (.cells #[.int .i16 (x.p - a), .int .i16 x.b.c, .int .u8 x.b.m0, .int .u8 x.b.m1, .int .u8 x.b.m2, .int .i16 x.b.v, .int .i16 x.b.wi, .int .i16 x.b.hi, .int .i16 x.b.we] 67)))
          clear hx
          go_wp2_with (at_builtin; refine wpList_append_lies _ rfl (.tmp 57) (.tmp 66) _ rfl (g + 2) 67 i0 (.agg #[.int .i16 0, .int .i16 0, .int .u8 0, .int .u8 0, .int .u8 0, .int .i16 0, .int .i16 0, .int .i16 0, .int .i16 0]) 9 16 Tryd.underlying39 hi0 hz0 hz1 hz2 rfl (by decide) _ _ _ rfl M2.out.o2 ⟨W1.heap.size, 0, none⟩ 1 1 [.int .i16 (x.p - a), .int .i16 x.b.c, .int .u8 x.b.m0, .int .u8 x.b.m1, .int .u8 x.b.m2, .int .i16 x.b.v, .int .i16 x.b.wi, .int .i16 x.b.hi, .int .i16 x.b.we] rfl rfl (cell9_new _ _ _ _ _ _ _ _ _ _ _) (one9 (shP (-a) x)) (by decide) (by unfold maxLen; omega) (by omega) (by have := M2.out.x2.lt; omega) _ rfl ?_)
          intro g4 cap w4 ho4 hg4 ha4 hl4
          have x4 := (M2.out.x2.kept hg4 (fun e => by have := (M2.out.o2.lt _ e.symm).1; omega)).c1
          have f4 := (M2.out.x2.kept hg4 (fun e => by have := (M2.out.o2.lt _ e.symm).1; omega)).fz
          have M6 := Lib.hid (M2.out.put2 (l := l2 ++ [shP (-a) x]) hg4 (by rw [plN_snoc, List.length_append]; exact ho4) (ha4.imp id (fun e => by rw [World.size_alloc]; exact e)))
          have N1 := Lib.hid (show l1 = lowP a (r.ps.take (k + 1)) by rw [FE.out.1, EL1.out])
          have N2 := Lib.hid (show l2 ++ [shP (-a) x] = highP a (r.ps.take (k + 1)) by rw [FE.out.2, EL2.out])
          clear ho4 hg4 ha4 c0 c1 c2 c3 c4 c5 c6 c7 c8 y1 y2 g1
          go_wp2
          go_roundw
          case rel => exact ⟨v1, _, l1, l2 ++ [shP (-a) x], k + 1, by omega, by go_num, N1.out, N2.out, M6.out⟩
          case measure => simp [intOf]; omega
      · obtain rfl : k = r.ps.length := by omega
        have F1 := Lib.hid (show l1 = lowP a r.ps by rw [EL1.out, List.take_length])
        have F2 := Lib.hid (show l2 = highP a r.ps by rw [EL2.out, List.take_length])
        obtain ⟨A1, k1, rfl⟩ := ownForm MM.out.o1
        obtain ⟨A2, k2, rfl⟩ := ownForm MM.out.o2
        have M5 := Lib.hid (ResN.of Pl.nine MM.out.o1 rfl)
        have M6 := Lib.hid (ResN.of Pl.nine MM.out.o2 rfl)
        have R1' := Lib.hid (S1.out.below MM.out.bw (by omega))
        have R2' := Lib.hid (S2.out.below MM.out.bw (by omega))
        have x0 := MM.out.x1.c0
        have x1 := MM.out.x1.c1
        have y0 := MM.out.x2.c0
        have y1 := MM.out.x2.c1
        have fz := R1'.out.fz
        have fy := R2'.out.fz
        have b0 := R1'.out.c0
        have b1 := R1'.out.c1
        have c0 := R2'.out.c0
        have c1 := R2'.out.c1
        have hll : ¬ ((r.ps.length : Int) < (r.ps.length : Int)) := by omega
        have x0' : wr.drew.cell? ⟨g, 0, none⟩ = some (.int .i16 a) := x0
        have x1' : wr.drew.cell? ⟨g, 1, none⟩ = some (.slice A1 l1.length k1) := x1
        have y0' : wr.drew.cell? ⟨g + 1, 0, none⟩ = some (.int .i16 (r.n - a)) := y0
        have y1' : wr.drew.cell? ⟨g + 1, 1, none⟩ = some (.slice A2 l2.length k2) := y1
        go_wp2
        go_region_held3 (fun W1 => W1.cell? ⟨g, 0, none⟩ = some (.int .i16 a) ∧ W1.cell? ⟨g, 1, none⟩ = some (.slice A1 l1.length k1) ∧ W1.cell? ⟨g + 1, 0, none⟩ = some (.int .i16 (r.n - a)) ∧ W1.cell? ⟨g + 1, 1, none⟩ = some (.slice A2 l2.length k2)) (first
          | exact ⟨x0', x1', y0', y1'⟩
          | exact ⟨farS x0' (by omega), farS x1' (by omega), farS y0' (by omega), farS y1' (by omega)⟩
          | exact ⟨farS (farS x0' (by omega)) (by omega), farS (farS x1' (by omega)) (by omega), farS (farS y0' (by omega)) (by omega), farS (farS y1' (by omega)) (by omega)⟩) (fail)
        all_goals
          go_wp2
          have PR := kq_both R1'.out R2'.out a (r.n - a) (.slice A1 l1.length k1) (.slice A2 l2.length k2)
          have q0 := PR.1.c0
          have q1 := PR.1.c1
          have q2 := PR.2.c0
          have q3 := PR.2.c1
          have N5 := resN_both (g := w.heap.size + 1) M5.out (by omega) (.int .i16 a) (.int .i16 (r.n - a)) (.slice A1 l1.length k1) (.slice A2 l2.length k2)
          have N6 := resN_both (g := w.heap.size + 1) M6.out (by omega) (.int .i16 a) (.int .i16 (r.n - a)) (.slice A1 l1.length k1) (.slice A2 l2.length k2)
          have N5 := (N5.mono (show w.heap.size ≤ g + 2 by omega)).below ((Below.refl _ _).drew)
          have N6 := (N6.mono (show w.heap.size ≤ g + 2 by omega)).below ((Below.refl _ _).drew)
          have BE := (below_both (B2.out.trans (MM.out.bw.mono (show w.heap.size ≤ g by omega))) (show w.heap.size ≤ w.heap.size + 1 by omega) (.int .i16 a) (.int .i16 (r.n - a)) (.slice A1 l1.length k1) (.slice A2 l2.length k2)).drew
          exact bodyPost_ret (v := .tuple #[.agg #[.int .i16 a, .slice A1 l1.length k1], .agg #[.int .i16 (r.n - a), .slice A2 l2.length k2], .int .i64 0]) (by simp [results, Tryd.results16, go_sem, q0, q1, q2, q3]) rfl (E.out _ _ _ (by rw [← F1.out]; exact N5) (by rw [← F2.out]; exact N6) MM.out.ap BE)
end Go.Proofs.YteeblpdjpaellaaDoor
