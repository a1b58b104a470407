/- JoinRacks, by the model: a contract. Condition: numbers within their kinds, no longer than the law tests; the first list has a block. -/
import Derived.Test.YtgmipobohnagnaaDoorRkJn
import Derived.Test.YtgmipobohnagnaaDoorRkP3
import Derived.Deep.RegionLaw
import Derived.Deep.RegionHeld3
import Derived.OneCell
import Derived.Deep.Cut
import Derived.Deep.CutRange
namespace Go.Proofs.YtgmipobohnagnaaDoor
set_option linter.unusedSimpArgs false
set_option linter.unusedVariables false
set_option maxRecDepth 100000
open Go.RowKit Go.Sort

section
variable {P : Program} {w : World}
theorem step_append_own {ops : Array Oper} {o : Oper} {a : Act} {K : Act → World → Prop} {Q : Exit → Act → World → Prop} {E : Prop} (hgd : o.guard = none) (s x : Operand) (t : TypeId)
    (ho : o.op = .call { callee := .builtin .append, args := #[s, x], argTypes := #[t, t] })
    (base : Nat) (e : TypeId) (i : TypeInfo) (z : Value) (size bytes : Nat) (ht : P.underlying t = some (.slice e)) (hi : P.info? e = some i) (hz : i.zero = some z)
    (hsize : i.size = size) (hby : i.bytes = bytes) (hzs : z.cells.size = size) (hsz : 0 < size)
    (v : Value) (n : Nat) (xs : List Value) (hs : a.eval s = v) (hown : w.ownsRow base e size v n xs)
    (ad : Addr) (m c : Nat) (news : List Value) (hx : a.eval x = .slice (some ad) m c) (hl : news.length = m * size) (hnews : ∀ j u, news[j]? = some u → w.cell? (ad.add j) = some u) (h1 : ∀ u ∈ news, u.oneCell' = true)
    (h63 : n + m ≤ maxLen) (hbytes : (n + m) * bytes ≤ 140737488355328) (hbase : base ≤ w.heap.size)
    (h : ∀ v' w', w'.ownsRow base e size v' (n + m) (xs ++ news) → w.grownBy w' v.ownBlock → K (a.put o.dst v') w') :
    if Region.wanted o (yielded ops a.tmps) = true then Oper.wp P o a w K Q else E := by
  have hw : Region.wanted o (yielded ops a.tmps) = true := by simp [Region.wanted, hgd]
  rw [if_pos hw]
  exact wp_append_own w s x t ho base e i z size bytes ht hi hz hsize hby hzs hsz v n xs hs hown ad m c news hx hl hnews h1 h63 hbytes hbase fun v' w' h2 h3 _ => h v' w' h2 h3
end
theorem plN_len (xs : List Pl) : (flN Pl.cells xs).length = xs.length * 9 := by
  induction xs with
  | nil => rfl
  | cons x t ih =>
    show (x.cells ++ flN Pl.cells t).length = _
    rw [List.length_append, ih, Pl.nine, List.length_cons]
    omega
theorem plN_one (xs : List Pl) : ∀ u ∈ flN Pl.cells xs, u.oneCell' = true := by
  intro u hu
  unfold flN at hu
  rw [List.mem_flatMap] at hu
  obtain ⟨x, _, h⟩ := hu
  simp [Pl.cells] at h
  rcases h with rfl | rfl | rfl | rfl | rfl | rfl | rfl | rfl | rfl <;> rfl
theorem plN_at {w : World} {g o : Nat} {xs : List Pl} (h : AtN Pl.cells w g o xs) (j : Nat) (u : Value) (hj : (flN Pl.cells xs)[j]? = some u) : w.cell? ⟨g, o + j, none⟩ = some u := by
  have hj2 : j < xs.length * 9 := by rw [← plN_len]; exact (List.getElem?_eq_some_iff.1 hj).1
  have e := flN_at (cel := Pl.cells) Pl.nine xs (j / 9) (by omega) (j % 9) (Nat.mod_lt _ (by omega))
  rw [show j / 9 * 9 + j % 9 = j by omega] at e
  have e2 := h (j / 9) (by omega) (j % 9) u (by rw [← e]; exact hj)
  rw [show o + j = o + j / 9 * 9 + j % 9 by omega]
  exact e2
/-- The books of both, the second ones up to k. -/
def jnT (ps qs : List Pl) (a : Int) (k : Nat) : List Pl := ps ++ (shL qs a).take k
theorem jnT_succ {ps qs : List Pl} {a : Int} {k : Nat} (h : k < qs.length) : jnT ps qs a (k + 1) = jnT ps qs a k ++ [⟨a + qs[k].p, qs[k].b⟩] := by
  unfold jnT shL
  rw [List.take_succ_eq_append_getElem (by simpa using h)]
  simp
theorem jnT_len {ps qs : List Pl} {a : Int} {k : Nat} (h : k ≤ qs.length) : (jnT ps qs a k).length = ps.length + k := by
  unfold jnT shL
  rw [List.length_append, List.length_take, List.length_map]
  omega
theorem jnT_all (ps qs : List Pl) (a : Int) : jnT ps qs a qs.length = ps ++ shL qs a := by
  unfold jnT
  rw [List.take_of_length_le (by simp [shL])]
theorem jnB_left {xs ys : List Bk} (h : ¬ 0 < xs.length) : jnB xs ys = false := by unfold jnB; rw [decide_eq_false h]; rfl
theorem jnB_right {xs ys : List Bk} (h : ¬ 0 < ys.length) : jnB xs ys = false := by unfold jnB; rw [decide_eq_false h]; simp
theorem bkj {ys : List Bk} {k : Nat} (h : k < ys.length) : ys.getD k default = ys[k] := by simp [List.getD, List.getElem?_eq_getElem h]
theorem jnB_both {ps qs : List Pl} (h : 0 < ps.length) (h2 : 0 < qs.length) : jnB (bks ps) (bks qs) = decide (usual qs[0].b (ps[ps.length - 1]'(by omega)).b < 0) := by
  have a : 0 < (bks ps).length := by rw [bks_length]; exact h
  have b : 0 < (bks qs).length := by rw [bks_length]; exact h2
  have c : (bks ps).length - 1 < (bks ps).length := by omega
  unfold jnB
  rw [decide_eq_true a, decide_eq_true b, Bool.true_and, Bool.true_and, bkj b, bkj c, bks_get, bks_get]
  simp only [bks_length]


theorem own_emptyN {w : World} (B : Nat) (e : TypeId) (size : Nat) (hB : B ≤ w.heap.size) : (w.alloc (.cells #[] e)).ownsRow B e size (.slice (some ⟨w.heap.size, 0, none⟩) 0 0) 0 [] :=
  ⟨by simp, .inr ⟨w.heap.size, 0, #[], rfl, hB, heap_alloc_new w _, Nat.le_refl _, Nat.zero_le _, by simp, by simp⟩⟩
theorem own_emptyN2 {w : World} (o : Obj) (B : Nat) (e : TypeId) (size : Nat) (hB : B ≤ w.heap.size) : ((w.alloc (.cells #[] e)).alloc o).ownsRow B e size (.slice (some ⟨w.heap.size, 0, none⟩) 0 0) 0 [] :=
  ownBelow (own_emptyN B e size hB) ((Below.refl _ _).alloc (Nat.le_refl _) _)
theorem own_emptyN3 {w : World} (b B : Nat) (e : TypeId) (size : Nat) (hb : b = w.heap.size) (hB : B ≤ w.heap.size) : (w.alloc (.cells #[] e)).ownsRow B e size (.slice (some ⟨b, 0, none⟩) 0 0) 0 [] := by
  subst hb
  exact own_emptyN B e size hB
theorem bAl {a X : World} {o : Obj} {R : Prop} (h : Below a.heap.size a X ∧ R) : Below a.heap.size a (X.alloc o) := h.1.alloc h.1.size o
theorem nb_ty {w : World} {base : Nat} {e t : TypeId} {size n : Nat} {v : Value} {xs : List Value} (h : w.ownsRow base e size v n xs) {p : Nat} {cs : Array Value} {fz : Nat × Nat} (hp : w.heap[p]? = some (.cells cs t fz)) (hne : t ≠ e) : ∀ k, v.ownBlock = some k → k ≠ p := by
  intro k hk hkp
  subst hkp
  rcases h.2 with ⟨rfl, _⟩ | ⟨g, cap, cur, rfl, _, hg, _⟩
  · simp [Value.ownBlock] at hk
  · simp only [Value.ownBlock, Option.some.injEq] at hk
    subst hk
    rw [hp] at hg
    injection hg with hg
    injection hg with _ h2
    exact hne h2
theorem ownLo {w : World} {base base' : Nat} {e : TypeId} {size n : Nat} {v : Value} {xs : List Value} (h : w.ownsRow base e size v n xs) (hb : base' ≤ base) : w.ownsRow base' e size v n xs := by
  obtain ⟨h1, h2⟩ := h
  refine ⟨h1, h2.imp id ?_⟩
  rintro ⟨g, cap, cur, a, b, c⟩
  exact ⟨g, cap, cur, a, Nat.le_trans hb b, c⟩
theorem own_cellJ {w : World} {base : Nat} {e : TypeId} {size n : Nat} {v : Value} {xs : List Value} (h : w.ownsRow base e size v n xs) (g o : Nat) (u : Value) (hne : ∀ k, v.ownBlock = some k → k ≠ g) : (w.setCell ⟨g, o, none⟩ u).ownsRow base e size v n xs :=
  ownsRow_setCell_other h (fun e => hne _ e rfl) u
theorem new9 {w : World} (x : Pl) (t : TypeId) : ∀ (j : Nat) (u : Value), (Pl.cells x)[j]? = some u → (w.alloc (.cells (Pl.cells x).toArray t)).cell? (Addr.add ⟨w.heap.size, 0, none⟩ j) = some u := by
  intro j u h
  rw [Addr.add_lit, Nat.zero_add, cell_of_row _ _ _ _ _ _ (heap_alloc_new w _)]
  simpa using h
theorem al2 (w : World) (a b : Obj) : ((w.alloc a).alloc b).heap[w.heap.size]? = some a ∧ ((w.alloc a).alloc b).heap[w.heap.size + 1]? = some b := by
  constructor
  · rw [Below.heap_alloc _ _ _ (by simp)]
    exact heap_alloc_new w a
  · have := heap_alloc_new (w.alloc a) b
    simpa using this
theorem put2 {W : World} {p : Nat} {t : TypeId} {x y x' y' : Value} (h : W.heap[p]? = some (.cells #[x, y] t (0, 0))) : ((W.setCell ⟨p, 0, none⟩ x').setCell ⟨p, 1, none⟩ y').heap[p]? = some (.cells #[x', y'] t (0, 0)) := by
  have h1 : (W.setCell ⟨p, 0, none⟩ x').heap[p]? = _ := heap_setCell_same _ _ _ _ _ _ h
  have h2 : ((W.setCell ⟨p, 0, none⟩ x').setCell ⟨p, 1, none⟩ y').heap[p]? = _ := heap_setCell_same _ _ _ _ _ _ h1
  rw [h2]
  rfl

set_option maxHeartbeats 16000000 in
theorem specJoinRacks_any (r s : Rk) (ga oa ca : Nat) (hv2 : Value) (wf1 : r.Wf) (wf2 : s.Wf) (w : World) (hs1 : PlsOf w (.slice (some ⟨ga, oa, none⟩) r.ps.length ca) r.ps) (hs2 : PlsOf w hv2 s.ps) (ml1 : r.ps.length ≤ maxLen) (ml2 : s.ps.length ≤ maxLen) :
    Calls Tryd.prog 5 #[.agg #[.int .i16 r.n, .slice (some ⟨ga, oa, none⟩) r.ps.length ca], .agg #[.int .i16 s.n, hv2]] w fun e w' => ∃ u, e = .returned (.tuple #[.agg #[.int .i16 (jnN r s), u], .int .i64 (jnC r s)]) ∧ ResN Pl.cells 45 w' w.heap.size u (jnL r s) ∧ Below w.heap.size w w' := by
  have WF1 := Lib.hid wf1
  have WF2 := Lib.hid wf2
  obtain ⟨A2, k2, rfl, hat2⟩ := hs2
  have hs2 : PlsOf w (.slice A2 s.ps.length k2) s.ps := ⟨_, _, rfl, hat2⟩
  have HS1 := Lib.hid hs1
  have T2 := Lib.hid hat2
  have G0 := Lib.hid (show Below w.heap.size w (((w.alloc (.cells #[.int .i16 r.n, .slice (some ⟨ga, oa, none⟩) r.ps.length ca] 29)).alloc (.cells #[.int .i16 s.n, .slice A2 s.ps.length k2] 29)).alloc (.cells #[.int .i16 0, .slice none 0 0] 29)) by go_grown)
  have a3 : Below ((w.alloc (.cells #[.int .i16 r.n, .slice (some ⟨ga, oa, none⟩) r.ps.length ca] 29)).alloc (.cells #[.int .i16 s.n, .slice A2 s.ps.length k2] 29)).heap.size ((w.alloc (.cells #[.int .i16 r.n, .slice (some ⟨ga, oa, none⟩) r.ps.length ca] 29)).alloc (.cells #[.int .i16 s.n, .slice A2 s.ps.length k2] 29)) (((w.alloc (.cells #[.int .i16 r.n, .slice (some ⟨ga, oa, none⟩) r.ps.length ca] 29)).alloc (.cells #[.int .i16 s.n, .slice A2 s.ps.length k2] 29)).alloc (.cells #[.int .i16 0, .slice none 0 0] 29)) := (Below.refl _ _).alloc (Nat.le_refl _) _
  have a2 : Below (w.alloc (.cells #[.int .i16 r.n, .slice (some ⟨ga, oa, none⟩) r.ps.length ca] 29)).heap.size (w.alloc (.cells #[.int .i16 r.n, .slice (some ⟨ga, oa, none⟩) r.ps.length ca] 29)) ((w.alloc (.cells #[.int .i16 r.n, .slice (some ⟨ga, oa, none⟩) r.ps.length ca] 29)).alloc (.cells #[.int .i16 s.n, .slice A2 s.ps.length k2] 29)) := (Below.refl _ _).alloc (Nat.le_refl _) _
  have a1 : Below w.heap.size w (w.alloc (.cells #[.int .i16 r.n, .slice (some ⟨ga, oa, none⟩) r.ps.length ca] 29)) := (Below.refl _ _).alloc (Nat.le_refl _) _
  have RA := Lib.hid (((RackAt.new 29 hs1).below a2).below a3)
  have rb := (RackAt.new (w := w.alloc (.cells #[.int .i16 r.n, .slice (some ⟨ga, oa, none⟩) r.ps.length ca] 29)) 29 (hs2.below a1)).below a3
  rw [World.size_alloc] at rb
  have RB := Lib.hid rb
  have K0 := Lib.hid (al3 w (.cells #[.int .i16 r.n, .slice (some ⟨ga, oa, none⟩) r.ps.length ca] 29) (.cells #[.int .i16 s.n, .slice A2 s.ps.length k2] 29) (.cells #[.int .i16 0, .slice none 0 0] 29)).2
  have TC := Lib.hid (jn_cases r s)
  obtain ⟨i0, hi0, hz0, hz1, hz2⟩ := info_parts infoPlaced
  clear wf1 wf2 hat2 a1 a2 a3 rb hs1 hs2
  go_enter Tryd.func5, Tryd.ntmps5
  go_wp2_with fail
  generalize ((w.alloc _).alloc _).alloc _ = w0 at RA RB G0 K0 ⊢
  have z0 : w.heap.size + 1 + 1 < w0.heap.size := (Array.getElem?_eq_some_iff.1 K0.out).1
  refine (l05Ok_any r _ WF1.out _ _ _ RA.out ml1).mono ?_
  rintro e w1 ⟨rfl, g1⟩
  have B1 := Lib.hid (bnext G0.out g1)
  have RA1 := Lib.hid (RA.out.below g1)
  have RB1 := Lib.hid (RB.out.below g1)
  have R1 := Lib.hid ((g1.block _ z0).trans K0.out)
  have z1 : w.heap.size + 1 + 1 < w1.heap.size := Nat.lt_of_lt_of_le z0 g1.size
  clear g1
  rcases TC.out with ⟨hk, e1, e2, e3⟩ | ⟨hk, hk2, e1, e2, e3⟩ | ⟨hk, hk2, hj, e1, e2, e3⟩ | ⟨hk, hk2, hj, hl, e1, e2, e3⟩ | ⟨hk, hk2, hj, hl, e1, e2, e3⟩
  · have E := Lib.hid (And.intro e1 (And.intro e2 e3))
    rw [hk]
    clear e1 e2 e3 hk
    have b0 := cell_of_row w1 _ 0 _ _ _ R1.out
    have b1 := cell_of_row w1 _ 1 _ _ _ R1.out
    have fz := fun j => frozen_of_row w1 _ j _ _ R1.out
    simp only [List.getElem?_toArray, List.getElem?_cons_zero, List.getElem?_cons_succ] at b0 b1
    go_wp2
    refine bodyPost_ret (v := .tuple #[.agg #[.int .i16 0, .slice none 0 0], .int .i64 1]) (by simp [results, Tryd.results5, go_sem, b0, b1]) rfl ?_
    refine ⟨.slice none 0 0, by rw [E.out.1, E.out.2.2], by rw [E.out.2.1]; exact ResN.nil _ _ _, ?_⟩
    repeat (refine Below.setCell ?_ (by first | (simp; done) | (simp; omega) | omega) _)
    exact B1.out
  all_goals
    have E := Lib.hid (And.intro e1 (And.intro e2 e3))
    rw [hk]
    clear e1 e2 e3
    go_wp2_with fail
    refine (l05Ok_any s _ WF2.out _ _ _ RB1.out ml2).mono ?_
    rintro e w2 ⟨rfl, g2⟩
    have B2 := Lib.hid (bnext B1.out g2)
    have RA2 := Lib.hid (RA1.out.below g2)
    have RB2 := Lib.hid (RB1.out.below g2)
    have R2 := Lib.hid ((g2.block _ z1).trans R1.out)
    have z2 : w.heap.size + 1 + 1 < w2.heap.size := Nat.lt_of_lt_of_le z1 g2.size
    clear g2
    rw [hk2]
  · clear hk hk2
    have b0 := cell_of_row w2 _ 0 _ _ _ R2.out
    have b1 := cell_of_row w2 _ 1 _ _ _ R2.out
    have fz := fun j => frozen_of_row w2 _ j _ _ R2.out
    simp only [List.getElem?_toArray, List.getElem?_cons_zero, List.getElem?_cons_succ] at b0 b1
    go_wp2
    refine bodyPost_ret (v := .tuple #[.agg #[.int .i16 0, .slice none 0 0], .int .i64 1]) (by simp [results, Tryd.results5, go_sem, b0, b1]) rfl ?_
    refine ⟨.slice none 0 0, by rw [E.out.1, E.out.2.2], by rw [E.out.2.1]; exact ResN.nil _ _ _, ?_⟩
    repeat (refine Below.setCell ?_ (by first | (simp; done) | (simp; omega) | omega) _)
    exact B2.out
  · have n1 := rkB_len hk
    have n2 := rkB_len hk2
    obtain ⟨⟨rn1, rn2⟩, PA, -, -⟩ := rkB_of hk
    obtain ⟨⟨sn1, sn2⟩, PB, -, -⟩ := rkB_of hk2
    have PA := Lib.hid PA
    have PB := Lib.hid PB
    clear hk hk2
    have zA : w.heap.size < w2.heap.size := by omega
    have zB : w.heap.size + 1 < w2.heap.size := by omega
    have ca1 := belowBy_cell zA RA2.out.h
    have cb1 := belowBy_cell zB RB2.out.h
    rw [Nat.zero_add] at ca1 cb1
    have hcase : (r.ps.length = 0 ∧ jnB (bks r.ps) (bks s.ps) = false) ∨ (0 < r.ps.length ∧ s.ps.length = 0 ∧ jnB (bks r.ps) (bks s.ps) = false) ∨ ∃ (h : 0 < r.ps.length) (h2 : 0 < s.ps.length), jnB (bks r.ps) (bks s.ps) = decide (usual s.ps[0].b (r.ps[r.ps.length - 1]'(by omega)).b < 0) := by
      by_cases h : 0 < r.ps.length
      · by_cases h2 : 0 < s.ps.length
        · exact .inr (.inr ⟨h, h2, jnB_both h h2⟩)
        · exact .inr (.inl ⟨h, by omega, jnB_right (by rw [bks_length]; exact h2)⟩)
      · exact .inl ⟨by omega, jnB_left (by rw [bks_length]; exact h)⟩
    rcases hcase with ⟨h1, hJ⟩ | ⟨h1, h2, hJ⟩ | ⟨h1, h2, hJ⟩
    case' inl =>
      rw [hj] at hJ
      first
        | (cases hJ; done)
        | (clear hJ
           have d1 : decide ((0 : Int) < (r.ps.length : Int)) = false := decide_eq_false (by omega)
           have d2 : ¬ (0 : Int) < (r.ps.length : Int) := by omega
           have d3 : decide (0 < r.ps.length) = false := decide_eq_false (by omega)
           have d4 : ¬ 0 < r.ps.length := by omega
           clear h1
           go_wp2
           refine wp_region_below (by kernel_rfl) (by kernel_rfl) ?_
           repeat (first | go_big_quiet_step (fail) | quiet_step (fail))
           refine wpQuiet_nil ?_
           rintro w3 ⟨⟨_, g3⟩, rfl⟩
           clear d1 d2 d3 d4)
    case' inr.inl =>
      rw [hj] at hJ
      first
        | (cases hJ; done)
        | (clear hJ
           have d1 : decide ((0 : Int) < (r.ps.length : Int)) = true := decide_eq_true (by omega)
           have d2 : (0 : Int) < (r.ps.length : Int) := by omega
           have d3 : decide (0 < r.ps.length) = true := decide_eq_true (by omega)
           have d5 : decide ((0 : Int) < (s.ps.length : Int)) = false := decide_eq_false (by omega)
           have d6 : ¬ (0 : Int) < (s.ps.length : Int) := by omega
           have d7 : decide (0 < s.ps.length) = false := decide_eq_false (by omega)
           have d8 : ¬ 0 < s.ps.length := by omega
           clear h2
           go_wp2
           refine wp_region_below (by kernel_rfl) (by kernel_rfl) ?_
           repeat (first | go_big_quiet_step (fail) | quiet_step (fail))
           refine wpQuiet_nil ?_
           rintro w3 ⟨⟨_, g3⟩, rfl⟩
           clear h1 d1 d2 d3 d5 d6 d7 d8)
    case' inr.inr =>
      have d1 : decide ((0 : Int) < (r.ps.length : Int)) = true := decide_eq_true (by omega)
      have d2 : (0 : Int) < (r.ps.length : Int) := by omega
      have d3 : decide (0 < r.ps.length) = true := decide_eq_true (by omega)
      have d5 : decide ((0 : Int) < (s.ps.length : Int)) = true := decide_eq_true (by omega)
      have d6 : (0 : Int) < (s.ps.length : Int) := by omega
      have d7 : decide (0 < s.ps.length) = true := decide_eq_true (by omega)
      obtain ⟨m, hm⟩ : ∃ m, r.ps.length = m + 1 := ⟨r.ps.length - 1, by omega⟩
      have hml : m < r.ps.length := by omega
      have em : r.ps.length - 1 = m := by omega
      have n3 : IntKind.i64.wrap ((r.ps.length : Int) - 1) = (m : Int) := by rw [show (r.ps.length : Int) - 1 = (m : Int) by omega]; exact IntWalk.i64_in _ (by omega)
      have n4 : (r.ps.length : Int) - 1 = (m : Int) := by omega
      have m0 : (0 : Int) ≤ (m : Int) := by omega
      have m1 : (m : Int) < (r.ps.length : Int) := by omega
      obtain ⟨A', c', ee, hf⟩ := HS1.out
      obtain ⟨ga', oa', hga', hzga, hata⟩ := hf h1
      obtain ⟨gb, ob, rfl, hzgb, hatb⟩ := T2.out h2
      obtain ⟨rfl, rfl⟩ : ga = ga' ∧ oa = oa' := by injection ee with q q' q''; rw [hga'] at q; injection q with q; injection q with q1 q2; exact ⟨q1, q2⟩
      have AA := Lib.hid (hata.below B2.out hzga)
      have AB := Lib.hid (hatb.below B2.out hzgb)
      have zga2 := Nat.lt_of_lt_of_le hzga B2.out.size
      have zgb2 := Nat.lt_of_lt_of_le hzgb B2.out.size
      have BA := Lib.hid (plBk AA.out zga2 hml)
      have BB := Lib.hid (plBk AB.out zgb2 h2)
      have W1 := Lib.hid (WF1.out.ps _ (List.getElem_mem hml)).b
      have W2 := Lib.hid (WF2.out.ps _ (List.getElem_mem h2)).b
      have HU := Lib.hid (fun (p : BelowBy w2) => l01Usual_any s.ps[0].b r.ps[m].b W2.out W1.out gb (ob + 0 * 9 + 1) ga (oa + m * 9 + 1) p.W (BB.out.next p.h) (BA.out.next p.h))
      rw [Nat.zero_mul, Nat.add_zero] at HU
      simp only [em] at hJ
      rw [hj] at hJ
      clear hm hata hatb hga' ee hf
      generalize usual s.ps[0].b r.ps[m].b = z at HU hJ
      have hz3 : decide (z < 0) = true := hJ.symm
      clear hJ em
      have hz4 : z < 0 := by simpa using hz3
      go_wp2
      refine wp_region_below (by kernel_rfl) (by kernel_rfl) ?_
      repeat (first | go_big_quiet_step ((go_at_call 13; exact calls_below (HU.out _))) | quiet_step ((go_at_call 13; exact calls_below (HU.out _))))
      refine wpQuiet_nil ?_
      rintro w3 ⟨⟨_, g3⟩, rfl⟩
      clear d1 d2 d3 d5 d6 d7 n3 n4 m0 m1 h1 h2 hz3 hz4 HU BA BB W1 W2
    all_goals
      have B3 := Lib.hid (bnext B2.out g3)
      have RA3 := Lib.hid (RA2.out.below g3)
      have RB3 := Lib.hid (RB2.out.below g3)
      have R3 := Lib.hid ((g3.block _ z2).trans R2.out)
      have z3 : w.heap.size + 1 + 1 < w3.heap.size := Nat.lt_of_lt_of_le z2 g3.size
      clear g3 ca1 cb1
      have b0 := cell_of_row w3 _ 0 _ _ _ R3.out
      have b1 := cell_of_row w3 _ 1 _ _ _ R3.out
      have fz := fun j => frozen_of_row w3 _ j _ _ R3.out
      simp only [List.getElem?_toArray, List.getElem?_cons_zero, List.getElem?_cons_succ] at b0 b1
      go_wp2
      refine bodyPost_ret (v := .tuple #[.agg #[.int .i16 0, .slice none 0 0], .int .i64 4]) (by simp [results, Tryd.results5, go_sem, b0, b1]) rfl ?_
      refine ⟨.slice none 0 0, by rw [E.out.1, E.out.2.2], by rw [E.out.2.1]; exact ResN.nil _ _ _, ?_⟩
      repeat (refine Below.setCell ?_ (by first | (simp; done) | (simp; omega) | omega) _)
      exact B3.out
  · have n1 := rkB_len hk
    have n2 := rkB_len hk2
    obtain ⟨⟨rn1, rn2⟩, PA, -, -⟩ := rkB_of hk
    obtain ⟨⟨sn1, sn2⟩, PB, -, -⟩ := rkB_of hk2
    have PA := Lib.hid PA
    have PB := Lib.hid PB
    clear hk hk2
    have zA : w.heap.size < w2.heap.size := by omega
    have zB : w.heap.size + 1 < w2.heap.size := by omega
    have ca1 := belowBy_cell zA RA2.out.h
    have cb1 := belowBy_cell zB RB2.out.h
    rw [Nat.zero_add] at ca1 cb1
    have hcase : (r.ps.length = 0 ∧ jnB (bks r.ps) (bks s.ps) = false) ∨ (0 < r.ps.length ∧ s.ps.length = 0 ∧ jnB (bks r.ps) (bks s.ps) = false) ∨ ∃ (h : 0 < r.ps.length) (h2 : 0 < s.ps.length), jnB (bks r.ps) (bks s.ps) = decide (usual s.ps[0].b (r.ps[r.ps.length - 1]'(by omega)).b < 0) := by
      by_cases h : 0 < r.ps.length
      · by_cases h2 : 0 < s.ps.length
        · exact .inr (.inr ⟨h, h2, jnB_both h h2⟩)
        · exact .inr (.inl ⟨h, by omega, jnB_right (by rw [bks_length]; exact h2)⟩)
      · exact .inl ⟨by omega, jnB_left (by rw [bks_length]; exact h)⟩
    rcases hcase with ⟨h1, hJ⟩ | ⟨h1, h2, hJ⟩ | ⟨h1, h2, hJ⟩
    case' inl =>
      rw [hj] at hJ
      first
        | (cases hJ; done)
        | (clear hJ
           have d1 : decide ((0 : Int) < (r.ps.length : Int)) = false := decide_eq_false (by omega)
           have d2 : ¬ (0 : Int) < (r.ps.length : Int) := by omega
           have d3 : decide (0 < r.ps.length) = false := decide_eq_false (by omega)
           have d4 : ¬ 0 < r.ps.length := by omega
           clear h1
           go_wp2
           refine wp_region_below (by kernel_rfl) (by kernel_rfl) ?_
           repeat (first | go_big_quiet_step (fail) | quiet_step (fail))
           refine wpQuiet_nil ?_
           rintro w3 ⟨⟨_, g3⟩, rfl⟩
           clear d1 d2 d3 d4)
    case' inr.inl =>
      rw [hj] at hJ
      first
        | (cases hJ; done)
        | (clear hJ
           have d1 : decide ((0 : Int) < (r.ps.length : Int)) = true := decide_eq_true (by omega)
           have d2 : (0 : Int) < (r.ps.length : Int) := by omega
           have d3 : decide (0 < r.ps.length) = true := decide_eq_true (by omega)
           have d5 : decide ((0 : Int) < (s.ps.length : Int)) = false := decide_eq_false (by omega)
           have d6 : ¬ (0 : Int) < (s.ps.length : Int) := by omega
           have d7 : decide (0 < s.ps.length) = false := decide_eq_false (by omega)
           have d8 : ¬ 0 < s.ps.length := by omega
           clear h2
           go_wp2
           refine wp_region_below (by kernel_rfl) (by kernel_rfl) ?_
           repeat (first | go_big_quiet_step (fail) | quiet_step (fail))
           refine wpQuiet_nil ?_
           rintro w3 ⟨⟨_, g3⟩, rfl⟩
           clear h1 d1 d2 d3 d5 d6 d7 d8)
    case' inr.inr =>
      have d1 : decide ((0 : Int) < (r.ps.length : Int)) = true := decide_eq_true (by omega)
      have d2 : (0 : Int) < (r.ps.length : Int) := by omega
      have d3 : decide (0 < r.ps.length) = true := decide_eq_true (by omega)
      have d5 : decide ((0 : Int) < (s.ps.length : Int)) = true := decide_eq_true (by omega)
      have d6 : (0 : Int) < (s.ps.length : Int) := by omega
      have d7 : decide (0 < s.ps.length) = true := decide_eq_true (by omega)
      obtain ⟨m, hm⟩ : ∃ m, r.ps.length = m + 1 := ⟨r.ps.length - 1, by omega⟩
      have hml : m < r.ps.length := by omega
      have em : r.ps.length - 1 = m := by omega
      have n3 : IntKind.i64.wrap ((r.ps.length : Int) - 1) = (m : Int) := by rw [show (r.ps.length : Int) - 1 = (m : Int) by omega]; exact IntWalk.i64_in _ (by omega)
      have n4 : (r.ps.length : Int) - 1 = (m : Int) := by omega
      have m0 : (0 : Int) ≤ (m : Int) := by omega
      have m1 : (m : Int) < (r.ps.length : Int) := by omega
      obtain ⟨A', c', ee, hf⟩ := HS1.out
      obtain ⟨ga', oa', hga', hzga, hata⟩ := hf h1
      obtain ⟨gb, ob, rfl, hzgb, hatb⟩ := T2.out h2
      obtain ⟨rfl, rfl⟩ : ga = ga' ∧ oa = oa' := by injection ee with q q' q''; rw [hga'] at q; injection q with q; injection q with q1 q2; exact ⟨q1, q2⟩
      have AA := Lib.hid (hata.below B2.out hzga)
      have AB := Lib.hid (hatb.below B2.out hzgb)
      have zga2 := Nat.lt_of_lt_of_le hzga B2.out.size
      have zgb2 := Nat.lt_of_lt_of_le hzgb B2.out.size
      have BA := Lib.hid (plBk AA.out zga2 hml)
      have BB := Lib.hid (plBk AB.out zgb2 h2)
      have W1 := Lib.hid (WF1.out.ps _ (List.getElem_mem hml)).b
      have W2 := Lib.hid (WF2.out.ps _ (List.getElem_mem h2)).b
      have HU := Lib.hid (fun (p : BelowBy w2) => l01Usual_any s.ps[0].b r.ps[m].b W2.out W1.out gb (ob + 0 * 9 + 1) ga (oa + m * 9 + 1) p.W (BB.out.next p.h) (BA.out.next p.h))
      rw [Nat.zero_mul, Nat.add_zero] at HU
      simp only [em] at hJ
      rw [hj] at hJ
      clear hm hata hatb hga' ee hf
      generalize usual s.ps[0].b r.ps[m].b = z at HU hJ
      have hz3 : decide (z < 0) = false := hJ.symm
      clear hJ em
      have hz4 : 0 ≤ z := by simpa using hz3
      go_wp2
      refine wp_region_below (by kernel_rfl) (by kernel_rfl) ?_
      repeat (first | go_big_quiet_step ((go_at_call 13; exact calls_below (HU.out _))) | quiet_step ((go_at_call 13; exact calls_below (HU.out _))))
      refine wpQuiet_nil ?_
      rintro w3 ⟨⟨_, g3⟩, rfl⟩
      clear d1 d2 d3 d5 d6 d7 n3 n4 m0 m1 h1 h2 hz3 hz4 HU BA BB W1 W2
    all_goals
      have B3 := Lib.hid (bnext B2.out g3)
      have RA3 := Lib.hid (RA2.out.below g3)
      have RB3 := Lib.hid (RB2.out.below g3)
      have R3 := Lib.hid ((g3.block _ z2).trans R2.out)
      have z3 : w.heap.size + 1 + 1 < w3.heap.size := Nat.lt_of_lt_of_le z2 g3.size
      clear g3 ca1 cb1
      have ca0 := RA3.out.n
      have cb0 := RB3.out.n
      have sm : IntKind.i64.wrap (r.n + s.n) = r.n + s.n := IntWalk.i64_in _ (by omega)
      obtain ⟨bn1, bn2⟩ := WF1.out.n
      obtain ⟨bm1, bm2⟩ := WF2.out.n
      have hl' : (60 : Int) < r.n + s.n := by omega
      clear hl
      have b0 := cell_of_row w3 _ 0 _ _ _ R3.out
      have b1 := cell_of_row w3 _ 1 _ _ _ R3.out
      have fz := fun j => frozen_of_row w3 _ j _ _ R3.out
      simp only [List.getElem?_toArray, List.getElem?_cons_zero, List.getElem?_cons_succ] at b0 b1
      go_wp2
      refine bodyPost_ret (v := .tuple #[.agg #[.int .i16 0, .slice none 0 0], .int .i64 3]) (by simp [results, Tryd.results5, go_sem, b0, b1]) rfl ?_
      refine ⟨.slice none 0 0, by rw [E.out.1, E.out.2.2], by rw [E.out.2.1]; exact ResN.nil _ _ _, ?_⟩
      repeat (refine Below.setCell ?_ (by first | (simp; done) | (simp; omega) | omega) _)
      exact B3.out
  · have n1 := rkB_len hk
    have n2 := rkB_len hk2
    obtain ⟨⟨rn1, rn2⟩, PA, -, -⟩ := rkB_of hk
    obtain ⟨⟨sn1, sn2⟩, PB, -, -⟩ := rkB_of hk2
    have PA := Lib.hid PA
    have PB := Lib.hid PB
    clear hk hk2
    have zA : w.heap.size < w2.heap.size := by omega
    have zB : w.heap.size + 1 < w2.heap.size := by omega
    have ca1 := belowBy_cell zA RA2.out.h
    have cb1 := belowBy_cell zB RB2.out.h
    rw [Nat.zero_add] at ca1 cb1
    have hcase : (r.ps.length = 0 ∧ jnB (bks r.ps) (bks s.ps) = false) ∨ (0 < r.ps.length ∧ s.ps.length = 0 ∧ jnB (bks r.ps) (bks s.ps) = false) ∨ ∃ (h : 0 < r.ps.length) (h2 : 0 < s.ps.length), jnB (bks r.ps) (bks s.ps) = decide (usual s.ps[0].b (r.ps[r.ps.length - 1]'(by omega)).b < 0) := by
      by_cases h : 0 < r.ps.length
      · by_cases h2 : 0 < s.ps.length
        · exact .inr (.inr ⟨h, h2, jnB_both h h2⟩)
        · exact .inr (.inl ⟨h, by omega, jnB_right (by rw [bks_length]; exact h2)⟩)
      · exact .inl ⟨by omega, jnB_left (by rw [bks_length]; exact h)⟩
    go_wp2
    go_cut [40] from 15 to 40 (fun s40 wx => s40 = .bool false ∧ Below w2.heap.size w2 wx)
    case first =>
      rcases hcase with ⟨h1, hJ⟩ | ⟨h1, h2, hJ⟩ | ⟨h1, h2, hJ⟩
      case' inl =>
        rw [hj] at hJ
        first
          | (cases hJ; done)
          | (clear hJ
             have d1 : decide ((0 : Int) < (r.ps.length : Int)) = false := decide_eq_false (by omega)
             have d2 : ¬ (0 : Int) < (r.ps.length : Int) := by omega
             have d3 : decide (0 < r.ps.length) = false := decide_eq_false (by omega)
             have d4 : ¬ 0 < r.ps.length := by omega
             clear h1
             refine wp_region_below (by kernel_rfl) (by kernel_rfl) ?_
             repeat (first | go_big_quiet_step (fail) | quiet_step (fail))
             refine wpQuiet_nil ?_
             rintro w3 ⟨⟨_, g3⟩, rfl⟩
             go_wp2_with fail
             go_meet
             exact ⟨rfl, g3⟩)
      case' inr.inl =>
        rw [hj] at hJ
        first
          | (cases hJ; done)
          | (clear hJ
             have d1 : decide ((0 : Int) < (r.ps.length : Int)) = true := decide_eq_true (by omega)
             have d2 : (0 : Int) < (r.ps.length : Int) := by omega
             have d3 : decide (0 < r.ps.length) = true := decide_eq_true (by omega)
             have d5 : decide ((0 : Int) < (s.ps.length : Int)) = false := decide_eq_false (by omega)
             have d6 : ¬ (0 : Int) < (s.ps.length : Int) := by omega
             have d7 : decide (0 < s.ps.length) = false := decide_eq_false (by omega)
             have d8 : ¬ 0 < s.ps.length := by omega
             clear h2
             refine wp_region_below (by kernel_rfl) (by kernel_rfl) ?_
             repeat (first | go_big_quiet_step (fail) | quiet_step (fail))
             refine wpQuiet_nil ?_
             rintro w3 ⟨⟨_, g3⟩, rfl⟩
             go_wp2_with fail
             go_meet
             exact ⟨rfl, g3⟩)
      case' inr.inr =>
        have d1 : decide ((0 : Int) < (r.ps.length : Int)) = true := decide_eq_true (by omega)
        have d2 : (0 : Int) < (r.ps.length : Int) := by omega
        have d3 : decide (0 < r.ps.length) = true := decide_eq_true (by omega)
        have d5 : decide ((0 : Int) < (s.ps.length : Int)) = true := decide_eq_true (by omega)
        have d6 : (0 : Int) < (s.ps.length : Int) := by omega
        have d7 : decide (0 < s.ps.length) = true := decide_eq_true (by omega)
        obtain ⟨m, hm⟩ : ∃ m, r.ps.length = m + 1 := ⟨r.ps.length - 1, by omega⟩
        have hml : m < r.ps.length := by omega
        have em : r.ps.length - 1 = m := by omega
        have n3 : IntKind.i64.wrap ((r.ps.length : Int) - 1) = (m : Int) := by rw [show (r.ps.length : Int) - 1 = (m : Int) by omega]; exact IntWalk.i64_in _ (by omega)
        have n4 : (r.ps.length : Int) - 1 = (m : Int) := by omega
        have m0 : (0 : Int) ≤ (m : Int) := by omega
        have m1 : (m : Int) < (r.ps.length : Int) := by omega
        obtain ⟨A', c', ee, hf⟩ := HS1.out
        obtain ⟨ga', oa', hga', hzga, hata⟩ := hf h1
        obtain ⟨gb, ob, rfl, hzgb, hatb⟩ := T2.out h2
        obtain ⟨rfl, rfl⟩ : ga = ga' ∧ oa = oa' := by injection ee with q q' q''; rw [hga'] at q; injection q with q; injection q with q1 q2; exact ⟨q1, q2⟩
        have AA := Lib.hid (hata.below B2.out hzga)
        have AB := Lib.hid (hatb.below B2.out hzgb)
        have zga2 := Nat.lt_of_lt_of_le hzga B2.out.size
        have zgb2 := Nat.lt_of_lt_of_le hzgb B2.out.size
        have BA := Lib.hid (plBk AA.out zga2 hml)
        have BB := Lib.hid (plBk AB.out zgb2 h2)
        have W1 := Lib.hid (WF1.out.ps _ (List.getElem_mem hml)).b
        have W2 := Lib.hid (WF2.out.ps _ (List.getElem_mem h2)).b
        have HU := Lib.hid (fun (p : BelowBy w2) => l01Usual_any s.ps[0].b r.ps[m].b W2.out W1.out gb (ob + 0 * 9 + 1) ga (oa + m * 9 + 1) p.W (BB.out.next p.h) (BA.out.next p.h))
        rw [Nat.zero_mul, Nat.add_zero] at HU
        simp only [em] at hJ
        rw [hj] at hJ
        clear hm hata hatb hga' ee hf
        generalize usual s.ps[0].b r.ps[m].b = z at HU hJ
        have hz3 : decide (z < 0) = false := hJ.symm
        clear hJ em
        have hz4 : 0 ≤ z := by simpa using hz3
        refine wp_region_below (by kernel_rfl) (by kernel_rfl) ?_
        repeat (first | go_big_quiet_step ((go_at_call 13; exact calls_below (HU.out _))) | quiet_step ((go_at_call 13; exact calls_below (HU.out _))))
        refine wpQuiet_nil ?_
        rintro w3 ⟨⟨_, g3⟩, rfl⟩
        go_wp2_with fail
        go_meet
        exact ⟨rfl, g3⟩
    case rest =>
      obtain ⟨w3, rfl⟩ : ∃ x, x = wc := ⟨_, rfl⟩
      obtain ⟨rfl, g3⟩ := hcut
      have B3 := Lib.hid (bnext B2.out g3)
      have RA3 := Lib.hid (RA2.out.below g3)
      have RB3 := Lib.hid (RB2.out.below g3)
      have R3 := Lib.hid ((g3.block _ z2).trans R2.out)
      have z3 : w.heap.size + 1 + 1 < w3.heap.size := Nat.lt_of_lt_of_le z2 g3.size
      clear g3 ca1 cb1
      have ca0 := RA3.out.n
      have cb0 := RB3.out.n
      have sm : IntKind.i64.wrap (r.n + s.n) = r.n + s.n := IntWalk.i64_in _ (by omega)
      obtain ⟨bn1, bn2⟩ := WF1.out.n
      obtain ⟨bm1, bm2⟩ := WF2.out.n
      have hl' : ¬ (60 : Int) < r.n + s.n := by omega
      have EL := Lib.hid (show jnL r s = r.ps ++ shL s.ps r.n from E.out.2.1)
      have w16 : IntKind.i16.wrap (r.n + s.n) = r.n + s.n := IntWalk.i16_in _ (by omega)
      have ca1 := RA3.out.h
      rw [Nat.zero_add] at ca1
      obtain ⟨A', c', ee, hf⟩ := HS1.out
      have NEW := Lib.hid (fun (X : World) (hX : Below w3.heap.size w3 X) => show ∀ (j : Nat) (u : Value), (flN Pl.cells r.ps)[j]? = some u → X.cell? (Addr.add ⟨ga, oa, none⟩ j) = some u from fun j u hj => by
        have hl0 : 0 < r.ps.length := by
          have : j < (flN Pl.cells r.ps).length := (List.getElem?_eq_some_iff.1 hj).1
          rw [plN_len] at this
          omega
        obtain ⟨ga', oa', hga', hzga, hata⟩ := hf hl0
        obtain ⟨rfl, rfl⟩ : ga = ga' ∧ oa = oa' := by injection ee with q q' q''; rw [hga'] at q; injection q with q; injection q with q1 q2; exact ⟨q1, q2⟩
        rw [Addr.add_lit]
        have z := Nat.lt_of_lt_of_le hzga B3.out.size
        exact (hX.cell (p := ⟨ga, oa + j, none⟩) z).trans (plN_at (hata.below B3.out hzga) j u hj))
      clear ee hf
      have zA3 : w.heap.size < w3.heap.size := by omega
      have zB3 : w.heap.size + 1 < w3.heap.size := by omega
      have HK := Lib.hid (show ∀ X : World, Below w3.heap.size w3 X → (Below w3.heap.size w3 X ∧ X.cell? ⟨w.heap.size, 0, none⟩ = some (.int .i16 r.n) ∧ X.cell? ⟨w.heap.size, 1, none⟩ = some (.slice (some ⟨ga, oa, none⟩) r.ps.length ca) ∧ X.cell? ⟨w.heap.size + 1, 0, none⟩ = some (.int .i16 s.n)) from fun X hX => ⟨hX, (hX.cell (p := ⟨w.heap.size, 0, none⟩) zA3).trans ca0, (hX.cell (p := ⟨w.heap.size, 1, none⟩) zA3).trans ca1, (hX.cell (p := ⟨w.heap.size + 1, 0, none⟩) zB3).trans cb0⟩)
      have b0 : Below w3.heap.size w3 w3.drew := (Below.refl _ _).drew
      clear hl
      go_wp2
      go_cut [6] from 6 to 60 (fun s6 wx => ∃ (p : Nat) (u : Value), s6 = .pointer (some ⟨p, 0, none⟩) ∧ w3.heap.size ≤ p ∧ wx.heap[p]? = some (.cells #[.int .i16 (r.n + s.n), u] 29) ∧ wx.ownsRow w3.heap.size 45 9 u (r.ps.length + 0) (flN Pl.cells (jnT r.ps s.ps r.n 0)) ∧ Below w3.heap.size w3 wx)
      case first =>
        go_region_held3 (fun (X : World) => Below w3.heap.size w3 X ∧ X.cell? ⟨w.heap.size, 0, none⟩ = some (.int .i16 r.n) ∧ X.cell? ⟨w.heap.size, 1, none⟩ = some (.slice (some ⟨ga, oa, none⟩) r.ps.length ca) ∧ X.cell? ⟨w.heap.size + 1, 0, none⟩ = some (.int .i16 s.n)) (first | assumption | exact HK.out _ b0 | exact HK.out _ BGv | exact HK.out _ (BGv.alloc BGv.size _) | exact HK.out _ ((BGv.setCell (by first | exact Nat.le_refl _ | (simp; done)) _).setCell (by first | exact Nat.le_refl _ | (simp; done)) _) | exact HK.out _ (bAl (by assumption))) (first
          | (refine step_append_own (by rfl) (.tmp 56) (.tmp 58) _ (by rfl) w3.heap.size 45 i0 (.agg #[.int .i16 0, .int .i16 0, .int .u8 0, .int .u8 0, .int .u8 0, .int .i16 0, .int .i16 0, .int .i16 0, .int .i16 0]) 9 16 Tryd.underlying27 hi0 hz0 hz1 hz2 rfl (by decide) _ _ _ (by rfl) (by first | exact own_emptyN _ _ _ (by first | exact Nat.le_refl _ | (simp; done)) | exact own_emptyN2 _ _ _ _ (by first | exact Nat.le_refl _ | (simp; done)) | exact own_emptyN3 _ _ _ _ (by simp) (by first | (simp; done) | (simp; omega))) ⟨ga, oa, none⟩ r.ps.length ca (flN Pl.cells r.ps) (by rfl) (plN_len _) (NEW.out _ (And.left (by assumption))) (plN_one _) (by unfold maxLen; omega) (by omega) (by first | (simp; done) | (simp; omega)) ?_
             intro v4 w4 ho4 hg4
             obtain ⟨A4, c4, rfl⟩ := ownForm ho4
             have OV := Lib.hid ho4
             have GV := Lib.hid hg4
             first
             | (have G5 : World.grownBy _ w4 (some w3.heap.size) := hg4
                have BGv : Below w3.heap.size w3 w4 := Below.grown (And.left (by assumption)) G5 (by first | (simp; done) | (simp; omega)) (fun k hk => by injection hk with hk; omega)
                clear G5)
             | (have G5 : World.grownBy _ w4 (some (w3.heap.size + 1)) := hg4
                have BGv : Below w3.heap.size w3 w4 := Below.grown (And.left (by assumption)) G5 (by first | (simp; done) | (simp; omega)) (fun k hk => by injection hk with hk; omega)
                clear G5)
             first
             | (have G4 : World.grownBy _ w4 (some (w3.heap.size + 1)) := hg4
                have XV := Lib.hid ((G4.block w3.heap.size (by simp; omega) (fun e => by injection e with e; omega)).trans (al2 _ _ _).1)
                clear G4
                have q0 := cell_of_row w4 _ 0 _ _ _ XV.out
                have q1 := cell_of_row w4 _ 1 _ _ _ XV.out
                have qf := fun j => frozen_of_row w4 _ j _ _ XV.out
                simp only [List.getElem?_toArray, List.getElem?_cons_zero, List.getElem?_cons_succ] at q0 q1)
             | (have G4 : World.grownBy _ w4 (some w3.heap.size) := hg4
                have XV := Lib.hid ((G4.block (w3.heap.size + 1) (by simp) (fun e => by injection e with e; omega)).trans (al2 _ _ _).2)
                clear G4
                have q0 := cell_of_row w4 _ 0 _ _ _ XV.out
                have q1 := cell_of_row w4 _ 1 _ _ _ XV.out
                have qf := fun j => frozen_of_row w4 _ j _ _ XV.out
                simp only [List.getElem?_toArray, List.getElem?_cons_zero, List.getElem?_cons_succ] at q0 q1)
             | skip
             clear ho4 hg4))
        all_goals
          have J0 := Lib.hid (show jnT r.ps s.ps r.n 0 = r.ps by simp [jnT])
          first
          | (have XP := Lib.hid (put2 (x' := .int .i16 (r.n + s.n)) (y' := .slice A4 r.ps.length c4) XV.out)
             have NB := nb_ty OV.out XV.out (by decide)
             have OW := own_cellJ (own_cellJ OV.out _ 0 (.int .i16 (r.n + s.n)) NB) _ 1 (.slice A4 r.ps.length c4) NB
             rw [Nat.zero_add, List.nil_append] at OW
             go_wp2_with fail
             go_meet
             refine ⟨_, _, rfl, ?_, XP.out, ?_, (BGv.setCell (by first | exact Nat.le_refl _ | (simp; done)) _).setCell (by first | exact Nat.le_refl _ | (simp; done)) _⟩
             · first | exact Nat.le_refl _ | (simp; done)
             · rw [Nat.add_zero, J0.out]
               exact OW)
          | (have XP := Lib.hid (heap_alloc_new w4 (.cells #[.int .i16 (r.n + s.n), .slice A4 r.ps.length c4] 29))
             have OW := ownBelow OV.out ((Below.refl w4.heap.size w4).alloc (Nat.le_refl _) (.cells #[.int .i16 (r.n + s.n), .slice A4 r.ps.length c4] 29))
             rw [Nat.zero_add, List.nil_append] at OW
             go_wp2_with fail
             go_meet
             refine ⟨_, _, rfl, BGv.size, XP.out, ?_, BGv.alloc BGv.size _⟩
             rw [Nat.add_zero, J0.out]
             exact OW)
      case rest =>
        obtain ⟨W, rfl⟩ : ∃ x, x = wc := ⟨_, rfl⟩
        obtain ⟨p, u0, rfl, hpg, hxp, how, hbw⟩ := hcut
        have PG := Lib.hid hpg
        have XP := Lib.hid hxp
        have OW2 := Lib.hid how
        have BW := Lib.hid hbw
        clear HK NEW b0 hpg hxp how hbw
        go_wp2
        go_loopw [7] (fun i_ wr => ∃ (j : Nat) (u : Value), j ≤ s.ps.length ∧ i_ = .int .i64 (j : Int) ∧ wr.heap[p]? = some (.cells #[.int .i16 (r.n + s.n), u] 29) ∧ wr.ownsRow w3.heap.size 45 9 u (r.ps.length + j) (flN Pl.cells (jnT r.ps s.ps r.n j)) ∧ Below w3.heap.size w3 wr) (fun i_ _ => s.ps.length - (intOf i_).toNat)
        case atStart => exact ⟨0, _, Nat.zero_le _, rfl, XP.out, OW2.out, BW.out⟩
        case round =>
          obtain ⟨j, u, hj, rfl, hxp, how, hbw⟩ := hrel
          have XP := Lib.hid hxp
          have OW := Lib.hid how
          have BW := Lib.hid hbw
          have zb := hbw.size
          clear hxp how hbw OW2
          have ca3 := ca0
          have cb3 : w3.cell? ⟨w.heap.size + 1, 1, none⟩ = some (.slice A2 s.ps.length k2) := by
            have := RB3.out.h
            rwa [Nat.zero_add] at this
          have cb1 := (BW.out.cell (p := ⟨w.heap.size + 1, 1, none⟩) zB3).trans (show w3.cell? ⟨w.heap.size + 1, 1, none⟩ = some (.slice A2 s.ps.length k2) from by have := RB3.out.h; rwa [Nat.zero_add] at this)
          have ca0 := (BW.out.cell (p := ⟨w.heap.size, 0, none⟩) zA3).trans ca0
          obtain ⟨Au, cu, rfl⟩ := ownForm OW.out
          have q0 := cell_of_row wr _ 0 _ _ _ XP.out
          have q1 := cell_of_row wr _ 1 _ _ _ XP.out
          have qf := fun j => frozen_of_row wr _ j _ _ XP.out
          simp only [List.getElem?_toArray, List.getElem?_cons_zero, List.getElem?_cons_succ] at q0 q1
          by_cases hlt : j < s.ps.length
          · obtain ⟨gb, ob, rfl, hzgb, hatb⟩ := T2.out (by omega)
            have PX := Lib.hid (fun (X : World) (hX : Below w3.heap.size w3 X) => plAt_some (hatb.below (bnext B3.out hX) hzgb) hlt)
            have pb := PB.out.mem _ (List.getElem_mem hlt)
            have SX := Lib.hid (jnT_succ (ps := r.ps) (a := r.n) hlt)
            have LX := Lib.hid (jnT_len (ps := r.ps) (qs := s.ps) (a := r.n) hj)
            clear hatb
            generalize s.ps[j] = x at PX pb SX
            have hx0 : (0 : Int) ≤ x.p := pb.1
            have wq : IntKind.i16.wrap (r.n + x.p) = r.n + x.p := IntWalk.i16_in _ (by omega)
            clear pb
            have HK := Lib.hid (show ∀ X : World, Below w3.heap.size w3 X → (Below w3.heap.size w3 X ∧ X.cell? ⟨w.heap.size, 0, none⟩ = some (.int .i16 r.n) ∧ X.cell? ⟨w.heap.size + 1, 1, none⟩ = some (.slice (some ⟨gb, ob, none⟩) s.ps.length k2) ∧ X.cell? ⟨gb, ob + j * 9, none⟩ = some (.int .i16 x.p) ∧ X.cell? ⟨gb, ob + j * 9 + 1, none⟩ = some (.int .i16 x.b.c) ∧ X.cell? ⟨gb, ob + j * 9 + 2, none⟩ = some (.int .u8 x.b.m0) ∧ X.cell? ⟨gb, ob + j * 9 + 3, none⟩ = some (.int .u8 x.b.m1) ∧ X.cell? ⟨gb, ob + j * 9 + 4, none⟩ = some (.int .u8 x.b.m2) ∧ X.cell? ⟨gb, ob + j * 9 + 5, none⟩ = some (.int .i16 x.b.v) ∧ X.cell? ⟨gb, ob + j * 9 + 6, none⟩ = some (.int .i16 x.b.wi) ∧ X.cell? ⟨gb, ob + j * 9 + 7, none⟩ = some (.int .i16 x.b.hi) ∧ X.cell? ⟨gb, ob + j * 9 + 8, none⟩ = some (.int .i16 x.b.we)) from fun X hX => ⟨hX, (hX.cell (p := ⟨w.heap.size, 0, none⟩) zA3).trans ca3, (hX.cell (p := ⟨w.heap.size + 1, 1, none⟩) zB3).trans cb3, PX.out X hX⟩)
            have b0 : Below w3.heap.size w3 wr.drew := BW.out.drew
            have y1 : wr.drew.cell? ⟨p, 1, none⟩ = some (.slice Au (r.ps.length + j) cu) := q1
            have hpl : p < wr.heap.size := (Array.getElem?_eq_some_iff.1 XP.out).1
            have i0' : (0 : Int) ≤ (j : Int) := by omega
            have i1' : (j : Int) < (s.ps.length : Int) := by omega
            have AL := Lib.hid ((Below.refl wr.heap.size wr).alloc (Nat.le_refl _) (.cells (Pl.cells ⟨r.n + x.p, x.b⟩).toArray 45))
            have y2 : (wr.alloc (.cells #[.int .i16 (r.n + x.p), .int .i16 x.b.c, .int .u8 x.b.m0, .int .u8 x.b.m1, .int .u8 x.b.m2, .int .i16 x.b.v, .int .i16 x.b.wi, .int .i16 x.b.hi, .int .i16 x.b.we] 45)).drew.cell? ⟨p, 1, none⟩ = some (.slice Au (r.ps.length + j) cu) := (AL.out.cell (p := ⟨p, 1, none⟩) hpl).trans q1
            have NB := nb_ty OW.out XP.out (by decide)
            go_wp2
            refine wp_region_held_drew (S := (fun (X : World) => Below w3.heap.size w3 X ∧ X.cell? ⟨w.heap.size, 0, none⟩ = some (.int .i16 r.n) ∧ X.cell? ⟨w.heap.size + 1, 1, none⟩ = some (.slice (some ⟨gb, ob, none⟩) s.ps.length k2) ∧ X.cell? ⟨gb, ob + j * 9, none⟩ = some (.int .i16 x.p) ∧ X.cell? ⟨gb, ob + j * 9 + 1, none⟩ = some (.int .i16 x.b.c) ∧ X.cell? ⟨gb, ob + j * 9 + 2, none⟩ = some (.int .u8 x.b.m0) ∧ X.cell? ⟨gb, ob + j * 9 + 3, none⟩ = some (.int .u8 x.b.m1) ∧ X.cell? ⟨gb, ob + j * 9 + 4, none⟩ = some (.int .u8 x.b.m2) ∧ X.cell? ⟨gb, ob + j * 9 + 5, none⟩ = some (.int .i16 x.b.v) ∧ X.cell? ⟨gb, ob + j * 9 + 6, none⟩ = some (.int .i16 x.b.wi) ∧ X.cell? ⟨gb, ob + j * 9 + 7, none⟩ = some (.int .i16 x.b.hi) ∧ X.cell? ⟨gb, ob + j * 9 + 8, none⟩ = some (.int .i16 x.b.we))) (by kernel_rfl) ?_ (fun hHeld => ?_)
            · exact HK.out _ b0
            refine wpAnyH_take (i := 0) (oi := _) (v := ?vv1) rfl (by kernel_rfl) (by kernel_rfl) (by kernel_rfl) (fun _ _ _ h => h) (Or.inl ⟨by rfl, ?hy1⟩) (by assumption) ?rr1
            case hy1 => intro w9 hSw; (try dsimp only at hSw); go_simp; try with_reducible rfl
            (try simp only [Act.put, List.setIfInBounds_toArray, List.set_cons_zero, List.set_cons_succ])
            refine wpAnyH_take (i := 2) (oi := _) (v := ?vv2) rfl (by kernel_rfl) (by kernel_rfl) (by kernel_rfl) (fun _ _ _ h => h) (Or.inl ⟨by rfl, ?hy2⟩) (by assumption) ?rr2
            case hy2 => intro w9 hSw; (try dsimp only at hSw); go_simp; try with_reducible rfl
            (try simp only [Act.put, List.setIfInBounds_toArray, List.set_cons_zero, List.set_cons_succ])
            refine wpAnyH_take (i := 3) (oi := _) (v := ?vv3) rfl (by kernel_rfl) (by kernel_rfl) (by kernel_rfl) (fun _ _ _ h => h) (Or.inl ⟨by rfl, ?hy3⟩) (by assumption) ?rr3
            case hy3 => intro w9 hSw; (try dsimp only at hSw); go_simp; try with_reducible rfl
            (try simp only [Act.put, List.setIfInBounds_toArray, List.set_cons_zero, List.set_cons_succ])
            refine wpAnyH_take (i := 4) (oi := _) (v := ?vv4) rfl (by kernel_rfl) (by kernel_rfl) (by kernel_rfl) (fun _ _ _ h => h) (Or.inl ⟨by rfl, ?hy4⟩) (by assumption) ?rr4
            case hy4 => intro w9 hSw; (try dsimp only at hSw); go_simp; try with_reducible rfl
            (try simp only [Act.put, List.setIfInBounds_toArray, List.set_cons_zero, List.set_cons_succ])
            refine wpAnyH_take (i := 5) (oi := _) (v := ?vv5) rfl (by kernel_rfl) (by kernel_rfl) (by kernel_rfl) (fun _ _ _ h => h) (Or.inl ⟨by rfl, ?hy5⟩) (by assumption) ?rr5
            case hy5 => intro w9 hSw; (try dsimp only at hSw); go_simp; try with_reducible rfl
            (try simp only [Act.put, List.setIfInBounds_toArray, List.set_cons_zero, List.set_cons_succ])
            refine wpAnyH_take (i := 6) (oi := _) (v := ?vv6) rfl (by kernel_rfl) (by kernel_rfl) (by kernel_rfl) (fun _ _ _ h => h) (Or.inl ⟨by rfl, ?hy6⟩) (by assumption) ?rr6
            case hy6 => intro w9 hSw; (try dsimp only at hSw); go_simp; try with_reducible rfl
            (try simp only [Act.put, List.setIfInBounds_toArray, List.set_cons_zero, List.set_cons_succ])
            refine wpAnyH_take (i := 7) (oi := _) (v := ?vv7) rfl (by kernel_rfl) (by kernel_rfl) (by kernel_rfl) (fun _ _ _ h => h) (Or.inl ⟨by rfl, ?hy7⟩) (by assumption) ?rr7
            case hy7 => intro w9 hSw; (try dsimp only at hSw); go_simp; try with_reducible rfl
            (try simp only [Act.put, List.setIfInBounds_toArray, List.set_cons_zero, List.set_cons_succ])
            refine wpAnyH_take (i := 8) (oi := _) (v := ?vv8) rfl (by kernel_rfl) (by kernel_rfl) (by kernel_rfl) (fun _ _ _ h => h) (Or.inl ⟨by rfl, ?hy8⟩) (by assumption) ?rr8
            case hy8 => intro w9 hSw; (try dsimp only at hSw); go_simp; try with_reducible rfl
            (try simp only [Act.put, List.setIfInBounds_toArray, List.set_cons_zero, List.set_cons_succ])
            refine wpAnyH_take (i := 9) (oi := _) (v := ?vv9) rfl (by kernel_rfl) (by kernel_rfl) (by kernel_rfl) (fun _ _ _ h => h) (Or.inl ⟨by rfl, ?hy9⟩) (by assumption) ?rr9
            case hy9 => intro w9 hSw; (try dsimp only at hSw); go_simp; try with_reducible rfl
            (try simp only [Act.put, List.setIfInBounds_toArray, List.set_cons_zero, List.set_cons_succ])
            refine wpAnyH_take (i := 10) (oi := _) (v := ?vv10) rfl (by kernel_rfl) (by kernel_rfl) (by kernel_rfl) (fun _ _ _ h => h) (Or.inl ⟨by rfl, ?hy10⟩) (by assumption) ?rr10
            case hy10 => intro w9 hSw; (try dsimp only at hSw); go_simp; try with_reducible rfl
            (try simp only [Act.put, List.setIfInBounds_toArray, List.set_cons_zero, List.set_cons_succ])
            refine wpAnyH_take (i := 11) (oi := _) (v := ?vv11) rfl (by kernel_rfl) (by kernel_rfl) (by kernel_rfl) (fun _ _ _ h => h) (Or.inl ⟨by rfl, ?hy11⟩) (by assumption) ?rr11
            case hy11 => intro w9 hSw; (try dsimp only at hSw); go_simp; try with_reducible rfl
            (try simp only [Act.put, List.setIfInBounds_toArray, List.set_cons_zero, List.set_cons_succ])
            refine wpAnyH_take (i := 12) (oi := _) (v := ?vv12) rfl (by kernel_rfl) (by kernel_rfl) (by kernel_rfl) (fun _ _ _ h => h) (Or.inl ⟨by rfl, ?hy12⟩) (by assumption) ?rr12
            case hy12 => intro w9 hSw; (try dsimp only at hSw); go_simp; try with_reducible rfl
            (try simp only [Act.put, List.setIfInBounds_toArray, List.set_cons_zero, List.set_cons_succ])
            refine wpAnyH_take (i := 13) (oi := _) (v := ?vv13) rfl (by kernel_rfl) (by kernel_rfl) (by kernel_rfl) (fun _ _ _ h => h) (Or.inl ⟨by rfl, ?hy13⟩) (by assumption) ?rr13
            case hy13 => intro w9 hSw; (try dsimp only at hSw); go_simp; try with_reducible rfl
            (try simp only [Act.put, List.setIfInBounds_toArray, List.set_cons_zero, List.set_cons_succ])
            refine wpAnyH_take (i := 14) (oi := _) (v := ?vv14) rfl (by kernel_rfl) (by kernel_rfl) (by kernel_rfl) (fun _ _ _ h => h) (Or.inl ⟨by rfl, ?hy14⟩) (by assumption) ?rr14
            case hy14 => intro w9 hSw; (try dsimp only at hSw); go_simp; try with_reducible rfl
            (try simp only [Act.put, List.setIfInBounds_toArray, List.set_cons_zero, List.set_cons_succ])
            refine wpAnyH_take (i := 15) (oi := _) (v := ?vv15) rfl (by kernel_rfl) (by kernel_rfl) (by kernel_rfl) (fun _ _ _ h => h) (Or.inl ⟨by rfl, ?hy15⟩) (by assumption) ?rr15
            case hy15 => intro w9 hSw; (try dsimp only at hSw); go_simp; try with_reducible rfl
            (try simp only [Act.put, List.setIfInBounds_toArray, List.set_cons_zero, List.set_cons_succ])
            refine wpAnyH_take (i := 16) (oi := _) (v := ?vv16) rfl (by kernel_rfl) (by kernel_rfl) (by kernel_rfl) (fun _ _ _ h => h) (Or.inl ⟨by rfl, ?hy16⟩) (by assumption) ?rr16
            case hy16 => intro w9 hSw; (try dsimp only at hSw); go_simp; try with_reducible rfl
            (try simp only [Act.put, List.setIfInBounds_toArray, List.set_cons_zero, List.set_cons_succ])
            refine wpAnyH_take (i := 17) (oi := _) (v := ?vv17) rfl (by kernel_rfl) (by kernel_rfl) (by kernel_rfl) (fun _ _ _ h => h) (Or.inl ⟨by rfl, ?hy17⟩) (by assumption) ?rr17
            case hy17 => intro w9 hSw; (try dsimp only at hSw); go_simp; try with_reducible rfl
            (try simp only [Act.put, List.setIfInBounds_toArray, List.set_cons_zero, List.set_cons_succ])
            refine wpAnyH_ready (rs := [1, 18]) (by kernel_rfl) (by simp) ?_
            refine AllReadyH.cons (o := _) rfl (fun K hK => ?_) (AllReadyH.cons (o := _) rfl (fun K hK => ?_) AllReadyH.nil)
            ·
              go_simp
              refine hK.out _ _ ?_ (fun hHeld2 => ?_)
              · (try dsimp only); first | assumption | exact HK.out _ b0 | exact HK.out _ B5.out | exact HK.out _ (B5.out.setCell PG.out _) | exact HK.out _ (bAl (by assumption))
              clear hK K hHeld; have hHeld := hHeld2; clear hHeld2
              (try simp only [Act.put, List.setIfInBounds_toArray, List.set_cons_zero, List.set_cons_succ])
              refine wpAnyH_ready (rs := [18]) (by kernel_rfl) (by simp) ?_
              refine AllReadyH.cons (o := _) rfl (fun K hK => ?_) AllReadyH.nil
              go_simp
              refine hK.out _ _ ?_ (fun hHeld2 => ?_)
              · (try dsimp only); first | assumption | exact HK.out _ b0 | exact HK.out _ B5.out | exact HK.out _ (B5.out.setCell PG.out _) | exact HK.out _ (bAl (by assumption))
              clear hK K hHeld; have hHeld := hHeld2; clear hHeld2
              (try simp only [Act.put, List.setIfInBounds_toArray, List.set_cons_zero, List.set_cons_succ])
              refine wpAnyH_ready (rs := [19]) (by kernel_rfl) (by simp) ?_
              refine AllReadyH.cons (o := _) rfl (fun K hK => ?_) AllReadyH.nil
              refine step_append_own (by rfl) (.tmp 69) (.tmp 86) _ (by rfl) w3.heap.size 45 i0 (.agg #[.int .i16 0, .int .i16 0, .int .u8 0, .int .u8 0, .int .u8 0, .int .i16 0, .int .i16 0, .int .i16 0, .int .i16 0]) 9 16 Tryd.underlying27 hi0 hz0 hz1 hz2 rfl (by decide) (.slice Au (r.ps.length + j) cu) (r.ps.length + j) (flN Pl.cells (jnT r.ps s.ps r.n j)) (by rfl) (show World.ownsRow _ _ _ _ _ _ _ from ownBelow OW.out AL.out.drew) ⟨wr.heap.size, 0, none⟩ 1 1 (Pl.cells ⟨r.n + x.p, x.b⟩) (by rfl) rfl (new9 (w := wr) ⟨r.n + x.p, x.b⟩ 45) (by intro u hu; simp [Pl.cells] at hu; rcases hu with rfl | rfl | rfl | rfl | rfl | rfl | rfl | rfl | rfl <;> rfl) (by unfold maxLen; omega) (by omega) (by first | (simp; done) | (simp; omega)) ?_
              intro v5 w5 ho5 hg5
              obtain ⟨A5, c5, rfl⟩ := ownForm ho5
              have O5 := Lib.hid (show w5.ownsRow w3.heap.size 45 9 (.slice A5 (r.ps.length + j + 1) c5) (r.ps.length + (j + 1)) (flN Pl.cells (jnT r.ps s.ps r.n (j + 1))) by rw [SX.out, flN_snoc]; exact ho5)
              have G5 : World.grownBy _ w5 (Value.slice Au (r.ps.length + j) cu).ownBlock := hg5
              have B5 := Lib.hid (show Below w3.heap.size w3 w5 from Below.grown (And.left (by assumption)) G5 (by first | (simp; done) | (simp; omega)) (fun k hk => (OW.out.lt k hk).1))
              have X5 := Lib.hid ((G5.block p (by first | (simp; done) | (simp; omega)) (fun e => NB p e.symm rfl)).trans ((AL.out.block p hpl).trans XP.out))
              have q5 := cell_of_row w5 _ 0 _ _ _ X5.out
              have q6 := cell_of_row w5 _ 1 _ _ _ X5.out
              have qf5 := fun j => frozen_of_row w5 _ j _ _ X5.out
              simp only [List.getElem?_toArray, List.getElem?_cons_zero, List.getElem?_cons_succ] at q5 q6
              clear ho5 hg5 G5
              refine hK.out _ _ ?_ (fun hHeld2 => ?_)
              · (try dsimp only); first | assumption | exact HK.out _ b0 | exact HK.out _ B5.out | exact HK.out _ (B5.out.setCell PG.out _) | exact HK.out _ (bAl (by assumption))
              clear hK K hHeld; have hHeld := hHeld2; clear hHeld2
              (try simp only [Act.put, List.setIfInBounds_toArray, List.set_cons_zero, List.set_cons_succ])
              refine wpAnyH_take (i := 20) (oi := _) (v := ?vv18) rfl (by kernel_rfl) (by kernel_rfl) (by kernel_rfl) (fun _ _ _ h => h) (Or.inl ⟨by rfl, ?hy18⟩) (by assumption) ?rr18
              case hy18 => intro w9 hSw; (try dsimp only at hSw); go_simp; try with_reducible rfl
              (try simp only [Act.put, List.setIfInBounds_toArray, List.set_cons_zero, List.set_cons_succ])
              refine wpAnyH_ready (rs := [21]) (by kernel_rfl) (by simp) ?_
              refine AllReadyH.cons (o := _) rfl (fun K hK => ?_) AllReadyH.nil
              go_simp
              refine hK.out _ _ ?_ (fun hHeld2 => ?_)
              · (try dsimp only); first | assumption | exact HK.out _ b0 | exact HK.out _ B5.out | exact HK.out _ (B5.out.setCell PG.out _) | exact HK.out _ (bAl (by assumption))
              clear hK K hHeld; have hHeld := hHeld2; clear hHeld2
              (try simp only [Act.put, List.setIfInBounds_toArray, List.set_cons_zero, List.set_cons_succ])
              refine wpAnyH_done (by kernel_rfl) ?_ _
              have XP9 := Lib.hid (heap_setCell_same w5 p 1 _ _ (.slice A5 (r.ps.length + j + 1) c5) X5.out)
              have OW9 := Lib.hid (own_cellJ O5.out p 1 (.slice A5 (r.ps.length + j + 1) c5) (nb_ty O5.out X5.out (by decide)))
              go_wp2
              go_roundw
              case rel => exact ⟨j + 1, _, by omega, by go_num, XP9.out, OW9.out, B5.out.setCell PG.out _⟩
              case measure => simp [intOf]; omega
            ·
              go_simp
              refine hK.out _ _ ?_ (fun hHeld2 => ?_)
              · (try dsimp only); first | assumption | exact HK.out _ b0 | exact HK.out _ B5.out | exact HK.out _ (B5.out.setCell PG.out _) | exact HK.out _ (bAl (by assumption))
              clear hK K hHeld; have hHeld := hHeld2; clear hHeld2
              (try simp only [Act.put, List.setIfInBounds_toArray, List.set_cons_zero, List.set_cons_succ])
              refine wpAnyH_ready (rs := [1]) (by kernel_rfl) (by simp) ?_
              refine AllReadyH.cons (o := _) rfl (fun K hK => ?_) AllReadyH.nil
              go_simp
              refine hK.out _ _ ?_ (fun hHeld2 => ?_)
              · (try dsimp only); first | assumption | exact HK.out _ b0 | exact HK.out _ B5.out | exact HK.out _ (B5.out.setCell PG.out _) | exact HK.out _ (bAl (by assumption))
              clear hK K hHeld; have hHeld := hHeld2; clear hHeld2
              (try simp only [Act.put, List.setIfInBounds_toArray, List.set_cons_zero, List.set_cons_succ])
              refine wpAnyH_ready (rs := [19]) (by kernel_rfl) (by simp) ?_
              refine AllReadyH.cons (o := _) rfl (fun K hK => ?_) AllReadyH.nil
              refine step_append_own (by rfl) (.tmp 69) (.tmp 86) _ (by rfl) w3.heap.size 45 i0 (.agg #[.int .i16 0, .int .i16 0, .int .u8 0, .int .u8 0, .int .u8 0, .int .i16 0, .int .i16 0, .int .i16 0, .int .i16 0]) 9 16 Tryd.underlying27 hi0 hz0 hz1 hz2 rfl (by decide) (.slice Au (r.ps.length + j) cu) (r.ps.length + j) (flN Pl.cells (jnT r.ps s.ps r.n j)) (by rfl) (show World.ownsRow _ _ _ _ _ _ _ from ownBelow OW.out AL.out.drew) ⟨wr.heap.size, 0, none⟩ 1 1 (Pl.cells ⟨r.n + x.p, x.b⟩) (by rfl) rfl (new9 (w := wr) ⟨r.n + x.p, x.b⟩ 45) (by intro u hu; simp [Pl.cells] at hu; rcases hu with rfl | rfl | rfl | rfl | rfl | rfl | rfl | rfl | rfl <;> rfl) (by unfold maxLen; omega) (by omega) (by first | (simp; done) | (simp; omega)) ?_
              intro v5 w5 ho5 hg5
              obtain ⟨A5, c5, rfl⟩ := ownForm ho5
              have O5 := Lib.hid (show w5.ownsRow w3.heap.size 45 9 (.slice A5 (r.ps.length + j + 1) c5) (r.ps.length + (j + 1)) (flN Pl.cells (jnT r.ps s.ps r.n (j + 1))) by rw [SX.out, flN_snoc]; exact ho5)
              have G5 : World.grownBy _ w5 (Value.slice Au (r.ps.length + j) cu).ownBlock := hg5
              have B5 := Lib.hid (show Below w3.heap.size w3 w5 from Below.grown (And.left (by assumption)) G5 (by first | (simp; done) | (simp; omega)) (fun k hk => (OW.out.lt k hk).1))
              have X5 := Lib.hid ((G5.block p (by first | (simp; done) | (simp; omega)) (fun e => NB p e.symm rfl)).trans ((AL.out.block p hpl).trans XP.out))
              have q5 := cell_of_row w5 _ 0 _ _ _ X5.out
              have q6 := cell_of_row w5 _ 1 _ _ _ X5.out
              have qf5 := fun j => frozen_of_row w5 _ j _ _ X5.out
              simp only [List.getElem?_toArray, List.getElem?_cons_zero, List.getElem?_cons_succ] at q5 q6
              clear ho5 hg5 G5
              refine hK.out _ _ ?_ (fun hHeld2 => ?_)
              · (try dsimp only); first | assumption | exact HK.out _ b0 | exact HK.out _ B5.out | exact HK.out _ (B5.out.setCell PG.out _) | exact HK.out _ (bAl (by assumption))
              clear hK K hHeld; have hHeld := hHeld2; clear hHeld2
              (try simp only [Act.put, List.setIfInBounds_toArray, List.set_cons_zero, List.set_cons_succ])
              refine wpAnyH_take (i := 20) (oi := _) (v := ?vv19) rfl (by kernel_rfl) (by kernel_rfl) (by kernel_rfl) (fun _ _ _ h => h) (Or.inl ⟨by rfl, ?hy19⟩) (by assumption) ?rr19
              case hy19 => intro w9 hSw; (try dsimp only at hSw); go_simp; try with_reducible rfl
              (try simp only [Act.put, List.setIfInBounds_toArray, List.set_cons_zero, List.set_cons_succ])
              refine wpAnyH_ready (rs := [21]) (by kernel_rfl) (by simp) ?_
              refine AllReadyH.cons (o := _) rfl (fun K hK => ?_) AllReadyH.nil
              go_simp
              refine hK.out _ _ ?_ (fun hHeld2 => ?_)
              · (try dsimp only); first | assumption | exact HK.out _ b0 | exact HK.out _ B5.out | exact HK.out _ (B5.out.setCell PG.out _) | exact HK.out _ (bAl (by assumption))
              clear hK K hHeld; have hHeld := hHeld2; clear hHeld2
              (try simp only [Act.put, List.setIfInBounds_toArray, List.set_cons_zero, List.set_cons_succ])
              refine wpAnyH_done (by kernel_rfl) ?_ _
              have XP9 := Lib.hid (heap_setCell_same w5 p 1 _ _ (.slice A5 (r.ps.length + j + 1) c5) X5.out)
              have OW9 := Lib.hid (own_cellJ O5.out p 1 (.slice A5 (r.ps.length + j + 1) c5) (nb_ty O5.out X5.out (by decide)))
              go_wp2
              go_roundw
              case rel => exact ⟨j + 1, _, by omega, by go_num, XP9.out, OW9.out, B5.out.setCell PG.out _⟩
              case measure => simp [intOf]; omega
          · obtain rfl : j = s.ps.length := by omega
            have R5 := Lib.hid ((BW.out.block _ z3).trans R3.out)
            have b0 := cell_of_row wr _ 0 _ _ _ R5.out
            have b1 := cell_of_row wr _ 1 _ _ _ R5.out
            have fz := fun j => frozen_of_row wr _ j _ _ R5.out
            simp only [List.getElem?_toArray, List.getElem?_cons_zero, List.getElem?_cons_succ] at b0 b1
            have d0 : ¬ ((s.ps.length : Int) < (s.ps.length : Int)) := by omega
            go_wp2
            refine bodyPost_ret (v := .tuple #[.agg #[.int .i16 (r.n + s.n), .slice Au (r.ps.length + s.ps.length) cu], .int .i64 0]) (by simp [results, Tryd.results5, go_sem, b0, b1]) rfl ?_
            refine ⟨_, by rw [E.out.1, E.out.2.2], ?_, ?_⟩
            · rw [EL.out, ← jnT_all r.ps s.ps r.n]
              refine ResN.mono (base := w3.heap.size) ?_ (by omega)
              refine ResN.of Pl.nine (n := r.ps.length + s.ps.length) ?_ (by rw [jnT_len (Nat.le_refl _)])
              repeat (refine ownsRow_setCell_below ?_ (by first | (simp; done) | (simp; omega) | omega) _)
              exact OW.out
            · repeat (refine Below.setCell ?_ (by first | (simp; done) | (simp; omega) | omega) _)
              exact bnext B3.out BW.out
end Go.Proofs.YtgmipobohnagnaaDoor
