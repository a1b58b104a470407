/- The program's places of two racks: a contract. Condition: at most 1048576 books, whose numbers lie within their kinds; the two error variables hold errors of errors.New's make. -/
import Derived.Test.YtgmipobohnagnaaDoorRkJ
namespace Go.Proofs.YtgmipobohnagnaaDoor
set_option linter.unusedSimpArgs false
set_option linter.unusedVariables false
set_option maxRecDepth 100000
open Go.RowKit Go.Sort

noncomputable def boC (r s : Rk) : Int := if rkB r && rkB s then 0 else 1
theorem PlV.mono {r : Rk} {n base base' : Nat} {w : World} {v : Value} (h : PlV r n base w v) (hb : base' ≤ base) : PlV r n base' w v := by
  rcases h with h | ⟨h, g, e, hg, hr⟩
  · exact .inl h
  · exact .inr ⟨h, g, e, Nat.le_trans hb hg, hr⟩
theorem PlV.below {r : Rk} {n base : Nat} {w w' : World} {v : Value} (h : PlV r n base w v) (hb : Below w.heap.size w w') : PlV r n base w' v := by
  rcases h with h | ⟨h, g, e, hg, hr⟩
  · exact .inl h
  · exact .inr ⟨h, g, e, hg, hr.below hb hr.lt⟩
theorem PlV.form {r : Rk} {n base : Nat} {w : World} {v : Value} (h : PlV r n base w v) : ∃ A k c, v = .slice A k c := by
  rcases h with ⟨_, rfl⟩ | ⟨_, g, rfl, _⟩ <;> exact ⟨_, _, _, rfl⟩
set_option maxHeartbeats 4000000 in
theorem placesOfBoth_any (r s : Rk) (hv1 hv2 : Value) (wf1 : r.Wf) (wf2 : s.Wf) (w : World) (a b : Addr) (he : Er2 w a b) (hs1 : PlsOf w hv1 r.ps) (hs2 : PlsOf w hv2 s.ps) (hn1 : r.ps.length ≤ 1048576) (hn2 : s.ps.length ≤ 1048576) :
    Calls Tryd.prog 15 #[.agg #[.int .i16 r.n, hv1], .agg #[.int .i16 s.n, hv2]] w fun e w' => ∃ v1 v2, e = .returned (.tuple #[v1, v2, .int .i64 (boC r s)]) ∧ PlV r r.n.toNat w.heap.size w' v1 ∧ PlV s s.n.toNat w.heap.size w' v2 ∧ Below w.heap.size w w' := by
  have HE := Lib.hid he
  have WF1 := Lib.hid wf1
  have WF2 := Lib.hid wf2
  have HS1 := Lib.hid hs1
  have HS2 := Lib.hid hs2
  obtain ⟨A1, k1, rfl, -⟩ := hs1
  obtain ⟨A2, k2, rfl, -⟩ := hs2
  have G0 := Lib.hid (show Below w.heap.size w ((w.alloc (.cells #[.int .i16 r.n, .slice A1 r.ps.length k1] 29)).alloc (.cells #[.int .i16 s.n, .slice A2 s.ps.length k2] 29)) by go_grown)
  have KB := Lib.hid (show ((w.alloc (.cells #[.int .i16 r.n, .slice A1 r.ps.length k1] 29)).alloc (.cells #[.int .i16 s.n, .slice A2 s.ps.length k2] 29)).heap[w.heap.size + 1]? = some (Obj.cells #[.int .i16 s.n, .slice A2 s.ps.length k2] 29 (0, 0)) from by
    have := heap_alloc_new (w.alloc (.cells #[.int .i16 r.n, .slice A1 r.ps.length k1] 29)) (.cells #[.int .i16 s.n, .slice A2 s.ps.length k2] 29)
    rwa [World.size_alloc] at this)
  clear he wf1 wf2
  go_enter Tryd.func15, Tryd.ntmps15
  go_wp2_with fail
  generalize (w.alloc _).alloc _ = w0 at G0 KB ⊢
  have z0 := G0.out.size
  have zb : w.heap.size + 1 < w0.heap.size := (Array.getElem?_eq_some_iff.1 KB.out).1
  refine (placesOf_any r _ WF1.out _ a b (HE.out.below G0.out) (HS1.out.below G0.out) hn1).mono ?_
  rintro e w1 ⟨v1, rfl, hp1, g1⟩
  have B1 := Lib.hid (bnext G0.out g1)
  have P1 := Lib.hid (hp1.mono z0)
  have e0 := cell_of_row w1 _ 0 _ _ _ ((g1.block _ zb).trans KB.out)
  have e1 := cell_of_row w1 _ 1 _ _ _ ((g1.block _ zb).trans KB.out)
  simp only [List.getElem?_toArray, List.getElem?_cons_zero, List.getElem?_cons_succ] at e0 e1
  have z1 := B1.out.size
  clear g1 hp1
  go_wp2_with fail
  refine (placesOf_any s _ WF2.out _ a b (HE.out.below B1.out) (HS2.out.below B1.out) hn2).mono ?_
  rintro e w2 ⟨v2, rfl, hp2, g2⟩
  have B2 := Lib.hid (bnext B1.out g2)
  have P1 := Lib.hid (P1.out.below g2)
  have P2 := Lib.hid (hp2.mono z1)
  obtain ⟨C1, hC1⟩ : ∃ C, rkC r = C := ⟨_, rfl⟩
  obtain ⟨C2, hC2⟩ : ∃ C, rkC s = C := ⟨_, rfl⟩
  clear e0 e1 g2 hp2
  have hd1 : C1 = if rkB r = true then 0 else 1 := hC1.symm
  have hd2 : C2 = if rkB s = true then 0 else 1 := hC2.symm
  rw [hC1, hC2]
  clear hC1 hC2
  cases h1 : rkB r <;> cases h2 : rkB s <;> rw [h1] at hd1 <;> rw [h2] at hd2
  all_goals
    simp at hd1 hd2
    subst hd1 hd2
    have m0 : (0 : Int) ≤ 1 := by omega
    have m1 : (0 : Int) < 1 := by omega
  · have E := Lib.hid (show boC r s = 1 by unfold boC; rw [h1, h2]; rfl)
    clear h1 h2
    go_wp2
    go_ret3
    exact ⟨v1, v2, by rw [E.out]; rfl, P1.out, P2.out, B2.out⟩
  · have E := Lib.hid (show boC r s = 1 by unfold boC; rw [h1, h2]; rfl)
    clear h1 h2
    go_wp2
    go_ret3
    exact ⟨v1, v2, by rw [E.out]; rfl, P1.out, P2.out, B2.out⟩
  · have E := Lib.hid (show boC r s = 1 by unfold boC; rw [h1, h2]; rfl)
    clear h1 h2
    go_wp2
    go_ret3
    exact ⟨v1, v2, by rw [E.out]; rfl, P1.out, P2.out, B2.out⟩
  · have E := Lib.hid (show boC r s = 0 by unfold boC; rw [h1, h2]; rfl)
    clear h1 h2
    go_wp2
    go_ret3
    exact ⟨v1, v2, by rw [E.out]; rfl, P1.out, P2.out, B2.out⟩
end Go.Proofs.YtgmipobohnagnaaDoor
