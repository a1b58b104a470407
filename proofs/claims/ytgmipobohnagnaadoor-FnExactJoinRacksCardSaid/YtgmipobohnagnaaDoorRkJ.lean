/- The program's places of a rack, whether it is valid, its books: contracts. Condition: at most 1048576 books, whose numbers lie within their kinds; the two error variables hold errors of errors.New's make. -/
import Derived.Test.YtgmipobohnagnaaDoorRkI
import Derived.Test.YtgmipobohnagnaaDoorRkS2
namespace Go.Proofs.YtgmipobohnagnaaDoor
set_option linter.unusedSimpArgs false
set_option linter.unusedVariables false
set_option maxRecDepth 100000
open Go.RowKit Go.Sort

/-- The places that are found in a rack. -/
def PlV (r : Rk) (n : Nat) (base : Nat) (w : World) (v : Value) : Prop :=
  (rkB r = false ∧ v = .slice none 0 0) ∨ (rkB r = true ∧ ∃ g, v = .slice (some ⟨g, 0, none⟩) n n ∧ base ≤ g ∧ RowN Pc.cells 53 w g (plc n r.ps) n n)
theorem noCode_any (w : World) : Calls Tryd.prog 39 #[.agg #[]] w fun e w' => e = .returned (.int .i64 1) ∧ Below w.heap.size w w' := by
  go_enter Tryd.func39, Tryd.ntmps39
  go_wp2
  go_ret
  exact ⟨rfl, by go_grown⟩
theorem ta_no1 (W : World) : (Instr.typeAssert (.iface 87 (.agg #[])) 84 48 true).run Tryd.prog W = .ok (.tuple #[.slice none 0 0, .bool false]) W := by rfl
theorem ta_no2 (W : World) : (Instr.typeAssert (.iface 87 (.agg #[])) 84 87 true).run Tryd.prog W = .ok (.tuple #[.agg #[], .bool true]) W := by rfl
theorem ta_rp (v : Value) (W : World) : (Instr.typeAssert (.iface 48 v) 84 48 true).run Tryd.prog W = .ok (.tuple #[v, .bool true]) W := by rfl
set_option maxHeartbeats 4000000 in
theorem placesOf_any (r : Rk) (hv : Value) (wf : r.Wf) (w : World) (s i : Addr) (he : Er2 w s i) (hs : PlsOf w hv r.ps) (hn : r.ps.length ≤ 1048576) :
    Calls Tryd.prog 28 #[.agg #[.int .i16 r.n, hv]] w fun e w' => ∃ v, e = .returned (.tuple #[v, .int .i64 (rkC r)]) ∧ PlV r r.n.toNat w.heap.size w' v ∧ Below w.heap.size w w' := by
  have HE := Lib.hid he
  have WF := Lib.hid wf
  have HS := Lib.hid hs
  obtain ⟨A, c, rfl, -⟩ := hs
  have G0 := Lib.hid (show Below w.heap.size w (w.alloc (.cells #[.int .i16 r.n, .slice A r.ps.length c] 29)) by go_grown)
  clear he wf
  go_enter Tryd.func28, Tryd.ntmps28
  go_wp2_with fail
  refine (contentOf_any r _ WF.out _ s i (HE.out.below G0.out) (HS.out.below G0.out) hn).mono ?_
  rintro e w1 ⟨v, rfl, hc, g1⟩
  have B1 := Lib.hid (bnext G0.out g1)
  have z1 := G0.out.size
  rcases hc with ⟨hk, rfl⟩ | ⟨hk, g, rfl, hg, hr⟩
  · have E := Lib.hid (show rkC r = 1 by unfold rkC; rw [hk]; rfl)
    have HK := Lib.hid hk
    clear hk
    have TA := ta_no1
    have TA2 := ta_no2
    have d2 : Below w1.heap.size w1 (w1.alloc (.cells #[] 87)) := (Below.refl _ _).alloc (Nat.le_refl _) _
    go_wp2_with fail
    refine (noCode_any _).mono ?_
    rintro e w2 ⟨rfl, g2⟩
    go_wp2
    go_ret2
    exact ⟨_, by rw [E.out]; rfl, .inl ⟨HK.out, rfl⟩, bnext (bnext B1.out d2) g2⟩
  · have E := Lib.hid (show rkC r = 0 by unfold rkC; rw [hk]; rfl)
    have HK := Lib.hid hk
    have HR := Lib.hid hr
    have TA := fun (W : World) => ta_rp (.slice (some ⟨g, 0, none⟩) r.n.toNat r.n.toNat) W
    clear hk hr
    go_wp2
    go_ret2
    exact ⟨_, by rw [E.out]; rfl, .inr ⟨HK.out, g, rfl, Nat.le_trans z1 hg, HR.out⟩, B1.out⟩
theorem PlV.ok {r : Rk} {n base : Nat} {w : World} {v : Value} (h : PlV r n base w v) (hk : rkB r = true) : ∃ g, v = .slice (some ⟨g, 0, none⟩) n n ∧ base ≤ g ∧ RowN Pc.cells 53 w g (plc n r.ps) n n := by
  rcases h with ⟨h, _⟩ | ⟨_, h⟩
  · rw [hk] at h; cases h
  · exact h
theorem PlV.no {r : Rk} {n base : Nat} {w : World} {v : Value} (h : PlV r n base w v) (hk : rkB r = false) : v = .slice none 0 0 := by
  rcases h with ⟨_, h⟩ | ⟨h, _⟩
  · exact h
  · rw [hk] at h; cases h
theorem rkBks_len (r : Rk) : (rkBks r).length ≤ r.ps.length := by
  unfold rkBks
  split
  · rw [bks_length]; exact Nat.le_refl _
  · exact Nat.zero_le _
theorem bkq_nil : bkq [] = [] := rfl
theorem pcs_nil (w : World) : PcsOf w (.slice none 0 0) [] := ⟨none, 0, rfl, fun h => absurd h (Nat.lt_irrefl _)⟩
theorem rk_nat {r : Rk} (h : rkB r = true) : r.n = (r.n.toNat : Int) ∧ 1 ≤ r.n.toNat ∧ r.n.toNat ≤ 60 ∧ PosTo (r.n.toNat : Int) r.ps r.ps.length := by
  obtain ⟨⟨h1, h2⟩, h3, _⟩ := rkB_of h
  have e : r.n = (r.n.toNat : Int) := by omega
  exact ⟨e, by omega, by omega, by rw [← e]; exact h3⟩
end Go.Proofs.YtgmipobohnagnaaDoor
