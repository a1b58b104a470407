/- SplitRack: its values; the parts of a row of places. No condition. -/
import Derived.Test.YteeblpdjpaellaaDoorRkSp
import Derived.Test.YteeblpdjpaellaaDoorRkP3
import Derived.Test.YteeblpdjpaellaaDoorRkJ
namespace Go.Proofs.YteeblpdjpaellaaDoor
set_option linter.unusedSimpArgs false
set_option linter.unusedVariables false
set_option maxRecDepth 100000
open Go.RowKit Go.Sort

noncomputable def spB (r : Rk) (a : Int) : Bool := rkB r && inB a 1 (r.n - 1)
noncomputable def spC (r : Rk) (a : Int) : Int := if rkB r then (if inB a 1 (r.n - 1) then 0 else 2) else 1
noncomputable def spN1 (r : Rk) (a : Int) : Int := if spB r a then a else 0
noncomputable def spN2 (r : Rk) (a : Int) : Int := if spB r a then r.n - a else 0
noncomputable def spL1 (r : Rk) (a : Int) : List Pl := if spB r a then lowP a r.ps else []
noncomputable def spL2 (r : Rk) (a : Int) : List Pl := if spB r a then highP a r.ps else []
theorem spL1_len (r : Rk) (a : Int) : (spL1 r a).length ≤ r.ps.length := by
  unfold spL1 lowP
  split
  · exact List.length_filter_le _ _
  · exact Nat.zero_le _
theorem spL2_len (r : Rk) (a : Int) : (spL2 r a).length ≤ r.ps.length := by
  unfold spL2 highP
  split
  · rw [List.length_map]; exact List.length_filter_le _ _
  · exact Nat.zero_le _
theorem sp_cases (r : Rk) (a : Int) : (rkB r = false ∧ spN1 r a = 0 ∧ spL1 r a = [] ∧ spN2 r a = 0 ∧ spL2 r a = [] ∧ spC r a = 1) ∨ (rkB r = true ∧ inB a 1 (r.n - 1) = false ∧ spN1 r a = 0 ∧ spL1 r a = [] ∧ spN2 r a = 0 ∧ spL2 r a = [] ∧ spC r a = 2) ∨ (rkB r = true ∧ inB a 1 (r.n - 1) = true ∧ spN1 r a = a ∧ spL1 r a = lowP a r.ps ∧ spN2 r a = r.n - a ∧ spL2 r a = highP a r.ps ∧ spC r a = 0) := by
  unfold spN1 spN2 spL1 spL2 spC spB
  cases rkB r
  · exact .inl ⟨rfl, rfl, rfl, rfl, rfl, rfl⟩
  · cases inB a 1 (r.n - 1)
    · exact .inr (.inl ⟨rfl, rfl, rfl, rfl, rfl, rfl, rfl⟩)
    · exact .inr (.inr ⟨rfl, rfl, rfl, rfl, rfl, rfl, rfl⟩)

/-- A rack in a block of its own. -/
def KQ (W : World) (g : Nat) (n : Int) (hv : Value) : Prop := W.heap[g]? = some (.cells #[.int .i16 n, hv] 41 (0, 0))
section
variable {W W' : World} {g k : Nat} {n : Int} {hv : Value}
theorem KQ.lt (h : KQ W g n hv) : g < W.heap.size := (Array.getElem?_eq_some_iff.1 h).1
theorem KQ.below {b : Nat} (h : KQ W g n hv) (hb : Below b W W') (hg : g < b) : KQ W' g n hv := (hb.block g hg).trans h
theorem KQ.kept {row : Option Nat} (h : KQ W g n hv) (hg : W.grownBy W' row) (hne : some g ≠ row) : KQ W' g n hv := (hg.block g h.lt hne).trans h
theorem KQ.fz (h : KQ W g n hv) (i : Nat) : W.frozen? ⟨g, i, none⟩ = false := frozen_of_row W g i _ _ h
theorem KQ.c0 (h : KQ W g n hv) : W.cell? ⟨g, 0, none⟩ = some (.int .i16 n) := cell_of_row W g 0 _ _ _ h
theorem KQ.c1 (h : KQ W g n hv) : W.cell? ⟨g, 1, none⟩ = some hv := cell_of_row W g 1 _ _ _ h
theorem KQ.s1 (h : KQ W g n hv) (z : Value) : KQ (W.setCell ⟨g, 1, none⟩ z) g n z := by
  unfold KQ at *
  rw [heap_setCell_same _ _ _ _ _ _ h]
  rfl
theorem KQ.all (h : KQ W g n hv) (x : Int) (z : Value) : KQ ((W.setCell ⟨g, 0, none⟩ (.int .i16 x)).setCell ⟨g, 1, none⟩ z) g x z := by
  unfold KQ at *
  have h1 := heap_setCell_same _ _ 0 _ _ (.int .i16 x) h
  have h2 := heap_setCell_same _ _ 1 _ _ z h1
  simpa using h2
theorem KQ.far {i : Nat} (h : KQ W g n hv) (z : Value) (hne : g ≠ k) : KQ (W.setCell ⟨k, i, none⟩ z) g n hv := by
  unfold KQ at *
  exact (heap_setCell_other W ⟨k, i, none⟩ g z hne).trans h
end

/-- Where the places from i on lie. -/
def loQ (o i c : Nat) : Nat := if c = i then o else o + i * 9
theorem elemPcs : Tryd.prog.underlying 70 = some (.slice (Tryd.prog.elem 70)) := by kernel_rfl
theorem sizePcs (w : World) : (sizeOf (Tryd.prog.elem 70)).run Tryd.prog w = .ok 9 w := by kernel_rfl
theorem run_hiQ (A : Option Addr) (n c k : Nat) (hk : k ≤ c) (w : World) :
    (Instr.slice 70 (.slice A n c) none (some (.int .i64 (k : Int))) none).run Tryd.prog w = .ok (.slice A k c) w := by
  rw [run_slice_h w _ _ _ _ elemPcs _ _ (by omega) (by omega), sizePcs]
  cases A <;> simp [Result.andThen, sliced, Addr.add]
theorem run_loQ (g o n c i : Nat) (hi : i ≤ n) (hc : n ≤ c) (w : World) :
    (Instr.slice 70 (.slice (some ⟨g, o, none⟩) n c) (some (.int .i64 (i : Int))) none none).run Tryd.prog w = .ok (.slice (some ⟨g, loQ o i c, none⟩) (n - i) (c - i)) w := by
  rw [run_slice_l w _ _ _ _ elemPcs _ _ (by omega) (by omega), sizePcs]
  unfold loQ
  by_cases h : c = i
  · simp [Result.andThen, sliced, h]
  · simp [Result.andThen, sliced, h, Addr.add]
theorem pcs_hi {w : World} {g n : Nat} {P : List Pc} (h : RowN Pc.cells 108 w g P n n) (hl : P.length = n) {k : Nat} (hk : k ≤ n) : PcsOf w (.slice (some ⟨g, 0, none⟩) k n) (P.take k) := by
  subst hl
  have hl2 : (P.take k).length = k := by rw [List.length_take]; omega
  refine ⟨some ⟨g, 0, none⟩, P.length, by rw [hl2], fun _ => ⟨g, 0, rfl, h.lt, fun i hi j v hv => ?_⟩⟩
  rw [List.getElem_take] at hv
  exact h.at_ i (by omega) j v hv
theorem pcs_lo {w : World} {g n : Nat} {P : List Pc} (h : RowN Pc.cells 108 w g P n n) (hl : P.length = n) {k : Nat} (hk : k < n) : PcsOf w (.slice (some ⟨g, loQ 0 k n, none⟩) (n - k) (n - k)) (P.drop k) := by
  subst hl
  have hl2 : (P.drop k).length = P.length - k := by rw [List.length_drop]
  refine ⟨some ⟨g, loQ 0 k P.length, none⟩, P.length - k, by rw [hl2], fun _ => ⟨g, _, rfl, h.lt, fun i hi j v hv => ?_⟩⟩
  rw [List.getElem_drop] at hv
  have h1 := h.at_ (k + i) (by omega) j v hv
  rw [← h1]
  unfold loQ
  rw [if_neg (by omega)]
  congr 2
  omega
end Go.Proofs.YteeblpdjpaellaaDoor
