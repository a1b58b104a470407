/- What the two laid error variables give a walk: a frame for the laws of this door. Condition: those that the rows print (the two variables read as errors of errors.New's make). -/
import Derived.Test.YtkojnepgeegalaaDoorCd2
import Derived.Test.YtkojnepgeegalaaDoorRows
import Derived.Test.YtkojnepgeegalaaDoorOpen
import Derived.ChangeSame
import Derived.ChangeVars
import Derived.JoinedOf
import Derived.RowKit
import Derived.RowKitTokens
import Derived.LaidLaws
import Derived.Stop.LaidErr
namespace Go.Proofs.YtkojnepgeegalaaDoor
set_option linter.unusedSimpArgs false
set_option linter.unusedVariables false
set_option maxRecDepth 100000
open Go.ChangeShapes Go.WideShapes Go.ChangeAt Go.RowKit

theorem gSyn : Tryd.prog.globalNamed "loop.example/g01326/impl.errSyntax" = some 0 := by kernel_rfl
theorem gSta : Tryd.prog.globalNamed "loop.example/g01326/impl.errState" = some 1 := by kernel_rfl
theorem gSynT : (Tryd.prog.globals[0]?).map (·.type) = some 74 := by kernel_rfl
theorem gStaT : (Tryd.prog.globals[1]?).map (·.type) = some 74 := by kernel_rfl
theorem starName : "*" ++ "errors.errorString" = "*errors.errorString" := by decide
theorem cellsEs : Tryd.prog.cellsOf 191 = 1 := by kernel_rfl
theorem cellsStr : Tryd.prog.cellsOf 9 = 1 := by kernel_rfl
theorem rowEs (u : TypeId) (h : Tryd.prog.typeName? 3 u = some "*errors.errorString") : u = 166 :=
  typeName_ptr_named (nm := "errors.errorString") (by rw [starName]; kernel_rfl) (by kernel_rfl) (by decide) u (by rw [starName]; exact h)

/-- The two variables, in the order in which they are laid. -/
def laidR : List (String × DataW Unit) := [("loop.example/g01326/impl.errState", Rows.laid_loop_example_g01326_impl_errState), ("loop.example/g01326/impl.errSyntax", Rows.laid_loop_example_g01326_impl_errSyntax)]

theorem es2_of_laid {W : World} (h : laidMet Tryd.prog laidR W) :
    ∃ a0 a1 : Addr, W.var? Tryd.prog "loop.example/g01326/impl.errSyntax" = some #[.iface 166 (.pointer (some a0))] ∧ W.var? Tryd.prog "loop.example/g01326/impl.errState" = some #[.iface 166 (.pointer (some a1))] ∧ Es2 W a1 a0 := by
  obtain ⟨ps, ⟨g1, t1, cs1, f1, p1, q1, hg1, ht1, hv1, hd1, ⟨g0, t0, cs0, f0, p0, q0, hg0, ht0, hv0, hd0, hq0, e0⟩, e1⟩, hnd, hrows⟩ := h
  obtain rfl := Option.some.inj (gSyn.symm.trans hg0)
  obtain rfl := Option.some.inj (gSta.symm.trans hg1)
  obtain rfl := Option.some.inj (gSynT.symm.trans ht0)
  obtain rfl := Option.some.inj (gStaT.symm.trans ht1)
  have hq0' : q0 = [] := hq0
  subst hq0'
  subst e0
  subst e1
  obtain ⟨l0⟩ := cs0
  obtain ⟨l1⟩ := cs1
  have ok0 : ∀ u v, l0 = [.iface u v] → Value.okWide Tryd.prog W .any 0 u v := fun u v e => by
    subst e
    exact (hrows 0 0 (by simp [MemPlace.row])).2 u v (by simpa using World.var?_cell hg0 hv0 0)
  have ok1 : ∀ u v, l1 = [.iface u v] → Value.okWide Tryd.prog W .any 0 u v := fun u v e => by
    subst e
    exact (hrows 1 0 (by simp [MemPlace.row])).2 u v (by simpa using World.var?_cell hg1 hv1 0)
  obtain ⟨a0, s0, rfl, hc0, hs0, hz0, rfl⟩ := errorString_of_trod Tryd.underlying74 rowEs Tryd.underlying166 Tryd.underlying191 rfl rfl Tryd.underlying9 cellsEs cellsStr hd0 ok0
  obtain ⟨a1, s1, rfl, hc1, hs1, hz1, rfl⟩ := errorString_of_trod Tryd.underlying74 rowEs Tryd.underlying166 Tryd.underlying191 rfl rfl Tryd.underlying9 cellsEs cellsStr hd1 ok1
  have y0 : W.cell? ⟨0, 0, none⟩ = some (.iface 166 (.pointer (some a0))) := by simpa using World.var?_cell gSyn hv0 0
  have y1 : W.cell? ⟨1, 0, none⟩ = some (.iface 166 (.pointer (some a1))) := by simpa using World.var?_cell gSta hv1 0
  obtain ⟨c0, t0, hb0⟩ := (hrows a0.block a0.off (by simp [MemPlace.row])).1
  obtain ⟨c1, t1, hb1⟩ := (hrows a1.block a1.off (by simp [MemPlace.row])).1
  refine ⟨a0, a1, hv0, hv1, y1, y0, ⟨c1, t1, hb1⟩, ⟨c0, t0, hb0⟩, ?_⟩
  rintro rfl
  simp [MemPlace.row] at hnd

abbrev textSyn : ByteArray := { data := #[115, 121, 110, 116, 97, 120] }
abbrev textSta : ByteArray := { data := #[115, 116, 97, 116, 101] }
noncomputable def lowBlock : Nat := (World.holding Tryd.prog default ⟨#[], #[], []⟩).heap.size
/-- A world that meets the condition. -/
noncomputable def laidWorld (os : Os) : World :=
  let w0 := World.holding Tryd.prog os ⟨#[.cells #[.string textSta] 191, .cells #[.string textSyn] 191], #[], []⟩
  { w0 with heap := ((w0.heap.modify 0 fun
      | .cells _ t frozen => .cells #[.iface 166 (.pointer (some ⟨lowBlock + 1, 0, none⟩))] t frozen
      | o => o).modify 1 fun
      | .cells _ t frozen => .cells #[.iface 166 (.pointer (some ⟨lowBlock, 0, none⟩))] t frozen
      | o => o) }
theorem laidWorld_met (os : Os) (args : Array Value) : laidMet Tryd.prog laidR ((laidWorld os).forCall (fun _ _ => 0) ⟨#[], args, []⟩).memory :=
  laidMet_of_run (ps := [.cell 1 0, .cell lowBlock 0, .cell 0 0, .cell (lowBlock + 1) 0]) 8 (by kernel_rfl) (by kernel_rfl) (by kernel_rfl)

theorem var_below {W W' : World} {n : String} {cs : Array Value} (h : W.var? Tryd.prog n = some cs) (hb : Below W.heap.size W W') : W'.var? Tryd.prog n = some cs := by
  unfold World.var? at h ⊢
  cases hg : Tryd.prog.globalNamed n with
  | none => simp [hg] at h
  | some g =>
    simp only [hg, Option.bind_some] at h ⊢
    have hlt : g < W.heap.size := by
      rcases Nat.lt_or_ge g W.heap.size with h' | h'
      · exact h'
      · simp [Array.getElem?_eq_none h'] at h
    rw [hb.block g hlt]
    exact h

theorem vars_read2 {H : Type} (enc : TypeId × Value → H) {W : World} {n0 n1 : String} {g0 g1 : Nat} {x0 x1 : Value}
    (hg0 : Tryd.prog.globalNamed n0 = some g0) (ht0 : (Tryd.prog.globals[g0]?).map (·.type) = some 74) (h0 : W.var? Tryd.prog n0 = some #[x0]) (i0 : IsIface x0)
    (hg1 : Tryd.prog.globalNamed n1 = some g1) (ht1 : (Tryd.prog.globals[g1]?).map (·.type) = some 74) (h1 : W.var? Tryd.prog n1 = some #[x1]) (i1 : IsIface x1) (sp : Nat → Bool) :
    DataW.TrodVars enc Tryd.prog W sp [n0, n1] [tok enc x0, tok enc x1] [.cell g0 0, .cell g1 0] :=
  ⟨g0, 74, #[x0], 1, [], [.cell g1 0], hg0, ht0, h0, trod_held Tryd.underlying74 i0 0, ⟨g1, 74, #[x1], 1, [], [], hg1, ht1, h1, trod_held Tryd.underlying74 i1 0, rfl, rfl⟩, rfl⟩

end Go.Proofs.YtkojnepgeegalaaDoor
