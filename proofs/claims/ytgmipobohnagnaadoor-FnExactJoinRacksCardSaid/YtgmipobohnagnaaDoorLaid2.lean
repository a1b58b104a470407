/- What the two laid error variables give a walk: a frame for the laws of this door. Condition: those that the rows print (the two variables read as errors of errors.New's make). -/
import Derived.Test.YtgmipobohnagnaaDoorCk
import Derived.Test.YtgmipobohnagnaaDoorRows
import Derived.Test.YtgmipobohnagnaaDoorOpen
import Derived.ChangeSame
import Derived.ChangeVars
import Derived.JoinedOf
import Derived.RowKit
import Derived.RowKitTokens
import Derived.LaidLaws
import Derived.Stop.LaidErr
namespace Go.Proofs.YtgmipobohnagnaaDoor
set_option linter.unusedSimpArgs false
set_option linter.unusedVariables false
set_option maxRecDepth 100000
open Go.ChangeShapes Go.WideShapes Go.ChangeAt Go.RowKit

theorem gSta : Tryd.prog.globalNamed "loop.example/g01326/impl.errState" = some 1 := by kernel_rfl
theorem gInv : Tryd.prog.globalNamed "loop.example/g01326/impl.errInvalid" = some 0 := by kernel_rfl
theorem gStaT : (Tryd.prog.globals[1]?).map (·.type) = some 94 := by kernel_rfl
theorem gInvT : (Tryd.prog.globals[0]?).map (·.type) = some 94 := by kernel_rfl
theorem starName : "*" ++ "errors.errorString" = "*errors.errorString" := by decide
theorem cellsEs : Tryd.prog.cellsOf 124 = 1 := by kernel_rfl
theorem cellsStr : Tryd.prog.cellsOf 9 = 1 := by kernel_rfl
theorem rowEs (u : TypeId) (h : Tryd.prog.typeName? 3 u = some "*errors.errorString") : u = 106 :=
  typeName_ptr_named (nm := "errors.errorString") (by rw [starName]; kernel_rfl) (by kernel_rfl) (by decide) u (by rw [starName]; exact h)

/-- The two variables, in the order in which they are laid. -/
def laid2 : List (String × DataW Unit) := [("loop.example/g01326/impl.errInvalid", Rows.laid_loop_example_g01326_impl_errInvalid), ("loop.example/g01326/impl.errState", Rows.laid_loop_example_g01326_impl_errState)]

theorem er2_of_laid {W : World} (h : laidMet Tryd.prog laid2 W) :
    ∃ a0 a1 : Addr, W.var? Tryd.prog "loop.example/g01326/impl.errState" = some #[.iface 106 (.pointer (some a0))] ∧ W.var? Tryd.prog "loop.example/g01326/impl.errInvalid" = some #[.iface 106 (.pointer (some a1))] ∧ Er2 W a0 a1 := by
  obtain ⟨ps, ⟨g1, t1, cs1, f1, p1, q1, hg1, ht1, hv1, hd1, ⟨g0, t0, cs0, f0, p0, q0, hg0, ht0, hv0, hd0, hq0, e0⟩, e1⟩, hnd, hrows⟩ := h
  obtain rfl := Option.some.inj (gSta.symm.trans hg0)
  obtain rfl := Option.some.inj (gInv.symm.trans hg1)
  obtain rfl := Option.some.inj (gStaT.symm.trans ht0)
  obtain rfl := Option.some.inj (gInvT.symm.trans ht1)
  have hq0' : q0 = [] := hq0
  subst hq0'
  subst e0
  subst e1
  obtain ⟨l0⟩ := cs0
  obtain ⟨l1⟩ := cs1
  have ok0 : ∀ u v, l0 = [.iface u v] → Value.okWide Tryd.prog W .any 0 u v := fun u v e => by
    subst e
    exact (hrows 1 0 (by simp [MemPlace.row])).2 u v (by simpa using World.var?_cell hg0 hv0 0)
  have ok1 : ∀ u v, l1 = [.iface u v] → Value.okWide Tryd.prog W .any 0 u v := fun u v e => by
    subst e
    exact (hrows 0 0 (by simp [MemPlace.row])).2 u v (by simpa using World.var?_cell hg1 hv1 0)
  obtain ⟨a0, s0, rfl, hc0, hs0, hz0, rfl⟩ := errorString_of_trod Tryd.underlying94 rowEs Tryd.underlying106 Tryd.underlying124 rfl rfl Tryd.underlying9 cellsEs cellsStr hd0 ok0
  obtain ⟨a1, s1, rfl, hc1, hs1, hz1, rfl⟩ := errorString_of_trod Tryd.underlying94 rowEs Tryd.underlying106 Tryd.underlying124 rfl rfl Tryd.underlying9 cellsEs cellsStr hd1 ok1
  have y0 : W.cell? ⟨1, 0, none⟩ = some (.iface 106 (.pointer (some a0))) := by simpa using World.var?_cell gSta hv0 0
  have y1 : W.cell? ⟨0, 0, none⟩ = some (.iface 106 (.pointer (some a1))) := by simpa using World.var?_cell gInv hv1 0
  have z0 := World.block_lt_of_cell? _ _ y0
  have z1 := World.block_lt_of_cell? _ _ y1
  exact ⟨a0, a1, hv0, hv1, y0, y1, ⟨z0, z1⟩⟩

abbrev textSta : ByteArray := { data := #[115, 116, 97, 116, 101] }
abbrev textInv : ByteArray := { data := #[105, 110, 118, 97, 108, 105, 100] }
noncomputable def lowBlock : Nat := (World.holding Tryd.prog default ⟨#[], #[], []⟩).heap.size
/-- A world that meets the condition. -/
noncomputable def laidWorld (os : Os) : World :=
  let w0 := World.holding Tryd.prog os ⟨#[.cells #[.string textInv] 124, .cells #[.string textSta] 124], #[], []⟩
  { w0 with heap := ((w0.heap.modify 1 fun
      | .cells _ t frozen => .cells #[.iface 106 (.pointer (some ⟨lowBlock + 1, 0, none⟩))] t frozen
      | o => o).modify 0 fun
      | .cells _ t frozen => .cells #[.iface 106 (.pointer (some ⟨lowBlock, 0, none⟩))] t frozen
      | o => o) }
theorem laidWorld_met (os : Os) (args : Array Value) : laidMet Tryd.prog laid2 ((laidWorld os).forCall (fun _ _ => 0) ⟨#[], args, []⟩).memory :=
  laidMet_of_run (ps := [.cell 0 0, .cell lowBlock 0, .cell 1 0, .cell (lowBlock + 1) 0]) 8 (by kernel_rfl) (by kernel_rfl) (by kernel_rfl)

theorem var_below {W W' : World} {n : String} {cs : Array Value} (h : W.var? Tryd.prog n = some cs) (hb : Below W.heap.size W W') : W'.var? Tryd.prog n = some cs := by
  unfold World.var? at h ⊢
  cases hg : Tryd.prog.globalNamed n with
  | none => simp [hg] at h
  | some g =>
    simp only [hg, Option.bind_some] at h ⊢
    have hlt : g < W.heap.size := by
      rcases Nat.lt_or_ge g W.heap.size with h' | h'
      · exact h'
      · simp [Array.getElem?_eq_none h'] at h
    rw [hb.block g hlt]
    exact h

theorem vars_read2 {H : Type} (enc : TypeId × Value → H) {W : World} {n0 n1 : String} {g0 g1 : Nat} {x0 x1 : Value}
    (hg0 : Tryd.prog.globalNamed n0 = some g0) (ht0 : (Tryd.prog.globals[g0]?).map (·.type) = some 94) (h0 : W.var? Tryd.prog n0 = some #[x0]) (i0 : IsIface x0)
    (hg1 : Tryd.prog.globalNamed n1 = some g1) (ht1 : (Tryd.prog.globals[g1]?).map (·.type) = some 94) (h1 : W.var? Tryd.prog n1 = some #[x1]) (i1 : IsIface x1) (sp : Nat → Bool) :
    DataW.TrodVars enc Tryd.prog W sp [n0, n1] [tok enc x0, tok enc x1] [.cell g0 0, .cell g1 0] :=
  ⟨g0, 94, #[x0], 1, [], [.cell g1 0], hg0, ht0, h0, trod_held Tryd.underlying94 i0 0, ⟨g1, 94, #[x1], 1, [], [], hg1, ht1, h1, trod_held Tryd.underlying94 i1 0, rfl, rfl⟩, rfl⟩

end Go.Proofs.YtgmipobohnagnaaDoor
