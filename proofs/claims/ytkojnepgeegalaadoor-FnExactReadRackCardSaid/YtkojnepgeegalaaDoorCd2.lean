/- The codes of readers' errors: nil and syntax. Condition: the two error variables hold two different errors of errors.New's make. -/
import Derived.Test.YtkojnepgeegalaaDoorIs
import Derived.Test.YtkojnepgeegalaaDoorRd
namespace Go.Proofs.YtkojnepgeegalaaDoor
set_option linter.unusedSimpArgs false
set_option linter.unusedVariables false
set_option maxRecDepth 100000
open Go.RowKit

/-- The two error variables. -/
structure Es2 (w : World) (s y : Addr) : Prop where
  cs : w.cell? ⟨1, 0, none⟩ = some (.iface 166 (.pointer (some s)))
  cy : Syn w y
  hs : ∃ c t, w.heap[s.block]? = some (.cells c t (0, 0))
  hy : ∃ c t, w.heap[y.block]? = some (.cells c t (0, 0))
  ne : s ≠ y
theorem Es2.below {w w' : World} {s y : Addr} (h : Es2 w s y) (hb : Below w.heap.size w w') : Es2 w' s y := by
  have bl : ∀ {b : Nat} {o : Obj}, w.heap[b]? = some o → w'.heap[b]? = some o := fun {b o} hx => (hb.block b (Array.getElem?_eq_some_iff.1 hx).1).trans hx
  obtain ⟨c0, t0, h0⟩ := h.hs
  obtain ⟨c1, t1, h1⟩ := h.hy
  have l0 := World.block_lt_of_cell? _ _ h.cs
  have l1 := World.block_lt_of_cell? _ _ h.cy
  exact ⟨(hb.cell (p := ⟨1, 0, none⟩) l0).trans h.cs, (hb.cell (p := ⟨0, 0, none⟩) l1).trans h.cy, ⟨c0, t0, bl h0⟩, ⟨c1, t1, bl h1⟩, h.ne⟩
theorem codeOf_syn (w : World) (s y : Addr) (h : Es2 w s y) : Calls Tryd.prog 47 #[.iface 166 (.pointer (some y))] w fun e w' => e = .returned (.int .i64 5) ∧ w' = w := by
  have cs := h.cs
  have cy := h.cy
  unfold Syn at cy
  have HE := Lib.hid h
  obtain ⟨c0, t0, h0⟩ := h.hs
  obtain ⟨c1, t1, h1⟩ := h.hy
  have H0 := Lib.hid h0
  have H1 := Lib.hid h1
  clear h h0 h1
  go_enter Tryd.func47, Tryd.ntmps47
  go_wp2_with fail
  refine (is_other y s c1 c0 t1 t0 _ (fun e => HE.out.ne e.symm) H1.out H0.out).mono ?_
  rintro e w' ⟨rfl, rfl⟩
  go_wp2_with fail
  refine (is_same y _).mono ?_
  rintro e w' ⟨rfl, rfl⟩
  go_wp2
  go_ret
  exact ⟨rfl, rfl⟩
end Go.Proofs.YtkojnepgeegalaaDoor
