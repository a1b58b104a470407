/- The code of an error, over the package's three errors: contracts. Condition: the three variables hold three different errors of errors.New's make. -/
import Derived.Test.YteeblpdjpaellaaDoorIs
import Derived.Below
import Derived.Deep.Quiet
namespace Go.Proofs.YteeblpdjpaellaaDoor
set_option linter.unusedSimpArgs false
set_option linter.unusedVariables false
set_option maxRecDepth 100000
open Go.RowKit Go.Extern.Stop Go.Stop Go.Extern

/-- The three error variables, by the order of the program's variables: state, invalid, syntax. -/
structure Errs (w : World) (s i y : Addr) : Prop where
  cs : w.cell? ⟨1, 0, none⟩ = some (.iface 158 (.pointer (some s)))
  ci : w.cell? ⟨0, 0, none⟩ = some (.iface 158 (.pointer (some i)))
  cy : w.cell? ⟨2, 0, none⟩ = some (.iface 158 (.pointer (some y)))
  low : 2 < w.heap.size
  hs : ∃ c t, w.heap[s.block]? = some (.cells c t (0, 0))
  hi : ∃ c t, w.heap[i.block]? = some (.cells c t (0, 0))
  hy : ∃ c t, w.heap[y.block]? = some (.cells c t (0, 0))
  si : s ≠ i
  sy : s ≠ y
  iy : i ≠ y
theorem Errs.below {w w' : World} {s i y : Addr} (h : Errs w s i y) (hb : Below w.heap.size w w') : Errs w' s i y := by
  have bl : ∀ {b : Nat} {o : Obj}, w.heap[b]? = some o → w'.heap[b]? = some o := fun {b o} hx => (hb.block b (Array.getElem?_eq_some_iff.1 hx).1).trans hx
  obtain ⟨c0, t0, h0⟩ := h.hs
  obtain ⟨c1, t1, h1⟩ := h.hi
  obtain ⟨c2, t2, h2⟩ := h.hy
  have l := h.low
  exact ⟨(hb.cell (p := ⟨1, 0, none⟩) (by show 1 < _; omega)).trans h.cs, (hb.cell (p := ⟨0, 0, none⟩) (by show 0 < _; omega)).trans h.ci, (hb.cell (p := ⟨2, 0, none⟩) (by show 2 < _; omega)).trans h.cy, Nat.lt_of_lt_of_le l hb.size, ⟨c0, t0, bl h0⟩, ⟨c1, t1, bl h1⟩, ⟨c2, t2, bl h2⟩, h.si, h.sy, h.iy⟩

theorem codeOf_nil (w : World) : Calls Tryd.prog 46 #[.nilIface] w fun e w' => e = .returned (.int .i64 0) ∧ w' = w := by
  have hn := fun (v : Value) => run_eql_iface_nil_left (P := Tryd.prog) w 158 v Tryd.underlying82
  go_enter Tryd.func46, Tryd.ntmps46
  go_wp2
  go_ret
  exact ⟨rfl, rfl⟩

theorem codeOf_state (w : World) (s i y : Addr) (h : Errs w s i y) : Calls Tryd.prog 46 #[.iface 158 (.pointer (some s))] w fun e w' => e = .returned (.int .i64 4) ∧ w' = w := by
  have cs := h.cs
  go_enter Tryd.func46, Tryd.ntmps46
  go_wp2_with fail
  refine (is_same s _).mono ?_
  rintro e w' ⟨rfl, rfl⟩
  go_wp2
  go_ret
  exact ⟨rfl, rfl⟩

theorem codeOf_invalid (w : World) (s i y : Addr) (h : Errs w s i y) : Calls Tryd.prog 46 #[.iface 158 (.pointer (some i))] w fun e w' => e = .returned (.int .i64 1) ∧ w' = w := by
  have cs := h.cs
  have cy := h.cy
  have HE := Lib.hid h
  obtain ⟨c0, t0, h0⟩ := h.hs
  obtain ⟨c1, t1, h1⟩ := h.hi
  obtain ⟨c2, t2, h2⟩ := h.hy
  have H0 := Lib.hid h0
  have H1 := Lib.hid h1
  have H2 := Lib.hid h2
  clear h h0 h1 h2
  go_enter Tryd.func46, Tryd.ntmps46
  go_wp2_with fail
  refine (is_other i s c1 c0 t1 t0 _ (fun e => HE.out.si e.symm) H1.out H0.out).mono ?_
  rintro e w' ⟨rfl, rfl⟩
  go_wp2_with fail
  refine (is_other i y c1 c2 t1 t2 _ HE.out.iy H1.out H2.out).mono ?_
  rintro e w' ⟨rfl, rfl⟩
  go_wp2
  go_ret
  exact ⟨rfl, rfl⟩
end Go.Proofs.YteeblpdjpaellaaDoor
