/- errors.Is over two errors of errors.New's make, and nil: contracts. No condition. -/
import Derived.Test.YteeblpdjpaellaaDoorBk
import Derived.WalkKit
import Derived.LaidEql
import Derived.Stop.Asserts
import Derived.RowKitTokens
namespace Go.Proofs.YteeblpdjpaellaaDoor
set_option linter.unusedSimpArgs false
set_option linter.unusedVariables false
set_option maxRecDepth 100000
open Go.RowKit Go.Extern.Stop Go.Stop Go.Extern

theorem typeOfSentinel (v : Value) (w : World) : (Extern.ReflectliteType.typeOf #[.iface 158 v]).run Tryd.prog w = .ok (.iface 142 (.agg #[.pointer (some ⟨3, 158, none⟩)])) w := by kernel_rfl
def cmpBody : Array Value → Sem Value := Extern.ReflectliteType.method fun t => do Extern.Rtype.noPackHeld "Comparable" t; pure (.bool (← typeInfo t).comparable)
theorem cmpFound : find Tryd.f121 = some cmpBody := by kernel_rfl
theorem cmpRuns (w : World) : (cmpBody #[.agg #[.pointer (some ⟨3, 158, none⟩)]]).run Tryd.prog w = .ok (.bool true) w := by kernel_rfl
theorem sentinelComparable (w : World) : (callFunc 121 #[.agg #[.pointer (some ⟨3, 158, none⟩)]]).run Tryd.prog w = .ok (.value (.bool true)) w := by
  rw [run_callFunc_extern Tryd.func121 (by kernel_rfl) (by kernel_rfl) (by kernel_rfl) cmpFound, cmpRuns]
  rfl
theorem ptrComparable : (Tryd.prog.info? 158).map (·.comparable) = some true := by kernel_rfl
theorem stringSize : (Tryd.prog.info? 184).map (·.size) = some 1 := by kernel_rfl
theorem lacksIs (v : Value) (xT : TypeId) (w : World) : (Instr.typeAssert (.iface 158 v) xT 144 true).run Tryd.prog w = .ok (.tuple #[.nilIface, .bool false]) w := run_typeAssert_lacksB Tryd.underlying144 (by kernel_rfl) (by kernel_rfl) v xT w
theorem lacksUnwrap (v : Value) (xT : TypeId) (w : World) : (Instr.typeAssert (.iface 158 v) xT 147 true).run Tryd.prog w = .ok (.tuple #[.nilIface, .bool false]) w := run_typeAssert_lacksB Tryd.underlying147 (by kernel_rfl) (by kernel_rfl) v xT w
theorem lacksUnwraps (v : Value) (xT : TypeId) (w : World) : (Instr.typeAssert (.iface 158 v) xT 149 true).run Tryd.prog w = .ok (.tuple #[.nilIface, .bool false]) w := run_typeAssert_lacksB Tryd.underlying149 (by kernel_rfl) (by kernel_rfl) v xT w
theorem methodComparable (v : Value) (w : World) : (Go.method 151 142 v "Comparable").run Tryd.prog w = .ok (121, v) w := by kernel_rfl

theorem is_nil (b : Addr) (w : World) :
    Calls Tryd.prog 66 #[.nilIface, .iface 158 (.pointer (some b))] w fun e w' => e = .returned (.bool false) ∧ w' = w := by
  have hn := run_eql_iface_nil_left (P := Tryd.prog) w 158 (.pointer (some b)) Tryd.underlying82
  go_enter Tryd.func66, Tryd.ntmps66
  go_wp2
  go_ret
  exact ⟨rfl, rfl⟩

theorem is_same (a : Addr) (w : World) :
    Calls Tryd.prog 66 #[.iface 158 (.pointer (some a)), .iface 158 (.pointer (some a))] w fun e w' => e = .returned (.bool true) ∧ w' = w := by
  obtain ⟨i, hi, hcmp⟩ := Option.map_eq_some_iff.1 ptrComparable
  obtain ⟨j, hj, hjs⟩ := Option.map_eq_some_iff.1 stringSize
  have xT := @run_callFunc_extern Tryd.prog 80 _ Extern.ReflectliteType.typeOf Tryd.func80 (by kernel_rfl) (by kernel_rfl) (by kernel_rfl) (by kernel_rfl)
  have tT := typeOfSentinel
  have cT := sentinelComparable
  have mR := methodComparable
  have heq := run_eql_iface_ptr_same (P := Tryd.prog) w a Tryd.underlying82 Tryd.underlying158 hi hcmp hj
  go_enter Tryd.func66, Tryd.ntmps66
  go_wp2
  refine wp_loop_rounds 1 ?_
  rw [rounds_succ]
  go_wp2
  go_ret
  exact ⟨rfl, rfl⟩

theorem is_other (a b : Addr) (ca cb : Array Value) (ta tb : TypeId) (w : World) (hne : a ≠ b) (ha : w.heap[a.block]? = some (.cells ca ta (0, 0))) (hb : w.heap[b.block]? = some (.cells cb tb (0, 0))) :
    Calls Tryd.prog 66 #[.iface 158 (.pointer (some a)), .iface 158 (.pointer (some b))] w fun e w' => e = .returned (.bool false) ∧ w' = w := by
  obtain ⟨i, hi, hcmp⟩ := Option.map_eq_some_iff.1 ptrComparable
  obtain ⟨j, hj, hjs⟩ := Option.map_eq_some_iff.1 stringSize
  have xT := @run_callFunc_extern Tryd.prog 80 _ Extern.ReflectliteType.typeOf Tryd.func80 (by kernel_rfl) (by kernel_rfl) (by kernel_rfl) (by kernel_rfl)
  have tT := typeOfSentinel
  have cT := sentinelComparable
  have mR := methodComparable
  have nI := lacksIs
  have nU := lacksUnwrap
  have nV := lacksUnwraps
  have heq := run_eql_iface_ptr_other (P := Tryd.prog) w Tryd.underlying82 Tryd.underlying158 hi hcmp hj (by rw [hjs]; decide) hne ha hb
  go_enter Tryd.func66, Tryd.ntmps66
  go_wp2
  refine wp_loop_rounds 1 ?_
  rw [rounds_succ]
  go_wp2
  go_ret
  exact ⟨rfl, rfl⟩
end Go.Proofs.YteeblpdjpaellaaDoor
