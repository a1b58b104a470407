/- errors.Is over two errors of errors.New's make, and nil: contracts. No condition. -/
import Derived.Test.YtkclobdealnkhaaDoorBk
import Derived.WalkKit
import Derived.LaidEql
import Derived.Stop.Asserts
import Derived.RowKitTokens
namespace Go.Proofs.YtkclobdealnkhaaDoor
set_option linter.unusedSimpArgs false
set_option linter.unusedVariables false
set_option maxRecDepth 100000
open Go.RowKit Go.Extern.Stop Go.Stop Go.Extern

theorem typeOfSentinel (v : Value) (w : World) : (Extern.ReflectliteType.typeOf #[.iface 181 v]).run Tryd.prog w = .ok (.iface 161 (.agg #[.pointer (some ⟨3, 181, none⟩)])) w := by kernel_rfl
def cmpBody : Array Value → Sem Value := Extern.ReflectliteType.method fun t => do Extern.Rtype.noPackHeld "Comparable" t; pure (.bool (← typeInfo t).comparable)
theorem cmpFound : find Tryd.f137 = some cmpBody := by kernel_rfl
theorem cmpRuns (w : World) : (cmpBody #[.agg #[.pointer (some ⟨3, 181, none⟩)]]).run Tryd.prog w = .ok (.bool true) w := by kernel_rfl
theorem sentinelComparable (w : World) : (callFunc 137 #[.agg #[.pointer (some ⟨3, 181, none⟩)]]).run Tryd.prog w = .ok (.value (.bool true)) w := by
  rw [run_callFunc_extern Tryd.func137 (by kernel_rfl) (by kernel_rfl) (by kernel_rfl) cmpFound, cmpRuns]
  rfl
theorem ptrComparable : (Tryd.prog.info? 181).map (·.comparable) = some true := by kernel_rfl
theorem stringSize : (Tryd.prog.info? 207).map (·.size) = some 1 := by kernel_rfl
theorem lacksIs (v : Value) (xT : TypeId) (w : World) : (Instr.typeAssert (.iface 181 v) xT 163 true).run Tryd.prog w = .ok (.tuple #[.nilIface, .bool false]) w := run_typeAssert_lacksB Tryd.underlying163 (by kernel_rfl) (by kernel_rfl) v xT w
theorem lacksUnwrap (v : Value) (xT : TypeId) (w : World) : (Instr.typeAssert (.iface 181 v) xT 166 true).run Tryd.prog w = .ok (.tuple #[.nilIface, .bool false]) w := run_typeAssert_lacksB Tryd.underlying166 (by kernel_rfl) (by kernel_rfl) v xT w
theorem lacksUnwraps (v : Value) (xT : TypeId) (w : World) : (Instr.typeAssert (.iface 181 v) xT 168 true).run Tryd.prog w = .ok (.tuple #[.nilIface, .bool false]) w := run_typeAssert_lacksB Tryd.underlying168 (by kernel_rfl) (by kernel_rfl) v xT w
theorem methodComparable (v : Value) (w : World) : (Go.method 151 161 v "Comparable").run Tryd.prog w = .ok (137, v) w := by kernel_rfl

theorem is_nil (b : Addr) (w : World) :
    Calls Tryd.prog 73 #[.nilIface, .iface 181 (.pointer (some b))] w fun e w' => e = .returned (.bool false) ∧ w' = w := by
  have hn := run_eql_iface_nil_left (P := Tryd.prog) w 181 (.pointer (some b)) Tryd.underlying111
  go_enter Tryd.func73, Tryd.ntmps73
  go_wp2
  go_ret
  exact ⟨rfl, rfl⟩

theorem is_same (a : Addr) (w : World) :
    Calls Tryd.prog 73 #[.iface 181 (.pointer (some a)), .iface 181 (.pointer (some a))] w fun e w' => e = .returned (.bool true) ∧ w' = w := by
  obtain ⟨i, hi, hcmp⟩ := Option.map_eq_some_iff.1 ptrComparable
  obtain ⟨j, hj, hjs⟩ := Option.map_eq_some_iff.1 stringSize
  have xT := @run_callFunc_extern Tryd.prog 90 _ Extern.ReflectliteType.typeOf Tryd.func90 (by kernel_rfl) (by kernel_rfl) (by kernel_rfl) (by kernel_rfl)
  have tT := typeOfSentinel
  have cT := sentinelComparable
  have mR := methodComparable
  have heq := run_eql_iface_ptr_same (P := Tryd.prog) w a Tryd.underlying111 Tryd.underlying181 hi hcmp hj
  go_enter Tryd.func73, Tryd.ntmps73
  go_wp2
  refine wp_loop_rounds 1 ?_
  rw [rounds_succ]
  go_wp2
  go_ret
  exact ⟨rfl, rfl⟩

theorem is_other (a b : Addr) (ca cb : Array Value) (ta tb : TypeId) (w : World) (hne : a ≠ b) (ha : w.heap[a.block]? = some (.cells ca ta (0, 0))) (hb : w.heap[b.block]? = some (.cells cb tb (0, 0))) :
    Calls Tryd.prog 73 #[.iface 181 (.pointer (some a)), .iface 181 (.pointer (some b))] w fun e w' => e = .returned (.bool false) ∧ w' = w := by
  obtain ⟨i, hi, hcmp⟩ := Option.map_eq_some_iff.1 ptrComparable
  obtain ⟨j, hj, hjs⟩ := Option.map_eq_some_iff.1 stringSize
  have xT := @run_callFunc_extern Tryd.prog 90 _ Extern.ReflectliteType.typeOf Tryd.func90 (by kernel_rfl) (by kernel_rfl) (by kernel_rfl) (by kernel_rfl)
  have tT := typeOfSentinel
  have cT := sentinelComparable
  have mR := methodComparable
  have nI := lacksIs
  have nU := lacksUnwrap
  have nV := lacksUnwraps
  have heq := run_eql_iface_ptr_other (P := Tryd.prog) w Tryd.underlying111 Tryd.underlying181 hi hcmp hj (by rw [hjs]; decide) hne ha hb
  go_enter Tryd.func73, Tryd.ntmps73
  go_wp2
  refine wp_loop_rounds 1 ?_
  rw [rounds_succ]
  go_wp2
  go_ret
  exact ⟨rfl, rfl⟩
end Go.Proofs.YtkclobdealnkhaaDoor
