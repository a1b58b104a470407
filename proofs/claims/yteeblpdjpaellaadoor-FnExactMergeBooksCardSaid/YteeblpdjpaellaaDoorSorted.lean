/- Whether a list is sorted, by the model and by the program: contracts. Condition: the list is no longer than a slice can be, its books' numbers lie within their kinds; the three error variables hold three different errors of errors.New's make. -/
import Derived.Test.YteeblpdjpaellaaDoorFirst
import Derived.Test.YteeblpdjpaellaaDoorCode
import Derived.Deep.RegionWith
namespace Go.Proofs.YteeblpdjpaellaaDoor
set_option linter.unusedSimpArgs false
set_option linter.unusedVariables false
set_option maxRecDepth 100000
open Go.RowKit

def srt (xs : List Bk) : Bool := okB xs && decide (firstOut xs < 0)
def srtCode (xs : List Bk) : Int := if okB xs then 0 else 1

set_option maxHeartbeats 2000000 in
theorem checkSorted_invalid (v : Value) (xs : List Bk) (w : World) (g : Nat) (s i y : Addr) (he : Errs w s i y) (hv : w.cell? ⟨g, 0, none⟩ = some v) (hg : g < w.heap.size) (hs : SliceOf w v xs) (hm : xs.length ≤ maxLen) (hk : okB xs = false) :
    Calls Tryd.prog 45 #[.slice (some ⟨g, 0, none⟩) 1 1] w fun e w' => e = .returned (.iface 158 (.pointer (some i))) ∧ Below w.heap.size w w' := by
  have HS := Lib.hid hs
  have HE := Lib.hid he
  obtain ⟨A, c, rfl, -⟩ := hs
  clear he
  go_enter Tryd.func45, Tryd.ntmps45
  go_wp2
  refine wp_loop_rounds 2 ?_
  rw [rounds_succ]
  go_wp2_with fail
  refine (validBooks_any _ xs _ HS.out hm).mono ?_
  rintro e w1 ⟨rfl, h1⟩
  have ci := (HE.out.below h1).ci
  rw [hk]
  go_wp2
  go_ret
  exact ⟨rfl, h1⟩

set_option maxHeartbeats 2000000 in
theorem checkSorted_valid (v : Value) (xs : List Bk) (wf : ∀ b ∈ xs, b.Wf) (w : World) (g : Nat) (s i y : Addr) (he : Errs w s i y) (hv : w.cell? ⟨g, 0, none⟩ = some v) (hg : g < w.heap.size) (hs : SliceOf w v xs) (hn : xs.length ≤ 1048576) (hm : xs.length ≤ maxLen) (hk : okB xs = true) :
    Calls Tryd.prog 45 #[.slice (some ⟨g, 0, none⟩) 1 1] w fun e w' => e = .returned (if (runs xs).length < 2 then .nilIface else .iface 158 (.pointer (some s))) ∧ Below w.heap.size w w' := by
  have HS := Lib.hid hs
  have WF := Lib.hid wf
  have HE := Lib.hid he
  obtain ⟨A, c, rfl, -⟩ := hs
  clear he wf
  by_cases hl : (runs xs).length < 2
  · rw [if_pos hl]
    go_enter Tryd.func45, Tryd.ntmps45
    go_wp2
    refine wp_loop_rounds 2 ?_
    rw [rounds_succ]
    go_wp2_with fail
    refine (validBooks_any _ xs _ HS.out hm).mono ?_
    rintro e w1 ⟨rfl, h1⟩
    have hv1 := (h1.cell (p := ⟨g, 0, none⟩) hg).trans hv
    rw [hk]
    go_wp2
    rw [rounds_succ]
    go_wp2
    refine wp_loop_rounds 2 ?_
    rw [rounds_succ]
    go_wp2_with fail
    refine (runsOf_any _ xs WF.out _ (HS.out.below h1) hn).mono ?_
    rintro e w2 ⟨v2, rfl, ho, h2⟩
    obtain ⟨A2, c2, rfl, -⟩ := ownsInts ho
    have hl' : ¬ (1 : Int) < ((runs xs).length : Int) := by omega
    clear ho
    go_wp2
    rw [rounds_succ]
    go_wp2
    go_ret
    exact ⟨rfl, bnext h1 h2⟩
  · rw [if_neg hl]
    go_enter Tryd.func45, Tryd.ntmps45
    go_wp2
    refine wp_loop_rounds 2 ?_
    rw [rounds_succ]
    go_wp2_with fail
    refine (validBooks_any _ xs _ HS.out hm).mono ?_
    rintro e w1 ⟨rfl, h1⟩
    have hv1 := (h1.cell (p := ⟨g, 0, none⟩) hg).trans hv
    rw [hk]
    go_wp2
    rw [rounds_succ]
    go_wp2
    refine wp_loop_rounds 2 ?_
    rw [rounds_succ]
    go_wp2_with fail
    refine (runsOf_any _ xs WF.out _ (HS.out.below h1) hn).mono ?_
    rintro e w2 ⟨v2, rfl, ho, h2⟩
    obtain ⟨A2, c2, rfl, -⟩ := ownsInts ho
    have cs := (HE.out.below (bnext h1 h2)).cs
    have hl' : (1 : Int) < ((runs xs).length : Int) := by omega
    clear ho
    go_wp2
    go_ret
    exact ⟨rfl, bnext h1 h2⟩
end Go.Proofs.YteeblpdjpaellaaDoor
