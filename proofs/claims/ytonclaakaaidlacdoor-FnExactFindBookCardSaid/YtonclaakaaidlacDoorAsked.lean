/- What the functions ask of a sorted list, by the model and by the program: contracts. Condition: the three error variables hold three different errors of errors.New's make; at most 1048576 books. -/
import Derived.Test.YtonclaakaaidlacDoorFirstW
import Derived.Test.YtonclaakaaidlacDoorSorted2
namespace Go.Proofs.YtonclaakaaidlacDoor
set_option linter.unusedSimpArgs false
set_option linter.unusedVariables false
set_option maxRecDepth 100000
open Go.RowKit

set_option maxHeartbeats 1000000 in
theorem l01Asked_any (v : Value) (xs : List Bk) (wf : ∀ b ∈ xs, b.Wf) (w : World) (hs : SliceOf w v xs) (hm : xs.length ≤ maxLen) :
    Calls Tryd.prog 37 #[v] w fun e w' => e = .returned (.int .i64 (askS xs)) ∧ Below w.heap.size w w' := by
  have HS := Lib.hid hs
  have WF := Lib.hid wf
  obtain ⟨A, c, rfl, -⟩ := hs
  clear wf
  cases hk : okB xs
  · have E0 := Lib.hid (show askS xs = 1 by unfold askS; rw [hk]; rfl)
    go_enter Tryd.func37, Tryd.ntmps37
    go_wp2_with fail
    refine (l01Ok_any _ xs WF.out _ HS.out hm).mono ?_
    rintro e w1 ⟨rfl, h1⟩
    rw [hk]
    go_wp2
    go_ret
    exact ⟨by rw [E0.out]; rfl, h1⟩
  · by_cases hf : firstOut xs < 0
    · have E0 := Lib.hid (show askS xs = 0 by unfold askS; rw [hk, if_pos rfl, if_pos hf])
      have hf2 : ¬ 0 ≤ firstOut xs := by omega
      go_enter Tryd.func37, Tryd.ntmps37
      go_wp2_with fail
      refine (l01Ok_any _ xs WF.out _ HS.out hm).mono ?_
      rintro e w1 ⟨rfl, h1⟩
      rw [hk]
      go_wp2_with fail
      refine (l01Out_any _ xs WF.out _ (HS.out.below h1) hm).mono ?_
      rintro e w2 ⟨rfl, h2⟩
      go_wp2
      go_ret
      exact ⟨by rw [E0.out]; rfl, bnext h1 h2⟩
    · have E0 := Lib.hid (show askS xs = 4 by unfold askS; rw [hk, if_pos rfl, if_neg hf])
      have hf2 : 0 ≤ firstOut xs := by omega
      go_enter Tryd.func37, Tryd.ntmps37
      go_wp2_with fail
      refine (l01Ok_any _ xs WF.out _ HS.out hm).mono ?_
      rintro e w1 ⟨rfl, h1⟩
      rw [hk]
      go_wp2_with fail
      refine (l01Out_any _ xs WF.out _ (HS.out.below h1) hm).mono ?_
      rintro e w2 ⟨rfl, h2⟩
      go_wp2
      go_ret
      exact ⟨by rw [E0.out]; rfl, bnext h1 h2⟩

/-- The error that a list is answered with. -/
def errV (xs : List Bk) (s i : Addr) : Value := if askS xs = 1 then .iface 113 (.pointer (some i)) else if askS xs = 4 then .iface 113 (.pointer (some s)) else .nilIface

theorem checkSorted_any (v : Value) (xs : List Bk) (wf : ∀ b ∈ xs, b.Wf) (w : World) (g : Nat) (s i y : Addr) (he : Errs w s i y) (hv : w.cell? ⟨g, 0, none⟩ = some v) (hg : g < w.heap.size) (hs : SliceOf w v xs) (hn : xs.length ≤ 1048576) (hm : xs.length ≤ maxLen) :
    Calls Tryd.prog 26 #[.slice (some ⟨g, 0, none⟩) 1 1] w fun e w' => e = .returned (errV xs s i) ∧ Below w.heap.size w w' := by
  cases hk : okB xs
  · rw [show errV xs s i = .iface 113 (.pointer (some i)) by unfold errV askS; rw [hk]; rfl]
    exact checkSorted_invalid v xs w g s i y he hv hg hs hm hk
  · have C := checkSorted_valid v xs wf w g s i y he hv hg hs hn hm hk
    have E : errV xs s i = if (runs xs).length < 2 then .nilIface else .iface 113 (.pointer (some s)) := by
      unfold errV askS
      rw [hk, if_pos rfl]
      by_cases hl : (runs xs).length < 2
      · rw [if_pos hl]
        rcases none_or xs xs.length with hno | ⟨k, k1, k2, k3, k4⟩
        · rw [firstOut_none hno]; rfl
        · obtain ⟨r, hr⟩ := runs_out k1 k2 k3 k4
          rw [hr] at hl; simp at hl; omega
      · rw [if_neg hl]
        rcases none_or xs xs.length with hno | ⟨k, k1, k2, k3, k4⟩
        · exact absurd (runs_none hno) hl
        · rw [firstOut_at k3 k1 k2 k4, if_neg (by omega)]; rfl
    rw [E]
    exact C

end Go.Proofs.YtonclaakaaidlacDoor
