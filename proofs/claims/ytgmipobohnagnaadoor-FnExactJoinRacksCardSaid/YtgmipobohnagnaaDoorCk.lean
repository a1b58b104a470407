/- Whether a list is sorted, over the two errors that are asked for: contracts. Condition: at most 1048576 books, whose numbers lie within their kinds; the two error variables hold errors of errors.New's make. -/
import Derived.Test.YtgmipobohnagnaaDoorFirst
namespace Go.Proofs.YtgmipobohnagnaaDoor
set_option linter.unusedSimpArgs false
set_option linter.unusedVariables false
set_option maxRecDepth 100000
open Go.RowKit

/-- The two error variables that checkSorted names. -/
structure Er2 (w : World) (s i : Addr) : Prop where
  cs : w.cell? ⟨1, 0, none⟩ = some (.iface 106 (.pointer (some s)))
  ci : w.cell? ⟨0, 0, none⟩ = some (.iface 106 (.pointer (some i)))
  low : 1 < w.heap.size ∧ 0 < w.heap.size
theorem Er2.below {w w' : World} {s i : Addr} (h : Er2 w s i) (hb : Below w.heap.size w w') : Er2 w' s i := by
  obtain ⟨l1, l2⟩ := h.low
  exact ⟨(hb.cell (p := ⟨1, 0, none⟩) l1).trans h.cs, (hb.cell (p := ⟨0, 0, none⟩) l2).trans h.ci, ⟨Nat.lt_of_lt_of_le l1 hb.size, Nat.lt_of_lt_of_le l2 hb.size⟩⟩

set_option maxHeartbeats 2000000 in
theorem ck_invalid (v : Value) (xs : List Bk) (w : World) (g : Nat) (s i : Addr) (he : Er2 w s i) (hv : w.cell? ⟨g, 0, none⟩ = some v) (hg : g < w.heap.size) (hs : SliceOf w v xs) (hm : xs.length ≤ maxLen) (hk : okB xs = false) :
    Calls Tryd.prog 44 #[.slice (some ⟨g, 0, none⟩) 1 1] w fun e w' => e = .returned (.iface 106 (.pointer (some i))) ∧ Below w.heap.size w w' := by
  have HS := Lib.hid hs
  have HE := Lib.hid he
  obtain ⟨A, c, rfl, -⟩ := hs
  clear he
  go_enter Tryd.func44, Tryd.ntmps44
  go_wp2
  refine wp_loop_rounds 2 ?_
  rw [rounds_succ]
  go_wp2_with fail
  refine (validBooks_any _ xs _ HS.out hm).mono ?_
  rintro e w1 ⟨rfl, h1⟩
  have ci := (HE.out.below h1).ci
  rw [hk]
  go_wp2
  go_ret
  exact ⟨rfl, h1⟩

set_option maxHeartbeats 2000000 in
theorem ck_valid (v : Value) (xs : List Bk) (wf : ∀ b ∈ xs, b.Wf) (w : World) (g : Nat) (s i : Addr) (he : Er2 w s i) (hv : w.cell? ⟨g, 0, none⟩ = some v) (hg : g < w.heap.size) (hs : SliceOf w v xs) (hn : xs.length ≤ 1048576) (hm : xs.length ≤ maxLen) (hk : okB xs = true) :
    Calls Tryd.prog 44 #[.slice (some ⟨g, 0, none⟩) 1 1] w fun e w' => e = .returned (if (runs xs).length < 2 then .nilIface else .iface 106 (.pointer (some s))) ∧ Below w.heap.size w w' := by
  have HS := Lib.hid hs
  have WF := Lib.hid wf
  have HE := Lib.hid he
  obtain ⟨A, c, rfl, -⟩ := hs
  clear he wf
  by_cases hl : (runs xs).length < 2
  · rw [if_pos hl]
    go_enter Tryd.func44, Tryd.ntmps44
    go_wp2
    refine wp_loop_rounds 2 ?_
    rw [rounds_succ]
    go_wp2_with fail
    refine (validBooks_any _ xs _ HS.out hm).mono ?_
    rintro e w1 ⟨rfl, h1⟩
    have hv1 := (h1.cell (p := ⟨g, 0, none⟩) hg).trans hv
    rw [hk]
    go_wp2
    rw [rounds_succ]
    go_wp2
    refine wp_loop_rounds 2 ?_
    rw [rounds_succ]
    go_wp2_with fail
    refine (runsOf_any _ xs WF.out _ (HS.out.below h1) hn).mono ?_
    rintro e w2 ⟨v2, rfl, ho, h2⟩
    obtain ⟨A2, c2, rfl, -⟩ := ownsInts ho
    have hl' : ¬ (1 : Int) < ((runs xs).length : Int) := by omega
    clear ho
    go_wp2
    rw [rounds_succ]
    go_wp2
    go_ret
    exact ⟨rfl, bnext h1 h2⟩
  · rw [if_neg hl]
    go_enter Tryd.func44, Tryd.ntmps44
    go_wp2
    refine wp_loop_rounds 2 ?_
    rw [rounds_succ]
    go_wp2_with fail
    refine (validBooks_any _ xs _ HS.out hm).mono ?_
    rintro e w1 ⟨rfl, h1⟩
    have hv1 := (h1.cell (p := ⟨g, 0, none⟩) hg).trans hv
    rw [hk]
    go_wp2
    rw [rounds_succ]
    go_wp2
    refine wp_loop_rounds 2 ?_
    rw [rounds_succ]
    go_wp2_with fail
    refine (runsOf_any _ xs WF.out _ (HS.out.below h1) hn).mono ?_
    rintro e w2 ⟨v2, rfl, ho, h2⟩
    obtain ⟨A2, c2, rfl, -⟩ := ownsInts ho
    have cs := (HE.out.below (bnext h1 h2)).cs
    have hl' : (1 : Int) < ((runs xs).length : Int) := by omega
    clear ho
    go_wp2
    go_ret
    exact ⟨rfl, bnext h1 h2⟩

/-- The error that a list is answered with. -/
def erV (xs : List Bk) (s i : Addr) : Value := if okB xs then (if firstOut xs < 0 then .nilIface else .iface 106 (.pointer (some s))) else .iface 106 (.pointer (some i))
theorem ck_any (v : Value) (xs : List Bk) (wf : ∀ b ∈ xs, b.Wf) (w : World) (g : Nat) (s i : Addr) (he : Er2 w s i) (hv : w.cell? ⟨g, 0, none⟩ = some v) (hg : g < w.heap.size) (hs : SliceOf w v xs) (hn : xs.length ≤ 1048576) :
    Calls Tryd.prog 44 #[.slice (some ⟨g, 0, none⟩) 1 1] w fun e w' => e = .returned (erV xs s i) ∧ Below w.heap.size w w' := by
  have hm : xs.length ≤ maxLen := by unfold maxLen; omega
  cases hk : okB xs
  · rw [show erV xs s i = .iface 106 (.pointer (some i)) by unfold erV; rw [hk]; rfl]
    exact ck_invalid v xs w g s i he hv hg hs hm hk
  · have C := ck_valid v xs wf w g s i he hv hg hs hn hm hk
    have E : erV xs s i = if (runs xs).length < 2 then .nilIface else .iface 106 (.pointer (some s)) := by
      unfold erV
      rw [hk, if_pos rfl]
      by_cases hl : (runs xs).length < 2
      · rw [if_pos hl]
        rcases none_or xs xs.length with hno | ⟨k, k1, k2, k3, k4⟩
        · rw [firstOut_none hno]; rfl
        · obtain ⟨r, hr⟩ := runs_out k1 k2 k3 k4
          rw [hr] at hl; simp at hl; omega
      · rw [if_neg hl]
        rcases none_or xs xs.length with hno | ⟨k, k1, k2, k3, k4⟩
        · exact absurd (runs_none hno) hl
        · rw [firstOut_at k3 k1 k2 k4, if_neg (by omega)]
    rw [E]
    exact C
end Go.Proofs.YtgmipobohnagnaaDoor
