/- Whether numbers hold a number, by the model and by slices.Contains: contracts. Condition: no longer than a slice can be. -/
import Derived.Test.YtecpddkbbfpeeaaNums
namespace Go.Proofs.Ytecpddkbbfpeeaa
set_option linter.unusedSimpArgs false
set_option linter.unusedVariables false
set_option maxRecDepth 100000
open Go.RowKit

def memB (q : List Int) (n : Int) : Bool := decide (n ∈ q)
def NotTo (q : List Int) (n : Int) (k : Nat) : Prop := ∀ (i : Nat) (h : i < q.length), i < k → q[i] ≠ n
theorem NotTo.zero (q : List Int) (n : Int) : NotTo q n 0 := fun _ _ h => absurd h (Nat.not_lt_zero _)
theorem NotTo.succ {q : List Int} {n : Int} {k : Nat} (h : NotTo q n k) (hk : k < q.length) (hne : q[k] ≠ n) : NotTo q n (k + 1) := by
  intro i hi hik
  by_cases e : i = k
  · subst e; exact hne
  · exact h i hi (by omega)
theorem memB_yes {q : List Int} {n : Int} {k : Nat} (hk : k < q.length) (h : q[k] = n) : memB q n = true := by
  unfold memB
  exact decide_eq_true (h ▸ List.getElem_mem hk)
theorem memB_no {q : List Int} {n : Int} (h : NotTo q n q.length) : memB q n = false := by
  unfold memB
  refine decide_eq_false fun hm => ?_
  obtain ⟨i, hi, e⟩ := List.getElem_of_mem hm
  exact h i hi hi e

set_option maxHeartbeats 2000000 in
theorem l00Has_any (v : Value) (q : List Int) (n : Int) (w : World) (hs : IntsOf .i64 w v q) (hn : q.length ≤ maxLen) :
    Calls Try.prog 39 #[v, .int .i64 n] w fun e w' => e = .returned (.bool (memB q n)) ∧ Below w.heap.size w w' := by
  obtain ⟨A, c, rfl, hs⟩ := hs
  have HS := Lib.hid hs
  unfold maxLen at hn
  clear hs
  go_enter Try.func39, Try.ntmps39
  go_wp2
  go_loopw [5] (fun i wr => ∃ k : Nat, k ≤ q.length ∧ i = .int .i64 k ∧ NotTo q n k ∧ Below w.heap.size w wr) (fun i _ => q.length - (intOf i).toNat)
  case atStart => exact ⟨0, Nat.zero_le _, rfl, NotTo.zero _ _, Below.refl _ _⟩
  case round =>
    obtain ⟨k, hk, rfl, hno, hb⟩ := hrel
    have HN := Lib.hid hno
    have HB := Lib.hid hb
    clear hno hb
    by_cases hlt : k < q.length
    · obtain ⟨g, o, rfl, hg, hat⟩ := HS.out (by omega)
      have p0 := hat.below HB.out hg k hlt
      clear hat
      by_cases he : q[k] = n
      · have E := Lib.hid (memB_yes hlt he)
        rw [he] at p0
        clear he
        go_wp2
        go_ret
        exact ⟨by rw [E.out]; rfl, HB.out⟩
      · have H1 := Lib.hid (HN.out.succ hlt he)
        have he2 : (q[k] == n) = false := by simpa using he
        go_wp2
        go_roundw
        case rel => exact ⟨k + 1, by omega, by go_num, H1.out, HB.out⟩
        case measure => simp [intOf]; omega
    · obtain rfl : k = q.length := by omega
      have E := Lib.hid (memB_no HN.out)
      go_wp2
      go_ret
      exact ⟨by rw [E.out]; rfl, HB.out⟩
end Go.Proofs.Ytecpddkbbfpeeaa
