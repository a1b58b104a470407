/- Which lists are valid: the model's functions and the program's, contracts. Condition: the list is no longer than a slice can be. -/
import Derived.Test.YtjeflpohokjjkaaValid2
import Derived.Test.YtjeflpohokjjkaaRow
namespace Go.Proofs.Ytjeflpohokjjkaa
set_option linter.unusedSimpArgs false
set_option linter.unusedVariables false
set_option maxRecDepth 100000
open Go.RowKit

def okB (xs : List Bk) : Bool := xs.all bookB && decide (xs.length ≤ 60)

theorem okB_bad {xs : List Bk} {k : Nat} (hk : k < xs.length) (h : bookB xs[k] = false) : okB xs = false := by
  unfold okB
  have : xs.all bookB = false := by
    rw [List.all_eq_false]
    exact ⟨xs[k], List.getElem_mem hk, by simp [h]⟩
  rw [this]
  rfl

theorem okB_all {xs : List Bk} (h : ∀ (i : Nat) (hi : i < xs.length), bookB xs[i] = true) : okB xs = decide (xs.length ≤ 60) := by
  unfold okB
  have : xs.all bookB = true := by
    rw [List.all_eq_true]
    intro b hb
    obtain ⟨i, hi, rfl⟩ := List.getElem_of_mem hb
    exact h i hi
  rw [this]
  rfl

theorem okB_long {xs : List Bk} (h : ¬ xs.length ≤ 60) : okB xs = false := by
  unfold okB
  simp [h]

def AllTo (xs : List Bk) (k : Nat) : Prop := ∀ (i : Nat) (hi : i < xs.length), i < k → bookB xs[i] = true

theorem AllTo.succ {xs : List Bk} {k : Nat} (h : AllTo xs k) (hk : k < xs.length) (hb : bookB xs[k] = true) : AllTo xs (k + 1) := by
  intro i hi hik
  by_cases e : i = k
  · subst e; exact hb
  · exact h i hi (by omega)

set_option maxHeartbeats 2000000 in
theorem l01Ok_any (v : Value) (xs : List Bk) (hw : ∀ b ∈ xs, b.Wf) (w : World) (hs : SliceOf w v xs) (hn : xs.length ≤ maxLen) :
    Calls Try.prog 29 #[v] w fun e w' => e = .returned (.bool (okB xs)) ∧ Below w.heap.size w w' := by
  obtain ⟨A, c, rfl, hs⟩ := hs
  unfold maxLen at hn
  have HS := Lib.hid hs
  have HW := Lib.hid hw
  clear hs hw
  go_enter Try.func29, Try.ntmps29
  go_wp2
  go_loopw [3] (fun i wr => ∃ k : Nat, k ≤ xs.length ∧ i = .int .i64 k ∧ AllTo xs k ∧ Below w.heap.size w wr) (fun i _ => xs.length - (intOf i).toNat)
  case atStart => exact ⟨0, Nat.zero_le _, rfl, fun _ _ h => absurd h (Nat.not_lt_zero _), Below.refl _ _⟩
  case round =>
    obtain ⟨k, hk, rfl, hall, hb⟩ := hrel
    have HA := Lib.hid hall
    clear hall
    by_cases hlt : k < xs.length
    · obtain ⟨ga, oa, rfl, hga, hat⟩ := HS.out (by omega)
      have HB := Lib.hid (hat.below hb hga)
      have z1 := Nat.lt_of_lt_of_le hga hb.size
      clear hat
      go_wp2_with fail
      obtain ⟨p0, p1, p2, p3, p4, p5, p6, p7⟩ := booksAt_some HB.out hlt
      refine (l01Book_any xs[k] (HW.out _ (List.getElem_mem hlt)) _ _ _ p0 p1 p2 p3 p4 p5 p6 p7 z1).mono ?_
      rintro e w1 ⟨rfl, h1⟩
      clear p0 p1 p2 p3 p4 p5 p6 p7
      cases hv : bookB xs[k]
      · have HV := Lib.hid hv
        clear hv
        go_wp2
        go_ret
        exact ⟨by rw [okB_bad hlt HV.out]; rfl, hb.trans (h1.mono hb.size)⟩
      · have HV := Lib.hid hv
        clear hv
        go_wp2
        go_roundw
        case rel => exact ⟨k + 1, by omega, by go_num, HA.out.succ hlt HV.out, hb.trans (h1.mono hb.size)⟩
        case measure => simp [intOf]; omega
    · obtain rfl : k = xs.length := by omega
      go_wp2
      go_ret
      refine ⟨?_, hb⟩
      rw [okB_all (fun i hi => HA.out i hi hi)]
      show Ending.returned (Value.bool (decide ((xs.length : Int) ≤ 60))) = _
      congr 2
      rw [Bool.eq_iff_iff]
      simp only [decide_eq_true_eq]
      omega

set_option maxHeartbeats 2000000 in
theorem validBooks_any (v : Value) (xs : List Bk) (w : World) (hs : SliceOf w v xs) (hn : xs.length ≤ maxLen) :
    Calls Try.prog 21 #[v] w fun e w' => e = .returned (.bool (okB xs)) ∧ Below w.heap.size w w' := by
  obtain ⟨A, c, rfl, hs⟩ := hs
  unfold maxLen at hn
  have HS := Lib.hid hs
  clear hs
  by_cases h60 : 60 < xs.length
  · have h60' : (60 : Int) < xs.length := by omega
    go_enter Try.func21, Try.ntmps21
    go_wp2
    go_ret
    exact ⟨by rw [okB_long (by omega)]; rfl, Below.refl _ _⟩
  · have h60' : ¬ (60 : Int) < xs.length := by omega
    go_enter Try.func21, Try.ntmps21
    go_wp2
    go_loopw [10] (fun i wr => ∃ k : Nat, k ≤ xs.length ∧ i = .int .i64 k ∧ AllTo xs k ∧ Below w.heap.size w wr) (fun i _ => xs.length - (intOf i).toNat)
    case atStart => exact ⟨0, Nat.zero_le _, rfl, fun _ _ h => absurd h (Nat.not_lt_zero _), Below.refl _ _⟩
    case round =>
      obtain ⟨k, hk, rfl, hall, hb⟩ := hrel
      have HA := Lib.hid hall
      clear hall
      by_cases hlt : k < xs.length
      · obtain ⟨ga, oa, rfl, hga, hat⟩ := HS.out (by omega)
        obtain ⟨p0, p1, p2, p3, p4, p5, p6, p7⟩ := booksAt_some (hat.below hb hga) hlt
        clear hat
        go_wp2_with fail
        refine (validBook_any xs[k] _).mono ?_
        rintro e w1 ⟨rfl, rfl⟩
        clear p0 p1 p2 p3 p4 p5 p6 p7
        cases hv : bookB xs[k]
        · have HV := Lib.hid hv
          clear hv
          go_wp2
          go_ret
          exact ⟨by rw [okB_bad hlt HV.out]; rfl, (hb.alloc hb.size _).alloc (by have := hb.size; simp; omega) _⟩
        · have HV := Lib.hid hv
          clear hv
          go_wp2
          go_roundw
          case rel => exact ⟨k + 1, by omega, by go_num, HA.out.succ hlt HV.out, (hb.alloc hb.size _).alloc (by have := hb.size; simp; omega) _⟩
          case measure => simp [intOf]; omega
      · obtain rfl : k = xs.length := by omega
        go_wp2
        go_ret
        refine ⟨?_, hb⟩
        rw [okB_all (fun i hi => HA.out i hi hi), decide_eq_true (by omega)]
        rfl

end Go.Proofs.Ytjeflpohokjjkaa
