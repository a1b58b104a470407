/- Which desks are valid, by the program: its tests of people, queues and copies: contracts. Condition: no longer than slices can be, numbers within their kinds, queues no longer than their capacity. -/
import Derived.Test.YtmafjncaigllbabDkO
import Derived.RowKit
namespace Go.Proofs.Ytmafjncaigllbab
set_option linter.unusedSimpArgs false
set_option linter.unusedVariables false
set_option maxRecDepth 100000
open Go.RowKit

set_option maxHeartbeats 400000 in
theorem w16_any (n low high : Int) (w : World) :
    Calls Try.prog 42 #[.int .i16 n, .int .i16 low, .int .i16 high] w fun e w' => e = .returned (.bool (inB n low high)) ∧ w = w' := by
  by_cases h1 : low ≤ n
  · by_cases h2 : n ≤ high
    · go_enter Try.func42, Try.ntmps42
      go_wp2
      go_ret
      exact ⟨by simp [inB, h1, h2], rfl⟩
    · go_enter Try.func42, Try.ntmps42
      go_wp2
      go_ret
      exact ⟨by simp [inB, h1, h2], rfl⟩
  · have h1' : n < low := by omega
    go_enter Try.func42, Try.ntmps42
    go_wp2
    go_ret
    exact ⟨by simp [inB, show ¬ low ≤ n from by omega], rfl⟩
set_option maxHeartbeats 400000 in
theorem w64_any (n low high : Int) (w : World) :
    Calls Try.prog 24 #[.int .i64 n, .int .i64 low, .int .i64 high] w fun e w' => e = .returned (.bool (inB n low high)) ∧ w = w' := by
  by_cases h1 : low ≤ n
  · by_cases h2 : n ≤ high
    · go_enter Try.func24, Try.ntmps24
      go_wp2
      go_ret
      exact ⟨by simp [inB, h1, h2], rfl⟩
    · go_enter Try.func24, Try.ntmps24
      go_wp2
      go_ret
      exact ⟨by simp [inB, h1, h2], rfl⟩
  · have h1' : n < low := by omega
    go_enter Try.func24, Try.ntmps24
    go_wp2
    go_ret
    exact ⟨by simp [inB, show ¬ low ≤ n from by omega], rfl⟩
set_option maxHeartbeats 400000 in
theorem isPerson_any (n : Int) (w : World) :
    Calls Try.prog 37 #[.int .i64 n] w fun e w' => e = .returned (.bool (perB n)) ∧ w = w' := by
  go_enter Try.func37, Try.ntmps37
  go_wp2_with fail
  refine (w64_any _ _ _ _).mono ?_
  rintro e w' ⟨rfl, rfl⟩
  go_wp2
  go_ret
  exact ⟨rfl, rfl⟩

set_option maxHeartbeats 2000000 in
theorem index8_any (v : Value) (q : List Int) (who : Int) (w : World) (hs : IntsOf .i8 w v q) (hn : q.length ≤ maxLen) :
    Calls Try.prog 49 #[v, .int .i8 who] w fun e w' => e = .returned (.int .i64 (placeI q who)) ∧ w = w' := by
  obtain ⟨A, c, rfl, hs⟩ := hs
  have HS := Lib.hid hs
  unfold maxLen at hn
  clear hs
  go_enter Try.func49, Try.ntmps49
  go_wp2
  go_loopw [8] (fun i wr => ∃ k : Nat, k ≤ q.length ∧ i = .int .i64 k ∧ NoTo q who k ∧ wr = w) (fun i _ => q.length - (intOf i).toNat)
  case atStart => exact ⟨0, Nat.zero_le _, rfl, NoTo.zero _ _, rfl⟩
  case round =>
    obtain ⟨k, hk, rfl, hno, rfl⟩ := hrel
    have HN := Lib.hid hno
    clear hno
    by_cases hlt : k < q.length
    · obtain ⟨g, o, rfl, hg, hat⟩ := HS.out (by omega)
      have p0 := hat k hlt
      clear hat
      by_cases he : q[k] = who
      · have E := Lib.hid (placeI_at hlt HN.out he)
        rw [he] at p0
        clear he
        go_wp2
        go_ret
        exact ⟨by rw [E.out]; rfl, rfl⟩
      · have H1 := Lib.hid (HN.out.succ hlt he)
        have he' : ¬ who = q[k] := fun h => he h.symm
        go_wp2
        go_roundw
        case rel => exact ⟨k + 1, by omega, by go_num, H1.out, by first | rfl | trivial⟩
        case measure => simp [intOf]; omega
    · obtain rfl : k = q.length := by omega
      have E := Lib.hid (placeI_none HN.out)
      go_wp2
      go_ret
      exact ⟨by rw [E.out]; rfl, rfl⟩
def hasB (q : List Int) (who : Int) : Bool := decide (who ∈ q)
theorem has_place (q : List Int) (who : Int) : (decide ((0 : Int) ≤ placeI q who)) = hasB q who := by
  unfold hasB
  rw [Bool.eq_iff_iff]
  simp only [decide_eq_true_eq]
  have h1 := placeI_neg (q := q) (who := who)
  constructor
  · intro h
    apply Classical.byContradiction
    intro hc
    have := h1.2 hc
    omega
  · intro h
    apply Classical.byContradiction
    intro hc
    exact (h1.1 (by omega)) h
set_option maxHeartbeats 1000000 in
theorem contains8_any (v : Value) (q : List Int) (who : Int) (w : World) (hs : IntsOf .i8 w v q) (hn : q.length ≤ maxLen) :
    Calls Try.prog 48 #[v, .int .i8 who] w fun e w' => e = .returned (.bool (hasB q who)) ∧ w = w' := by
  have E := Lib.hid (has_place q who)
  have CI := Lib.hid (index8_any v q who w hs hn)
  clear hs
  generalize placeI q who = p at E CI
  by_cases hp : (0 : Int) ≤ p
  · have E2 := Lib.hid (show hasB q who = true by rw [← E.out]; exact decide_eq_true hp)
    go_enter Try.func48, Try.ntmps48
    go_wp2_with fail
    refine CI.out.mono ?_
    rintro e w' ⟨rfl, rfl⟩
    go_wp2
    go_ret
    exact ⟨by rw [E2.out]; first | rfl | simp [hp], rfl⟩
  · have E2 := Lib.hid (show hasB q who = false by rw [← E.out]; exact decide_eq_false hp)
    have hp2 : p < 0 := by omega
    go_enter Try.func48, Try.ntmps48
    go_wp2_with fail
    refine CI.out.mono ?_
    rintro e w' ⟨rfl, rfl⟩
    go_wp2
    go_ret
    exact ⟨by rw [E2.out]; first | rfl | simp [hp], rfl⟩

theorem elemI8 : Try.prog.underlying 54 = some (.slice (Try.prog.elem 54)) := by kernel_rfl
theorem sizeI8 (w : World) : (sizeOf (Try.prog.elem 54)).run Try.prog w = .ok 1 w := by kernel_rfl
theorem run_preI8 (g o n c k : Nat) (hk : k ≤ c) (w : World) :
    (Instr.slice 54 (.slice (some ⟨g, o, none⟩) n c) none (some (.int .i64 (k : Int))) none).run Try.prog w = .ok (.slice (some ⟨g, o, none⟩) k c) w := by
  rw [run_slice_h w _ _ _ _ elemI8 _ _ (by omega) (by omega), sizeI8]
  simp [Result.andThen, sliced, Addr.add]
def CapOk (u : Value) : Prop := ∀ A n k, u = .slice A n k → n ≤ k
theorem IntsOf.pre {w : World} {g o c k : Nat} {q : List Int} (h : IntsAt .i8 w g o q) (hg : g < w.heap.size) (hk : k ≤ q.length) : IntsOf .i8 w (.slice (some ⟨g, o, none⟩) k c) (q.take k) := by
  have e : (q.take k).length = k := by rw [List.length_take]; omega
  refine ⟨_, c, by rw [e], fun _ => ⟨g, o, rfl, hg, fun i hi => ?_⟩⟩
  rw [e] at hi
  rw [List.getElem_take]
  exact h i (by omega)
end Go.Proofs.Ytmafjncaigllbab
