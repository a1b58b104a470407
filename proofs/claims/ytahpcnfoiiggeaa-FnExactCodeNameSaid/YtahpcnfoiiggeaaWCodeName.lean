/- The law of CodeName, walked. No condition. -/
import Derived.Test.YtahpcnfoiiggeaaValid2
namespace Go.Proofs.Ytahpcnfoiiggeaa
set_option linter.unusedSimpArgs false
set_option linter.unusedVariables false
open Go.RowKit

set_option maxHeartbeats 400000 in
theorem within64_any (n low high : Int) (w : World) :
    Calls Try.prog 44 #[.int .i64 n, .int .i64 low, .int .i64 high] w fun e w' => e = .returned (.bool (inB n low high)) ∧ w = w' := by
  by_cases h1 : low ≤ n
  · by_cases h2 : n ≤ high
    · go_enter Try.func44, Try.ntmps44
      go_wp2
      go_ret
      exact ⟨by simp [inB, h1, h2], rfl⟩
    · go_enter Try.func44, Try.ntmps44
      go_wp2
      go_ret
      exact ⟨by simp [inB, h1, h2], rfl⟩
  · have h1' : n < low := by omega
    go_enter Try.func44, Try.ntmps44
    go_wp2
    go_ret
    exact ⟨by simp [inB, show ¬ low ≤ n from by omega], rfl⟩

theorem nine (n : Int) : inB n 0 8 = false ∨ n = 0 ∨ n = 1 ∨ n = 2 ∨ n = 3 ∨ n = 4 ∨ n = 5 ∨ n = 6 ∨ n = 7 ∨ n = 8 := by
  unfold inB
  by_cases h : 0 ≤ n ∧ n ≤ 8
  · right; omega
  · left; simp; omega

def nameB (n : Int) : ByteArray :=
  if n = 0 then ⟨#[111, 107]⟩ else if n = 1 then ⟨#[105, 110, 118, 97, 108, 105, 100]⟩ else if n = 2 then ⟨#[114, 97, 110, 103, 101]⟩ else if n = 3 then ⟨#[108, 105, 109, 105, 116]⟩ else if n = 4 then ⟨#[115, 116, 97, 116, 101]⟩ else if n = 5 then ⟨#[115, 121, 110, 116, 97, 120]⟩ else if n = 6 then ⟨#[110, 111, 116, 102, 111, 117, 110, 100]⟩ else if n = 7 then ⟨#[98, 117, 100, 103, 101, 116]⟩ else if n = 8 then ⟨#[112, 114, 111, 111, 102]⟩ else ⟨#[]⟩
theorem nameB_out (n : Int) (h : inB n 0 8 = false) : nameB n = ⟨#[]⟩ := by
  unfold inB at h
  simp at h
  unfold nameB
  iterate 9 (rw [if_neg (by omega)])

set_option maxHeartbeats 2000000 in
theorem specCodeName_any (n : Int) (w : World) :
    Calls Try.prog 13 #[.int .i64 n] w fun e w' => e = .returned (.string (nameB n)) ∧ Below w.heap.size w w' := by
  rcases nine n with h | rfl | rfl | rfl | rfl | rfl | rfl | rfl | rfl | rfl
  · have E := Lib.hid (nameB_out n h)
    go_enter Try.func13, Try.ntmps13
    go_wp2_with (go_at_call 43; refine (l00In_any _ _ _ _).mono ?_; rintro e w' ⟨rfl, rfl⟩)
    go_ret
    exact ⟨by rw [E.out]; rfl, by go_grown⟩
  all_goals
    go_enter Try.func13, Try.ntmps13
    go_wp2_with (go_at_call 43; refine (l00In_any _ _ _ _).mono ?_; rintro e w' ⟨rfl, rfl⟩; simp only [inB, Int.reduceLE, Int.le_refl, and_true, true_and, decide_true])
    go_ret
    exact ⟨rfl, by go_grown⟩

set_option maxHeartbeats 2000000 in
theorem codeName_any (n : Int) (w : World) :
    Calls Try.prog 14 #[.int .i64 n] w fun e w' => e = .returned (.string (nameB n)) ∧ Below w.heap.size w w' := by
  rcases nine n with h | rfl | rfl | rfl | rfl | rfl | rfl | rfl | rfl | rfl
  · have E := Lib.hid (nameB_out n h)
    go_enter Try.func14, Try.ntmps14
    go_wp2_with (go_at_call 44; refine (within64_any _ _ _ _).mono ?_; rintro e w' ⟨rfl, rfl⟩)
    go_ret
    exact ⟨by rw [E.out]; rfl, by go_grown⟩
  all_goals
    go_enter Try.func14, Try.ntmps14
    go_wp2_with (go_at_call 44; refine (within64_any _ _ _ _).mono ?_; rintro e w' ⟨rfl, rfl⟩; simp only [inB, Int.reduceLE, Int.le_refl, and_true, true_and, decide_true])
    go_ret
    exact ⟨rfl, by go_grown⟩

set_option maxHeartbeats 400000 in
theorem walkCodeName (n : Int) (_ : (Lit.int .i64 n).wf = true) (w : World) :
    Calls Try.prog 3 #[.int .i64 n] w fun e w' => e = .returned (.bool true) ∧ Below w.heap.size w w' := by
  go_enter Try.func3, Try.ntmps3
  go_wp2_with fail
  refine (specCodeName_any n _).mono ?_
  rintro e w1 ⟨rfl, h1⟩
  go_wp2_with fail
  refine (codeName_any n _).mono ?_
  rintro e w2 ⟨rfl, h2⟩
  have g2 := bnext h1 h2
  generalize nameB n = s
  go_wp2
  go_ret
  exact ⟨rfl, g2⟩

end Go.Proofs.Ytahpcnfoiiggeaa
