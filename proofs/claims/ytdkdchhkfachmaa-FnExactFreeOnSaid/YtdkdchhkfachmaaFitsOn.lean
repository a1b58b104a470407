/- FitsOn, by the model and by the program: contracts. Condition: lists no longer than the law tests, numbers within their kinds. -/
import Derived.Test.YtdkdchhkfachmaaRowOn
namespace Go.Proofs.Ytdkdchhkfachmaa
set_option linter.unusedSimpArgs false
set_option linter.unusedVariables false
set_option maxRecDepth 100000
open Go.RowKit

def foVal (c : Cs) (xs : List Bk) (a : Int) : Bool := askB c xs && (inB a 0 ((c.hs.length : Int) - 1) && fitsB c a.toNat xs)
def foErr (c : Cs) (xs : List Bk) (a : Int) : Int := if askB c xs then (if inB a 0 ((c.hs.length : Int) - 1) then 0 else 2) else 1

theorem shelf_cases (c : Cs) (a : Int) : (inB a 0 ((c.hs.length : Int) - 1) = false) ∨ (∃ s : Nat, a = s ∧ s < c.hs.length ∧ inB a 0 ((c.hs.length : Int) - 1) = true) := by
  by_cases h : 0 ≤ a ∧ a ≤ (c.hs.length : Int) - 1
  · exact .inr ⟨a.toNat, by omega, by omega, by unfold inB; simpa using h⟩
  · exact .inl (by unfold inB; simpa using h)
theorem caseB_lens {c : Cs} (h : caseB c = true) : 1 ≤ c.hs.length ∧ c.hs.length ≤ 12 := by
  unfold caseB inB at h
  simp only [Bool.and_eq_true, decide_eq_true_eq] at h
  omega

set_option maxHeartbeats 4000000 in
theorem specFitsOn_any (c : Cs) (hv v : Value) (xs : List Bk) (a : Int) (wc : c.Wf) (wf : ∀ b ∈ xs, b.Wf) (w : World) (sc : IntsOf .i16 w hv c.hs) (mc : c.hs.length ≤ maxLen) (sl : SliceOf w v xs) (hn : xs.length ≤ 1048576) (ml : xs.length ≤ maxLen) (ha1 : -9223372036854775808 ≤ a) (ha2 : a ≤ 9223372036854775807) :
    Calls Try.prog 23 #[.agg #[.int .i16 c.wi, .int .i32 c.lo, hv], .int .i64 a, v] w fun e w' => e = .returned (.tuple #[.bool (foVal c xs a), .int .i64 (foErr c xs a)]) ∧ Below w.heap.size w w' := by
  have HC := Lib.hid (CaseAt.new (t := 28) sc)
  have HS := Lib.hid (sl.below (show Below w.heap.size w (w.alloc (.cells #[.int .i16 c.wi, .int .i32 c.lo, hv] 28)) by go_grown))
  have G0 := Lib.hid (show Below w.heap.size w (w.alloc (.cells #[.int .i16 c.wi, .int .i32 c.lo, hv] 28)) by go_grown)
  have WF := Lib.hid wf
  obtain ⟨A, q, rfl, -⟩ := sc
  obtain ⟨B, m, rfl, -⟩ := sl
  clear wf
  rcases askB_cases c xs with ⟨h1, h2, h3⟩ | ⟨h1, h2, h3, h4⟩ | ⟨h1, h2, h3, h4⟩
  · have E0 := Lib.hid (show foVal c xs a = false by unfold foVal; rw [h2]; rfl)
    have E1 := Lib.hid (show foErr c xs a = 1 by unfold foErr; rw [h2]; rfl)
    go_enter Try.func23, Try.ntmps23
    go_wp2_with fail
    refine (l02Asked_any c _ _ xs wc WF.out _ _ HC.out mc HS.out ml).mono ?_
    rintro e w1 ⟨rfl, g1⟩
    rw [h3]
    go_wp2
    go_ret2
    exact ⟨by rw [E0.out, E1.out]; rfl, bnext G0.out g1⟩
  · have E0 := Lib.hid (show foVal c xs a = false by unfold foVal; rw [h3]; rfl)
    have E1 := Lib.hid (show foErr c xs a = 1 by unfold foErr; rw [h3]; rfl)
    go_enter Try.func23, Try.ntmps23
    go_wp2_with fail
    refine (l02Asked_any c _ _ xs wc WF.out _ _ HC.out mc HS.out ml).mono ?_
    rintro e w1 ⟨rfl, g1⟩
    rw [h4]
    go_wp2
    go_ret2
    exact ⟨by rw [E0.out, E1.out]; rfl, bnext G0.out g1⟩
  · have cl := caseB_lens h1
    obtain ⟨cl1, cl2⟩ := cl
    rcases shelf_cases c a with hr | ⟨s, rfl, hs, hr⟩
    · have E0 := Lib.hid (show foVal c xs a = false by unfold foVal; rw [hr]; simp)
      have E1 := Lib.hid (show foErr c xs a = 2 by unfold foErr; rw [h3, hr]; rfl)
      go_enter Try.func23, Try.ntmps23
      go_wp2_with fail
      refine (l02Asked_any c _ _ xs wc WF.out _ _ HC.out mc HS.out ml).mono ?_
      rintro e w1 ⟨rfl, g1⟩
      rw [h4]
      have c2 := (HC.out.below g1).c2
      go_wp2_with (go_at_call 61; refine (l00In_any _ _ _ _).mono ?_; rintro e w' ⟨rfl, rfl⟩)
      go_ret2
      exact ⟨by rw [E0.out, E1.out]; rfl, bnext G0.out g1⟩
    · have E0 := Lib.hid (show foVal c xs (s : Int) = decide (0 ≤ freeS c s xs) by unfold foVal; rw [h3, hr, freeS_nonneg]; rfl)
      have E1 := Lib.hid (show foErr c xs (s : Int) = 0 by unfold foErr; rw [h3, hr]; rfl)
      go_enter Try.func23, Try.ntmps23
      go_wp2_with fail
      refine (l02Asked_any c _ _ xs wc WF.out _ _ HC.out mc HS.out ml).mono ?_
      rintro e w1 ⟨rfl, g1⟩
      rw [h4]
      have c2 := (HC.out.below g1).c2
      go_wp2_with (go_at_call 61; refine (l00In_any _ _ _ _).mono ?_; rintro e w' ⟨rfl, rfl⟩)
      go_wp2_with fail
      refine (l02Free_any c _ _ xs s wc WF.out _ _ (HC.out.below g1) mc hs (HS.out.below g1) hn).mono ?_
      rintro e w2 ⟨rfl, g2⟩
      generalize freeS c s xs = r at E0 ⊢
      go_wp2
      go_ret2
      exact ⟨by rw [E0.out, E1.out]; rfl, bnext (bnext G0.out g1) g2⟩

set_option maxHeartbeats 4000000 in
theorem fitsOn_any (c : Cs) (hv : Value) (B : Option Addr) (m : Nat) (xs : List Bk) (a : Int) (wf : ∀ b ∈ xs, b.Wf) (w : World) (sc : IntsOf .i16 w hv c.hs) (mc : c.hs.length ≤ maxLen) (sl : SliceOf w (.slice B xs.length m) xs) (hm : xs.length ≤ m) (ml : xs.length ≤ maxLen) (ha1 : -9223372036854775808 ≤ a) (ha2 : a ≤ 9223372036854775807) :
    Calls Try.prog 25 #[.agg #[.int .i16 c.wi, .int .i32 c.lo, hv], .int .i64 a, .slice B xs.length m] w fun e w' => e = .returned (.tuple #[.bool (foVal c xs a), .int .i64 (foErr c xs a)]) ∧ Below w.heap.size w w' := by
  have G0 := Lib.hid (show Below w.heap.size w (w.alloc (.cells #[.int .i16 c.wi, .int .i32 c.lo, hv] 28)) by go_grown)
  have HC := Lib.hid (sc.below G0.out)
  have HB := Lib.hid (CaseAt.new (t := 28) sc)
  have HS := Lib.hid (sl.below G0.out)
  have WF := Lib.hid wf
  obtain ⟨A, q, rfl, -⟩ := sc
  clear wf sl
  rcases askB_cases c xs with ⟨h1, h2, h3⟩ | ⟨h1, h2, h3, h4⟩ | ⟨h1, h2, h3, h4⟩
  · have E0 := Lib.hid (show foVal c xs a = false by unfold foVal; rw [h2]; rfl)
    have E1 := Lib.hid (show foErr c xs a = 1 by unfold foErr; rw [h2]; rfl)
    go_enter Try.func25, Try.ntmps25
    go_wp2_with fail
    refine (validBoth_any c _ _ xs _ HC.out mc HS.out ml).mono ?_
    rintro e w1 ⟨rfl, g1⟩
    rw [h2]
    go_wp2
    go_ret2
    exact ⟨by rw [E0.out, E1.out]; rfl, bnext G0.out g1⟩
  · have E0 := Lib.hid (show foVal c xs a = false by unfold foVal; rw [h3]; rfl)
    have E1 := Lib.hid (show foErr c xs a = 1 by unfold foErr; rw [h3]; rfl)
    go_enter Try.func25, Try.ntmps25
    go_wp2_with fail
    refine (validBoth_any c _ _ xs _ HC.out mc HS.out ml).mono ?_
    rintro e w1 ⟨rfl, g1⟩
    rw [h3]
    go_wp2
    go_ret2
    exact ⟨by rw [E0.out, E1.out]; rfl, bnext G0.out g1⟩
  · have cl := caseB_lens h1
    obtain ⟨cl1, cl2⟩ := cl
    rcases shelf_cases c a with hr | ⟨s, rfl, hs, hr⟩
    · have E0 := Lib.hid (show foVal c xs a = false by unfold foVal; rw [hr]; simp)
      have E1 := Lib.hid (show foErr c xs a = 2 by unfold foErr; rw [h3, hr]; rfl)
      go_enter Try.func25, Try.ntmps25
      go_wp2_with fail
      refine (validBoth_any c _ _ xs _ HC.out mc HS.out ml).mono ?_
      rintro e w1 ⟨rfl, g1⟩
      rw [h3]
      have c2 := (HB.out.below g1).c2
      go_wp2_with (go_at_call 65; refine (within64_any _ _ _ _).mono ?_; rintro e w' ⟨rfl, rfl⟩)
      go_ret2
      exact ⟨by rw [E0.out, E1.out]; rfl, bnext G0.out g1⟩
    · have E0 := Lib.hid (show foVal c xs (s : Int) = fitsB c s xs by unfold foVal; rw [h3, hr]; rfl)
      have E1 := Lib.hid (show foErr c xs (s : Int) = 0 by unfold foErr; rw [h3, hr]; rfl)
      have PA := Lib.hid (part_all xs)
      go_enter Try.func25, Try.ntmps25
      go_wp2_with fail
      refine (validBoth_any c _ _ xs _ HC.out mc HS.out ml).mono ?_
      rintro e w1 ⟨rfl, g1⟩
      rw [h3]
      have c0 := (HB.out.below g1).c0
      have c1 := (HB.out.below g1).c1
      have c2 := (HB.out.below g1).c2
      go_wp2_with (go_at_call 65; refine (within64_any _ _ _ _).mono ?_; rintro e w' ⟨rfl, rfl⟩)
      go_wp2_with fail
      refine (rowOn_any c _ B m xs s 0 xs.length WF.out _ (HC.out.below g1) hs h1 (HS.out.below g1) hm h2 (Nat.zero_le _) (Nat.le_refl _)).mono ?_
      rintro e w2 ⟨rfl, g2⟩
      rw [PA.out]
      generalize fitsB c s xs = r at E0 ⊢
      unfold rowV
      go_wp2
      go_ret2
      exact ⟨by rw [E0.out, E1.out]; rfl, (bnext (bnext G0.out g1) g2).alloc (bnext (bnext G0.out g1) g2).size _⟩

end Go.Proofs.Ytdkdchhkfachmaa
