/- Which cases are valid: the model's functions and the program's, contracts. Condition: heights no longer than a slice can be. -/
import Derived.Test.YtpamflkefgpdpaaPart
namespace Go.Proofs.Ytpamflkefgpdpaa
set_option linter.unusedSimpArgs false
set_option linter.unusedVariables false
set_option maxRecDepth 100000
open Go.RowKit

/-- Behind a pointer: a case. -/
structure CaseAt (w : World) (g : Nat) (c : Cs) (hv : Value) : Prop where
  c0 : w.cell? ⟨g, 0, none⟩ = some (.int .i16 c.wi)
  c1 : w.cell? ⟨g, 1, none⟩ = some (.int .i32 c.lo)
  c2 : w.cell? ⟨g, 2, none⟩ = some hv
  lt : g < w.heap.size
  hs : IntsOf .i16 w hv c.hs
theorem CaseAt.below {w w' : World} {g : Nat} {c : Cs} {hv : Value} (h : CaseAt w g c hv) (hb : Below w.heap.size w w') : CaseAt w' g c hv :=
  ⟨(hb.cell (p := ⟨g, 0, none⟩) h.lt).trans h.c0, (hb.cell (p := ⟨g, 1, none⟩) h.lt).trans h.c1, (hb.cell (p := ⟨g, 2, none⟩) h.lt).trans h.c2, Nat.lt_of_lt_of_le h.lt hb.size, h.hs.below hb⟩
theorem CaseAt.new {w : World} {c : Cs} {hv : Value} {t : TypeId} (h : IntsOf .i16 w hv c.hs) : CaseAt (w.alloc (.cells #[.int .i16 c.wi, .int .i32 c.lo, hv] t)) w.heap.size c hv :=
  ⟨cell_of_row _ _ 0 _ _ _ (heap_alloc_new w _), cell_of_row _ _ 1 _ _ _ (heap_alloc_new w _), cell_of_row _ _ 2 _ _ _ (heap_alloc_new w _), by simp, h.below ((Below.refl _ _).alloc (Nat.le_refl _) _)⟩

theorem chain3 (a b c : Bool) : a = false ∨ (a = true ∧ b = false) ∨ (a = true ∧ b = true ∧ c = false) ∨ (a = true ∧ b = true ∧ c = true) := by
  cases a <;> cases b <;> cases c <;> simp

def HiTo (c : Cs) (k : Nat) : Prop := ∀ (i : Nat) (hi : i < c.hs.length), i < k → inB c.hs[i] 50 1000 = true
theorem HiTo.succ {c : Cs} {k : Nat} (h : HiTo c k) (hk : k < c.hs.length) (hb : inB c.hs[k] 50 1000 = true) : HiTo c (k + 1) := by
  intro i hi hik
  by_cases e : i = k
  · subst e; exact hb
  · exact h i hi (by omega)
theorem caseB_wi {c : Cs} (h : inB c.wi 1 2000 = false) : caseB c = false := by unfold caseB; rw [h]; rfl
theorem caseB_lo {c : Cs} (h : inB c.lo 1 200000 = false) : caseB c = false := by unfold caseB; rw [h]; simp
theorem caseB_len {c : Cs} (h : inB (c.hs.length : Int) 1 12 = false) : caseB c = false := by unfold caseB; rw [h]; simp
theorem caseB_bad {c : Cs} {k : Nat} (hk : k < c.hs.length) (h : inB c.hs[k] 50 1000 = false) : caseB c = false := by
  unfold caseB
  have : c.hs.all (fun h => inB h 50 1000) = false := by
    rw [List.all_eq_false]
    exact ⟨c.hs[k], List.getElem_mem hk, by simp [h]⟩
  rw [this]
  simp
theorem caseB_all {c : Cs} (h1 : inB c.wi 1 2000 = true) (h2 : inB c.lo 1 200000 = true) (h3 : inB (c.hs.length : Int) 1 12 = true) (h : HiTo c c.hs.length) : caseB c = true := by
  unfold caseB
  have : c.hs.all (fun h => inB h 50 1000) = true := by
    rw [List.all_eq_true]
    intro b hb
    obtain ⟨i, hi, rfl⟩ := List.getElem_of_mem hb
    exact h i hi hi
  rw [h1, h2, h3, this]
  rfl

set_option maxHeartbeats 4000000 in
theorem l02Ok_any (c : Cs) (hv : Value) (wf : c.Wf) (g : Nat) (w : World) (hc : CaseAt w g c hv) (hn : c.hs.length ≤ maxLen) :
    Calls Try.prog 80 #[.pointer (some ⟨g, 0, none⟩)] w fun e w' => e = .returned (.bool (caseB c)) ∧ w = w' := by
  obtain ⟨c0, c1, c2, hg, hs⟩ := hc
  obtain ⟨⟨w1, w2⟩, ⟨l1, l2⟩, hw⟩ := wf
  obtain ⟨A, k, rfl, hs⟩ := hs
  have HS := Lib.hid hs
  have HW := Lib.hid hw
  unfold maxLen at hn
  clear hs hw
  rcases chain3 (inB c.wi 1 2000) (inB c.lo 1 200000) (inB (c.hs.length : Int) 1 12) with e1 | ⟨e1, e2⟩ | ⟨e1, e2, e3⟩ | ⟨e1, e2, e3⟩
  · have E := Lib.hid (caseB_wi e1)
    go_enter Try.func80, Try.ntmps80
    go_wp2_with (go_at_call 91; refine (l00In_any _ _ _ _).mono ?_; rintro e w' ⟨rfl, rfl⟩)
    go_ret
    exact ⟨by rw [E.out]; rfl, rfl⟩
  · have E := Lib.hid (caseB_lo e2)
    go_enter Try.func80, Try.ntmps80
    go_wp2_with (go_at_call 91; refine (l00In_any _ _ _ _).mono ?_; rintro e w' ⟨rfl, rfl⟩)
    go_ret
    exact ⟨by rw [E.out]; rfl, rfl⟩
  · have E := Lib.hid (caseB_len e3)
    go_enter Try.func80, Try.ntmps80
    go_wp2_with (go_at_call 91; refine (l00In_any _ _ _ _).mono ?_; rintro e w' ⟨rfl, rfl⟩)
    go_ret
    exact ⟨by rw [E.out]; rfl, rfl⟩
  · have E := Lib.hid (fun h => caseB_all e1 e2 e3 h)
    go_enter Try.func80, Try.ntmps80
    go_wp2_with (go_at_call 91; refine (l00In_any _ _ _ _).mono ?_; rintro e w' ⟨rfl, rfl⟩)
    go_loop [3] (fun i => ∃ k : Nat, k ≤ c.hs.length ∧ i = .int .i64 k ∧ HiTo c k) (fun i => c.hs.length - (intOf i).toNat)
    case atStart => exact ⟨0, Nat.zero_le _, rfl, fun _ _ h => absurd h (Nat.not_lt_zero _)⟩
    case round =>
      obtain ⟨j, hj, rfl, hall⟩ := hrel
      have HA := Lib.hid hall
      clear hall
      by_cases hlt : j < c.hs.length
      · obtain ⟨ga, oa, rfl, hga, hat⟩ := HS.out (by omega)
        have p0 := hat j hlt
        obtain ⟨b1, b2⟩ := HW.out _ (List.getElem_mem hlt)
        clear hat
        cases hv : inB c.hs[j] 50 1000
        · have E2 := Lib.hid (caseB_bad hlt hv)
          go_wp2_with (go_at_call 91; refine (l00In_any _ _ _ _).mono ?_; rintro e w' ⟨rfl, rfl⟩)
          go_ret
          exact ⟨by rw [E2.out]; rfl, rfl⟩
        · have HV := Lib.hid hv
          go_wp2_with (go_at_call 91; refine (l00In_any _ _ _ _).mono ?_; rintro e w' ⟨rfl, rfl⟩)
          go_round
          case rel => exact ⟨j + 1, by omega, by go_num, HA.out.succ hlt HV.out⟩
          case measure => simp [intOf]; omega
      · obtain rfl : j = c.hs.length := by omega
        go_wp2
        go_ret
        exact ⟨by rw [E.out HA.out]; rfl, rfl⟩


set_option maxHeartbeats 400000 in
theorem within32_any (n low high : Int) (w : World) :
    Calls Try.prog 102 #[.int .i32 n, .int .i32 low, .int .i32 high] w fun e w' => e = .returned (.bool (inB n low high)) ∧ w = w' := by
  by_cases h1 : low ≤ n
  · by_cases h2 : n ≤ high
    · go_enter Try.func102, Try.ntmps102
      go_wp2
      go_ret
      exact ⟨by simp [inB, h1, h2], rfl⟩
    · go_enter Try.func102, Try.ntmps102
      go_wp2
      go_ret
      exact ⟨by simp [inB, h1, h2], rfl⟩
  · have h1' : n < low := by omega
    go_enter Try.func102, Try.ntmps102
    go_wp2
    go_ret
    exact ⟨by simp [inB, show ¬ low ≤ n from by omega], rfl⟩
set_option maxHeartbeats 400000 in
theorem withinI_any (n low high : Int) (w : World) :
    Calls Try.prog 103 #[.int .i64 n, .int .i64 low, .int .i64 high] w fun e w' => e = .returned (.bool (inB n low high)) ∧ w = w' := by
  by_cases h1 : low ≤ n
  · by_cases h2 : n ≤ high
    · go_enter Try.func103, Try.ntmps103
      go_wp2
      go_ret
      exact ⟨by simp [inB, h1, h2], rfl⟩
    · go_enter Try.func103, Try.ntmps103
      go_wp2
      go_ret
      exact ⟨by simp [inB, h1, h2], rfl⟩
  · have h1' : n < low := by omega
    go_enter Try.func103, Try.ntmps103
    go_wp2
    go_ret
    exact ⟨by simp [inB, show ¬ low ≤ n from by omega], rfl⟩
set_option maxHeartbeats 400000 in
theorem within64_any (n low high : Int) (w : World) :
    Calls Try.prog 61 #[.int .i64 n, .int .i64 low, .int .i64 high] w fun e w' => e = .returned (.bool (inB n low high)) ∧ w = w' := by
  by_cases h1 : low ≤ n
  · by_cases h2 : n ≤ high
    · go_enter Try.func61, Try.ntmps61
      go_wp2
      go_ret
      exact ⟨by simp [inB, h1, h2], rfl⟩
    · go_enter Try.func61, Try.ntmps61
      go_wp2
      go_ret
      exact ⟨by simp [inB, h1, h2], rfl⟩
  · have h1' : n < low := by omega
    go_enter Try.func61, Try.ntmps61
    go_wp2
    go_ret
    exact ⟨by simp [inB, show ¬ low ≤ n from by omega], rfl⟩

set_option maxHeartbeats 4000000 in
theorem validCase_any (c : Cs) (hv : Value) (w : World) (hs : IntsOf .i16 w hv c.hs) (hn : c.hs.length ≤ maxLen) :
    Calls Try.prog 82 #[.agg #[.int .i16 c.wi, .int .i32 c.lo, hv]] w fun e w' => e = .returned (.bool (caseB c)) ∧ Below w.heap.size w w' := by
  have HG := Lib.hid (show Below w.heap.size w (w.alloc (.cells #[.int .i16 c.wi, .int .i32 c.lo, hv] 50)) by go_grown)
  obtain ⟨A, k, rfl, hs⟩ := hs
  have HS := Lib.hid hs
  unfold maxLen at hn
  clear hs
  rcases chain3 (inB c.wi 1 2000) (inB c.lo 1 200000) (inB (c.hs.length : Int) 1 12) with e1 | ⟨e1, e2⟩ | ⟨e1, e2, e3⟩ | ⟨e1, e2, e3⟩
  · have E := Lib.hid (caseB_wi e1)
    go_enter Try.func82, Try.ntmps82
    go_wp2_with (first | (go_at_call 71; refine (within16_any _ _ _ _).mono ?_; rintro e w' ⟨rfl, rfl⟩) | (go_at_call 102; refine (within32_any _ _ _ _).mono ?_; rintro e w' ⟨rfl, rfl⟩) | (go_at_call 103; refine (withinI_any _ _ _ _).mono ?_; rintro e w' ⟨rfl, rfl⟩))
    go_ret
    exact ⟨by rw [E.out]; rfl, HG.out⟩
  · have E := Lib.hid (caseB_lo e2)
    go_enter Try.func82, Try.ntmps82
    go_wp2_with (first | (go_at_call 71; refine (within16_any _ _ _ _).mono ?_; rintro e w' ⟨rfl, rfl⟩) | (go_at_call 102; refine (within32_any _ _ _ _).mono ?_; rintro e w' ⟨rfl, rfl⟩) | (go_at_call 103; refine (withinI_any _ _ _ _).mono ?_; rintro e w' ⟨rfl, rfl⟩))
    go_ret
    exact ⟨by rw [E.out]; rfl, HG.out⟩
  · have E := Lib.hid (caseB_len e3)
    go_enter Try.func82, Try.ntmps82
    go_wp2_with (first | (go_at_call 71; refine (within16_any _ _ _ _).mono ?_; rintro e w' ⟨rfl, rfl⟩) | (go_at_call 102; refine (within32_any _ _ _ _).mono ?_; rintro e w' ⟨rfl, rfl⟩) | (go_at_call 103; refine (withinI_any _ _ _ _).mono ?_; rintro e w' ⟨rfl, rfl⟩))
    go_ret
    exact ⟨by rw [E.out]; rfl, HG.out⟩
  · have E := Lib.hid (fun h => caseB_all e1 e2 e3 h)
    go_enter Try.func82, Try.ntmps82
    go_wp2_with (first | (go_at_call 71; refine (within16_any _ _ _ _).mono ?_; rintro e w' ⟨rfl, rfl⟩) | (go_at_call 102; refine (within32_any _ _ _ _).mono ?_; rintro e w' ⟨rfl, rfl⟩) | (go_at_call 103; refine (withinI_any _ _ _ _).mono ?_; rintro e w' ⟨rfl, rfl⟩))
    go_loop [25] (fun i => ∃ k : Nat, k ≤ c.hs.length ∧ i = .int .i64 k ∧ HiTo c k) (fun i => c.hs.length - (intOf i).toNat)
    case atStart => exact ⟨0, Nat.zero_le _, rfl, fun _ _ h => absurd h (Nat.not_lt_zero _)⟩
    case round =>
      obtain ⟨j, hj, rfl, hall⟩ := hrel
      have HA := Lib.hid hall
      clear hall
      by_cases hlt : j < c.hs.length
      · obtain ⟨ga, oa, rfl, hga, hat⟩ := HS.out (by omega)
        have p0 := hat.below HG.out hga j hlt
        clear hat
        cases hv : inB c.hs[j] 50 1000
        · have E2 := Lib.hid (caseB_bad hlt hv)
          go_wp2_with (go_at_call 71; refine (within16_any _ _ _ _).mono ?_; rintro e w' ⟨rfl, rfl⟩)
          go_ret
          exact ⟨by rw [E2.out]; rfl, HG.out⟩
        · have HV := Lib.hid hv
          go_wp2_with (go_at_call 71; refine (within16_any _ _ _ _).mono ?_; rintro e w' ⟨rfl, rfl⟩)
          go_round
          case rel => exact ⟨j + 1, by omega, by go_num, HA.out.succ hlt HV.out⟩
          case measure => simp [intOf]; omega
      · obtain rfl : j = c.hs.length := by omega
        go_wp2
        go_ret
        exact ⟨by rw [E.out HA.out]; rfl, HG.out⟩

/-- The three cells of a case that lies in block g. -/
def CaseIn (w : World) (g : Nat) (c : Cs) (hv : Value) : Prop := w.cell? ⟨g, 0, none⟩ = some (.int .i16 c.wi) ∧ w.cell? ⟨g, 1, none⟩ = some (.int .i32 c.lo) ∧ w.cell? ⟨g, 2, none⟩ = some hv
theorem CaseIn.new (w : World) (c : Cs) (hv : Value) (t : TypeId) : CaseIn (w.alloc (.cells #[.int .i16 c.wi, .int .i32 c.lo, hv] t)) w.heap.size c hv :=
  ⟨cell_of_row _ _ 0 _ _ _ (heap_alloc_new w _), cell_of_row _ _ 1 _ _ _ (heap_alloc_new w _), cell_of_row _ _ 2 _ _ _ (heap_alloc_new w _)⟩
theorem CaseIn.below {w w' : World} {B g : Nat} {c : Cs} {hv : Value} (h : CaseIn w g c hv) (hb : Below B w w') (hg : g < B) : CaseIn w' g c hv :=
  ⟨(hb.cell (p := ⟨g, 0, none⟩) hg).trans h.1, (hb.cell (p := ⟨g, 1, none⟩) hg).trans h.2.1, (hb.cell (p := ⟨g, 2, none⟩) hg).trans h.2.2⟩

end Go.Proofs.Ytpamflkefgpdpaa
