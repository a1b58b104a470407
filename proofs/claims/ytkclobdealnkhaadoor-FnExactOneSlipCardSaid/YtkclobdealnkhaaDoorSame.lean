/- Lists of books compared: the model's function and the library's, contracts. Condition: the lists are no longer than slices can be. -/
import Derived.Test.YtkclobdealnkhaaDoorNeq
import Derived.Test.YtkclobdealnkhaaDoorRow
import Derived.Deep.Quiet
namespace Go.Proofs.YtkclobdealnkhaaDoor
set_option linter.unusedSimpArgs false
set_option linter.unusedVariables false
set_option maxRecDepth 100000
open Go.RowKit

def SameTo (xs ys : List Bk) (k : Nat) : Prop := ∀ (i : Nat) (h1 : i < xs.length) (h2 : i < ys.length), i < k → xs[i] = ys[i]

theorem SameTo.succ {xs ys : List Bk} {k : Nat} (h : SameTo xs ys k) (h1 : k < xs.length) (h2 : k < ys.length) (e : xs[k] = ys[k]) : SameTo xs ys (k + 1) := by
  intro i hi1 hi2 hik
  by_cases he : i = k
  · subst he; exact e
  · exact h i hi1 hi2 (by omega)

set_option maxHeartbeats 2000000 in
theorem l01Same_any (v1 v2 : Value) (xs ys : List Bk) (w : World) (hs1 : SliceOf w v1 xs) (hs2 : SliceOf w v2 ys) (hn1 : xs.length ≤ maxLen) (hn2 : ys.length ≤ maxLen) :
    Calls Tryd.prog 32 #[v1, v2] w fun e w' => e = .returned (.bool (decide (xs = ys))) ∧ Below w.heap.size w w' := by
  obtain ⟨A1, k1, rfl, hs1⟩ := hs1
  obtain ⟨A2, k2, rfl, hs2⟩ := hs2
  unfold maxLen at hn1 hn2
  have H1 := Lib.hid hs1
  have H2 := Lib.hid hs2
  clear hs1 hs2
  by_cases hl : xs.length = ys.length
  · have hl' : ((xs.length : Int) != (ys.length : Int)) = false := by rw [hl]; simp
    have HL := Lib.hid hl
    have hle1 : xs.length ≤ ys.length := by omega
    have hle2 : ys.length ≤ xs.length := by omega
    clear hl
    go_enter Tryd.func32, Tryd.ntmps32
    go_wp2
    go_loopw [5] (fun i wr => ∃ k : Nat, k ≤ xs.length ∧ i = .int .i64 k ∧ SameTo xs ys k ∧ Below w.heap.size w wr) (fun i _ => xs.length - (intOf i).toNat)
    case atStart => exact ⟨0, Nat.zero_le _, rfl, fun _ _ _ h => absurd h (Nat.not_lt_zero _), Below.refl _ _⟩
    case round =>
      obtain ⟨k, hk, rfl, hsame, hb⟩ := hrel
      have HA := Lib.hid hsame
      clear hsame
      by_cases hlt : k < xs.length
      · have hlt2 : k < ys.length := by omega
        obtain ⟨g1, o1, rfl, hg1, ha1⟩ := H1.out (by omega)
        obtain ⟨g2, o2, rfl, hg2, ha2⟩ := H2.out (by omega)
        obtain ⟨p0, p1, p2, p3, p4, p5, p6, p7⟩ := booksAt_some (ha1.below hb hg1) hlt
        obtain ⟨q0, q1, q2, q3, q4, q5, q6, q7⟩ := booksAt_some (ha2.below hb hg2) hlt2
        have hq := neqBook xs[k] ys[k]
        by_cases he : xs[k] = ys[k]
        · rw [decide_eq_true he] at hq
          have HE := Lib.hid he
          clear ha1 ha2 he
          go_wp2
          go_quiet (fail)
          clear p0 p1 p2 p3 p4 p5 p6 p7 q0 q1 q2 q3 q4 q5 q6 q7 hq
          go_wp2
          go_roundw
          case rel => exact ⟨k + 1, by omega, by go_num, HA.out.succ hlt hlt2 HE.out, below_drewN hb _⟩
          case measure => simp [intOf]; omega
        · rw [decide_eq_false he] at hq
          have HE := Lib.hid he
          clear ha1 ha2 he
          go_wp2
          go_quiet (fail)
          clear p0 p1 p2 p3 p4 p5 p6 p7 q0 q1 q2 q3 q4 q5 q6 q7 hq
          go_wp2
          go_ret
          refine ⟨?_, below_drewN hb _⟩
          rw [decide_eq_false (fun e => HE.out (by subst e; rfl))]
          rfl
      · obtain rfl : k = xs.length := by omega
        go_wp2
        go_ret
        refine ⟨?_, hb⟩
        rw [decide_eq_true (List.ext_getElem HL.out fun i h1 h2 => HA.out i h1 h2 h1)]
        rfl
  · have hl' : ((xs.length : Int) != (ys.length : Int)) = true := by rw [bne_iff_ne]; omega
    have HL := Lib.hid hl
    clear hl
    go_enter Tryd.func32, Tryd.ntmps32
    go_wp2
    go_ret
    refine ⟨?_, Below.refl _ _⟩
    rw [decide_eq_false (fun e => HL.out (by rw [e]))]
    rfl

set_option maxHeartbeats 2000000 in
theorem slicesEqual_any (v1 v2 : Value) (xs ys : List Bk) (w : World) (hs1 : SliceOf w v1 xs) (hs2 : SliceOf w v2 ys) (hn1 : xs.length ≤ maxLen) (hn2 : ys.length ≤ maxLen) :
    Calls Tryd.prog 84 #[v1, v2] w fun e w' => e = .returned (.bool (decide (xs = ys))) ∧ Below w.heap.size w w' := by
  obtain ⟨A1, k1, rfl, hs1⟩ := hs1
  obtain ⟨A2, k2, rfl, hs2⟩ := hs2
  unfold maxLen at hn1 hn2
  have H1 := Lib.hid hs1
  have H2 := Lib.hid hs2
  clear hs1 hs2
  by_cases hl : xs.length = ys.length
  · have hl' : ((xs.length : Int) != (ys.length : Int)) = false := by rw [hl]; simp
    have HL := Lib.hid hl
    have hle1 : xs.length ≤ ys.length := by omega
    have hle2 : ys.length ≤ xs.length := by omega
    clear hl
    go_enter Tryd.func84, Tryd.ntmps84
    go_wp2
    go_loopw [13] (fun i wr => ∃ k : Nat, k ≤ xs.length ∧ i = .int .i64 k ∧ SameTo xs ys k ∧ Below w.heap.size w wr) (fun i _ => xs.length - (intOf i).toNat)
    case atStart => exact ⟨0, Nat.zero_le _, rfl, fun _ _ _ h => absurd h (Nat.not_lt_zero _), Below.refl _ _⟩
    case round =>
      obtain ⟨k, hk, rfl, hsame, hb⟩ := hrel
      have HA := Lib.hid hsame
      clear hsame
      by_cases hlt : k < xs.length
      · have hlt2 : k < ys.length := by omega
        obtain ⟨g1, o1, rfl, hg1, ha1⟩ := H1.out (by omega)
        obtain ⟨g2, o2, rfl, hg2, ha2⟩ := H2.out (by omega)
        obtain ⟨p0, p1, p2, p3, p4, p5, p6, p7⟩ := booksAt_some (ha1.below hb hg1) hlt
        obtain ⟨q0, q1, q2, q3, q4, q5, q6, q7⟩ := booksAt_some (ha2.below hb hg2) hlt2
        have hq := neqBook xs[k] ys[k]
        by_cases he : xs[k] = ys[k]
        · rw [decide_eq_true he] at hq
          have HE := Lib.hid he
          clear ha1 ha2 he
          go_wp2
          go_quiet (fail)
          clear p0 p1 p2 p3 p4 p5 p6 p7 q0 q1 q2 q3 q4 q5 q6 q7 hq
          go_wp2
          go_roundw
          case rel => exact ⟨k + 1, by omega, by go_num, HA.out.succ hlt hlt2 HE.out, below_drewN hb _⟩
          case measure => simp [intOf]; omega
        · rw [decide_eq_false he] at hq
          have HE := Lib.hid he
          clear ha1 ha2 he
          go_wp2
          go_quiet (fail)
          clear p0 p1 p2 p3 p4 p5 p6 p7 q0 q1 q2 q3 q4 q5 q6 q7 hq
          go_wp2
          go_ret
          refine ⟨?_, below_drewN hb _⟩
          rw [decide_eq_false (fun e => HE.out (by subst e; rfl))]
          rfl
      · obtain rfl : k = xs.length := by omega
        go_wp2
        go_ret
        refine ⟨?_, hb⟩
        rw [decide_eq_true (List.ext_getElem HL.out fun i h1 h2 => HA.out i h1 h2 h1)]
        rfl
  · have hl' : ((xs.length : Int) != (ys.length : Int)) = true := by rw [bne_iff_ne]; omega
    have HL := Lib.hid hl
    clear hl
    go_enter Tryd.func84, Tryd.ntmps84
    go_wp2
    go_ret
    refine ⟨?_, Below.refl _ _⟩
    rw [decide_eq_false (fun e => HL.out (by rw [e]))]
    rfl

end Go.Proofs.YtkclobdealnkhaaDoor
