/- Equal lists of numbers, and a number in a list: contracts. Condition: lists of at most 1048576 numbers. -/
import Derived.Test.YtecpddkbbfpeeaaNums
import Derived.Test.YtecpddkbbfpeeaaHas
import Derived.Test.YtecpddkbbfpeeaaQuiet
namespace Go.Proofs.Ytecpddkbbfpeeaa
set_option linter.unusedSimpArgs false
set_option linter.unusedVariables false
set_option maxRecDepth 100000
open Go.RowKit

set_option maxHeartbeats 2000000 in
theorem l00Same_any (v1 v2 : Value) (xs : List Int) (w : World) (hs1 : IntsOf .i64 w v1 xs) (hs2 : IntsOf .i64 w v2 xs) (hn : xs.length ≤ 1048576) :
    Calls Try.prog 27 #[v1, v2] w fun e w' => e = .returned (.bool true) ∧ Below w.heap.size w w' := by
  obtain ⟨A1, k1, rfl, hs1⟩ := hs1
  obtain ⟨A2, k2, rfl, hs2⟩ := hs2
  have H1 := Lib.hid hs1
  have H2 := Lib.hid hs2
  clear hs1 hs2
  go_enter Try.func27, Try.ntmps27
  go_wp2
  go_loopw [5] (fun i wr => ∃ k : Nat, k ≤ xs.length ∧ i = .int .i64 k ∧ Below w.heap.size w wr) (fun i _ => xs.length - (intOf i).toNat)
  case atStart => exact ⟨0, Nat.zero_le _, rfl, Below.refl _ _⟩
  case round =>
    obtain ⟨k, hk, rfl, hb⟩ := hrel
    by_cases hlt : k < xs.length
    · obtain ⟨g1, o1, rfl, hg1, ha1⟩ := H1.out (by omega)
      obtain ⟨g2, o2, rfl, hg2, ha2⟩ := H2.out (by omega)
      have p0 := (hb.cell (p := ⟨g1, o1 + k, none⟩) hg1).trans (ha1 k hlt)
      have q0 := (hb.cell (p := ⟨g2, o2 + k, none⟩) hg2).trans (ha2 k hlt)
      clear ha1 ha2
      generalize xs[k] = T at *
      go_wp2
      go_quiet (fail)
      clear p0 q0
      go_wp2
      go_roundw
      case rel => exact ⟨k + 1, by omega, by go_num, below_drewN hb _⟩
      case measure => simp [intOf]; omega
    · obtain rfl : k = xs.length := by omega
      go_wp2
      go_ret
      exact ⟨rfl, hb⟩
theorem sameNumbers_any (v1 v2 : Value) (xs : List Int) (w : World) (hs1 : IntsOf .i64 w v1 xs) (hs2 : IntsOf .i64 w v2 xs) (hn : xs.length ≤ 1048576) :
    Calls Try.prog 10 #[v1, v2] w fun e w' => e = .returned (.bool true) ∧ Below w.heap.size w w' := by
  have L := Lib.hid (l00Same_any v1 v2 xs w hs1 hs2 hn)
  obtain ⟨A1, k1, rfl, hs1⟩ := hs1
  obtain ⟨A2, k2, rfl, hs2⟩ := hs2
  clear hs1 hs2
  go_enter Try.func10, Try.ntmps10
  go_wp2_with fail
  refine L.out.mono ?_
  rintro e w1 ⟨rfl, b1⟩
  go_wp2
  go_ret
  exact ⟨rfl, b1⟩
theorem hasNumber_any (v : Value) (q : List Int) (n : Int) (w : World) (hs : IntsOf .i64 w v q) (hl : q.length ≤ maxLen) :
    Calls Try.prog 18 #[v, .int .i64 n] w fun e w' => e = .returned (.bool (memB q n)) ∧ Below w.heap.size w w' := by
  have L := Lib.hid (l00Has_any v q n w hs hl)
  obtain ⟨A1, k1, rfl, hs1⟩ := hs
  clear hs1
  go_enter Try.func18, Try.ntmps18
  go_wp2_with fail
  refine L.out.mono ?_
  rintro e w1 ⟨rfl, b1⟩
  go_wp2
  go_ret
  exact ⟨rfl, b1⟩
theorem f6big_ok (A : Option Addr) (n c : Nat) (w : World) :
    Calls Try.prog 4 #[.slice A n c] w fun e w' => e = .returned (.bool (decide (4096 < (n : Int)))) ∧ w = w' := by
  go_enter Try.func4, Try.ntmps4
  go_wp2
  go_ret
  exact ⟨by first | rfl | simp, rfl⟩
end Go.Proofs.Ytecpddkbbfpeeaa
