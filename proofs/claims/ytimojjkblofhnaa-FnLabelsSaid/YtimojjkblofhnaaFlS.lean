/- Small functions of FnLabels: contracts. Condition: at most 400 texts. -/
import Derived.Test.YtimojjkblofhnaaFlP
import Derived.Test.YtimojjkblofhnaaSrc4
import Derived.Test.YtimojjkblofhnaaStrS
namespace Go.Proofs.Ytimojjkblofhnaa
set_option linter.unusedSimpArgs false
set_option linter.unusedVariables false
set_option maxRecDepth 100000
open Go.RowKit

theorem f6big_any (A : Option Addr) (n c : Nat) (w : World) :
    Calls Try.prog 4 #[.slice A n c] w fun e w' => e = .returned (.bool (decide (4096 < (n : Int)))) ∧ w = w' := by
  go_enter Try.func4, Try.ntmps4
  go_wp2
  go_ret
  exact ⟨by first | rfl | simp, rfl⟩
set_option maxHeartbeats 4000000 in
theorem sameTexts_any (v1 v2 : Value) (ss : List (List UInt8)) (w : World) (hs1 : StrsOf w v1 ss) (hs2 : StrsOf w v2 ss) (hn : ss.length ≤ 400) :
    Calls Try.prog 15 #[v1, v2] w fun e w' => e = .returned (.bool true) ∧ Below w.heap.size w w' := by
  obtain ⟨A1, k1, rfl, hs1⟩ := hs1
  obtain ⟨A2, k2, rfl, hs2⟩ := hs2
  have H1 := Lib.hid hs1
  have H2 := Lib.hid hs2
  clear hs1 hs2
  go_enter Try.func15, Try.ntmps15
  go_wp2
  go_loopw [5] (fun i wr => ∃ k : Nat, k ≤ ss.length ∧ i = .int .i64 k ∧ Below w.heap.size w wr) (fun i _ => ss.length - (intOf i).toNat)
  case atStart => exact ⟨0, Nat.zero_le _, rfl, Below.refl _ _⟩
  case round =>
    obtain ⟨k, hk, rfl, hb⟩ := hrel
    by_cases hlt : k < ss.length
    · obtain ⟨g1, o1, rfl, hg1, ha1⟩ := H1.out (by omega)
      obtain ⟨g2, o2, rfl, hg2, ha2⟩ := H2.out (by omega)
      have p0 := ha1.below hb hg1 k hlt
      have q0 := ha2.below hb hg2 k hlt
      have e0 : ((tB ss[k]).toList == (tB ss[k]).toList) = true := by simp
      clear ha1 ha2
      generalize tB ss[k] = T at *
      go_wp2
      go_quiet (fail)
      clear p0 q0
      go_wp2
      go_roundw
      case rel => exact ⟨k + 1, by omega, by go_num, below_drewN hb _⟩
      case measure => simp [intOf]; omega
    · obtain rfl : k = ss.length := by omega
      go_wp2
      go_ret
      exact ⟨rfl, hb⟩
end Go.Proofs.Ytimojjkblofhnaa
