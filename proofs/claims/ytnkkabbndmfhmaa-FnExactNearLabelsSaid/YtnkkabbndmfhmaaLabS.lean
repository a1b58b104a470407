/- The label of a book, by the model: digits, the check digit: contracts. Condition: bounds that stand in each. -/
import Derived.Test.YtnkkabbndmfhmaaLabT
import Derived.Test.YtnkkabbndmfhmaaDecB
namespace Go.Proofs.Ytnkkabbndmfhmaa
set_option linter.unusedSimpArgs false
set_option linter.unusedVariables false
set_option maxRecDepth 100000
open Go.RowKit

def padT (k : Nat) (L : List UInt8) : List UInt8 := List.replicate (k - L.length) 48 ++ L
theorem padT_full {k : Nat} {L : List UInt8} (h : k ≤ L.length) : padT k L = L := by unfold padT; rw [show k - L.length = 0 by omega]; rfl
theorem padT_cons {k : Nat} {L : List UInt8} (h : L.length < k) : padT k (48 :: L) = padT k L := by
  unfold padT
  rw [List.length_cons, show k - L.length = (k - (L.length + 1)) + 1 by omega, List.replicate_succ', List.append_assoc]
  rfl
theorem digU (m : Nat) : UInt8.ofNat (dgI (m : Int)).toNat = digB m := by
  unfold dgI digB
  congr 1
theorem pad3 (n : Nat) (h : n < 1000) : padT 3 (Lib.decDigits n) = bytesOf [dgI ((n : Int) / 100), dgI ((n : Int) / 10), dgI (n : Int)] := by
  have e1 : ((n : Int) / 100) = ((n / 100 : Nat) : Int) := by omega
  have e2 : ((n : Int) / 10) = ((n / 10 : Nat) : Int) := by omega
  unfold bytesOf
  rw [e1, e2, List.map_cons, List.map_cons, List.map_cons, List.map_nil, digU, digU, digU]
  have z : ∀ m, m < 10 → Lib.decDigits m = [digB m] := fun m hm => by unfold digB; rw [Lib.decDigits_one hm, Nat.mod_eq_of_lt hm]
  have d0 : digB 0 = 48 := rfl
  by_cases h1 : n < 10
  · rw [z n h1, show n / 100 = 0 by omega, show n / 10 = 0 by omega, d0]; rfl
  · rw [decDigits_step (by omega)]
    by_cases h2 : n / 10 < 10
    · rw [z _ h2, show n / 100 = 0 by omega, d0]; rfl
    · rw [decDigits_step (by omega), z _ (by omega), show n / 10 / 10 = n / 100 by omega]; rfl
theorem pad2 (n : Nat) (h : n < 100) : padT 2 (Lib.decDigits n) = bytesOf [dgI ((n : Int) / 10), dgI (n : Int)] := by
  have e2 : ((n : Int) / 10) = ((n / 10 : Nat) : Int) := by omega
  unfold bytesOf
  rw [e2, List.map_cons, List.map_cons, List.map_nil, digU, digU]
  have z : ∀ m, m < 10 → Lib.decDigits m = [digB m] := fun m hm => by unfold digB; rw [Lib.decDigits_one hm, Nat.mod_eq_of_lt hm]
  have d0 : digB 0 = 48 := rfl
  by_cases h1 : n < 10
  · rw [z n h1, show n / 10 = 0 by omega, d0]; rfl
  · rw [decDigits_step (by omega), z _ (by omega)]; rfl

end Go.Proofs.Ytnkkabbndmfhmaa
