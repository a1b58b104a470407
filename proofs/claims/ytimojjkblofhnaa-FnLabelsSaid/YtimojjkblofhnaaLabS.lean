/- The label of a book, by the model: digits, the check digit: contracts. Condition: bounds that stand in each. -/
import Derived.Test.YtimojjkblofhnaaLabT
import Derived.Test.YtimojjkblofhnaaDecB
namespace Go.Proofs.Ytimojjkblofhnaa
set_option linter.unusedSimpArgs false
set_option linter.unusedVariables false
set_option maxRecDepth 100000
open Go.RowKit

def padT (k : Nat) (L : List UInt8) : List UInt8 := List.replicate (k - L.length) 48 ++ L
theorem padT_full {k : Nat} {L : List UInt8} (h : k ≤ L.length) : padT k L = L := by unfold padT; rw [show k - L.length = 0 by omega]; rfl
theorem padT_cons {k : Nat} {L : List UInt8} (h : L.length < k) : padT k (48 :: L) = padT k L := by
  unfold padT
  rw [List.length_cons, show k - L.length = (k - (L.length + 1)) + 1 by omega, List.replicate_succ', List.append_assoc]
  rfl
theorem digU (m : Nat) : UInt8.ofNat (dgI (m : Int)).toNat = digB m := by
  unfold dgI digB
  congr 1
theorem pad3 (n : Nat) (h : n < 1000) : padT 3 (Lib.decDigits n) = bytesOf [dgI ((n : Int) / 100), dgI ((n : Int) / 10), dgI (n : Int)] := by
  have e1 : ((n : Int) / 100) = ((n / 100 : Nat) : Int) := by omega
  have e2 : ((n : Int) / 10) = ((n / 10 : Nat) : Int) := by omega
  unfold bytesOf
  rw [e1, e2, List.map_cons, List.map_cons, List.map_cons, List.map_nil, digU, digU, digU]
  have z : ∀ m, m < 10 → Lib.decDigits m = [digB m] := fun m hm => by unfold digB; rw [Lib.decDigits_one hm, Nat.mod_eq_of_lt hm]
  have d0 : digB 0 = 48 := rfl
  by_cases h1 : n < 10
  · rw [z n h1, show n / 100 = 0 by omega, show n / 10 = 0 by omega, d0]; rfl
  · rw [decDigits_step (by omega)]
    by_cases h2 : n / 10 < 10
    · rw [z _ h2, show n / 100 = 0 by omega, d0]; rfl
    · rw [decDigits_step (by omega), z _ (by omega), show n / 10 / 10 = n / 100 by omega]; rfl
theorem pad2 (n : Nat) (h : n < 100) : padT 2 (Lib.decDigits n) = bytesOf [dgI ((n : Int) / 10), dgI (n : Int)] := by
  have e2 : ((n : Int) / 10) = ((n / 10 : Nat) : Int) := by omega
  unfold bytesOf
  rw [e2, List.map_cons, List.map_cons, List.map_nil, digU, digU]
  have z : ∀ m, m < 10 → Lib.decDigits m = [digB m] := fun m hm => by unfold digB; rw [Lib.decDigits_one hm, Nat.mod_eq_of_lt hm]
  have d0 : digB 0 = 48 := rfl
  by_cases h1 : n < 10
  · rw [z n h1, show n / 10 = 0 by omega, d0]; rfl
  · rw [decDigits_step (by omega), z _ (by omega)]; rfl
theorem dec_len3 (n : Nat) (h : n < 1000) : (Lib.decDigits n).length ≤ 3 := (decimal_pow 2 n (by omega) (by omega) (by omega)).1

set_option maxHeartbeats 2000000 in
theorem l07Digits_any (n k : Nat) (hn : n < 1000) (hk : k ≤ 3) (w : World) :
    Calls Try.prog 38 #[.int .i64 (n : Int), .int .i64 (k : Int)] w fun e w' => e = .returned (.string ⟨(padT k (Lib.decDigits n)).toArray⟩) ∧ Below w.heap.size w w' := by
  have DA := Lib.hid (fun W => decimal_any n (by omega) W)
  have D3 := dec_len3 n hn
  generalize Lib.decDigits n = D at *
  go_enter Try.func38, Try.ntmps38
  go_wp2_with fail
  refine (DA.out _).mono ?_
  rintro e w1 ⟨rfl, h1⟩
  go_wp2
  go_loop [5] (fun o => ∃ L : List UInt8, o = .string ⟨L.toArray⟩ ∧ L.length ≤ 3 ∧ padT k L = padT k D) (fun o => match o with | .string s => 4 - s.size | _ => 0)
  case atStart => exact ⟨D, rfl, D3, rfl⟩
  case round =>
    obtain ⟨L, rfl, hL, hp⟩ := hrel
    have HP := Lib.hid hp
    clear hp
    have hsz : (⟨L.toArray⟩ : ByteArray).size = L.length := by simp [ByteArray.size]
    by_cases hlt : L.length < k
    · have PC := Lib.hid (padT_cons hlt)
      go_wp2
      refine ⟨⟨48 :: L, ?_, by simpa using (by omega : L.length + 1 ≤ 3), by rw [PC.out, HP.out]⟩, ?_⟩
      · congr 1
      · simp [ByteArray.size]
        omega
    · have PF := Lib.hid (padT_full (k := k) (L := L) (by omega))
      go_wp2
      go_ret
      exact ⟨by rw [← HP.out, PF.out]; rfl, h1⟩
end Go.Proofs.Ytimojjkblofhnaa
