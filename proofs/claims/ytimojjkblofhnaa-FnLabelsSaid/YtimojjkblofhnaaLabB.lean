/- Labels read back, by the program: contracts. No condition beyond the bounds that stand in each. -/
import Derived.Test.YtimojjkblofhnaaLabO
import Derived.Lib.BufferWrite
namespace Go.Proofs.Ytimojjkblofhnaa
set_option linter.unusedSimpArgs false
set_option linter.unusedVariables false
set_option maxRecDepth 100000
open Go.RowKit

/-- A text's bytes. -/
def zl (S : ByteArray) : List Int := S.data.toList.map fun u => (u.toNat : Int)
def numF (l : List Int) : Nat → Int
  | 0 => 0
  | k + 1 => numF l k * 10 + (l.getD k 0 - 48) % 256
theorem numF_step (l : List Int) (k : Nat) : numF l (k + 1) = numF l k * 10 + (l.getD k 0 - 48) % 256 := rfl
theorem numF_bd3 (l : List Int) (k : Nat) (h : k < 3) : 0 ≤ numF l k ∧ numF l k ≤ 2805 := by
  have h0 : numF l 0 = 0 := rfl
  have h1 : numF l 1 = numF l 0 * 10 + (l.getD 0 0 - 48) % 256 := rfl
  have h2 : numF l 2 = numF l 1 * 10 + (l.getD 1 0 - 48) % 256 := rfl
  generalize l.getD 0 0 = a at *
  generalize l.getD 1 0 = b at *
  have : k = 0 ∨ k = 1 ∨ k = 2 := by omega
  rcases this with rfl | rfl | rfl <;> omega
theorem zl_len (S : ByteArray) : (zl S).length = S.size := by unfold zl ByteArray.size; rw [List.length_map, Array.length_toList]
theorem zl_at (S : ByteArray) (k : Nat) (h : k < S.size) : (zl S).getD k 0 = (S[k].toNat : Int) := by
  have h2 : k < (zl S).length := by rw [zl_len]; exact h
  rw [List.getD_eq_getElem?_getD, List.getElem?_eq_getElem h2]
  simp [zl]
  rfl

set_option maxHeartbeats 2000000 in
theorem numberOf_any (S : ByteArray) (h3 : S.size ≤ 3) (w : World) :
    Calls Try.prog 40 #[.string S] w fun e w' => e = .returned (.int .i16 (numF (zl S) S.size)) ∧ w' = w := by
  have BD := Lib.hid (numF_bd3 (zl S))
  have AT := Lib.hid (zl_at S)
  go_enter Try.func40, Try.ntmps40
  go_wp2
  go_loop [3, 7] (fun n_ i_ => ∃ (k : Nat) (n : Int), k ≤ S.size ∧ i_ = .int .i64 (k : Int) ∧ n_ = .int .i16 n ∧ n = numF (zl S) k) (fun _ i_ => S.size - (intOf i_).toNat)
  case atStart => exact ⟨0, 0, Nat.zero_le _, rfl, rfl, rfl⟩
  case round =>
    obtain ⟨k, n, hk, rfl, rfl, hn⟩ := hrel
    have HN := Lib.hid hn
    by_cases hlt : k < S.size
    · obtain ⟨b1, b2⟩ := BD.out k (by omega)
      rw [← hn] at b1 b2
      clear hn
      have HZ := Lib.hid (AT.out k hlt)
      have STEP := Lib.hid (show numF (zl S) (k + 1) = numF (zl S) k * 10 + ((zl S).getD k 0 - 48) % 256 from rfl)
      go_wp2
      refine ⟨⟨k + 1, n * 10 + ((S[k]'hlt).toNat - 48 : Int) % 256, by omega, rfl, rfl, ?_⟩, ?_⟩
      · rw [STEP.out, HZ.out, ← HN.out]
      · simp [intOf]; omega
    · obtain rfl : k = S.size := by omega
      clear hn
      go_wp2
      go_ret
      exact ⟨by rw [← HN.out]; rfl, rfl⟩
end Go.Proofs.Ytimojjkblofhnaa
