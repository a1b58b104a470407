/- The model's numerals: spec.Decimal at every natural number below 2^62: a contract. Condition: that. -/
import Derived.Test.YtimojjkblofhnaaDec
import Derived.Deep.RegionLaw
namespace Go.Proofs.Ytimojjkblofhnaa
set_option linter.unusedSimpArgs false
set_option linter.unusedVariables false
set_option maxRecDepth 100000
open Go.RowKit

theorem bcellD {W w1 : World} (hb : Below W.heap.size W w1) : ∀ b o, b < W.heap.size → w1.cell? ⟨b, o, none⟩ = W.cell? ⟨b, o, none⟩ := fun b o h => hb.cell (p := ⟨b, o, none⟩) h

set_option maxHeartbeats 1000000 in
theorem decimal_step (n : Nat) (hn : n < 4611686018427387904) (h10 : 10 ≤ n) (q r : Int) (hq : q = ((n / 10 : Nat) : Int)) (hr : r = (48 : Int) + (n : Int) % 10) (S : ByteArray) (hS : S.size ≤ 100) (IH : ∀ W, Calls Try.prog 44 #[.int .i64 q] W fun e w' => e = .returned (.string S) ∧ Below W.heap.size W w') (w : World) :
    Calls Try.prog 44 #[.int .i64 (n : Int)] w fun e w' => e = .returned (.string (S ++ ⟨#[digB n]⟩)) ∧ Below w.heap.size w w' := by
  have h1 : ¬ ((n : Int) < 10) := by omega
  have T0 : IntKind.i64.wrap ((n : Int) / 10) = q := by rw [hq]; exact IntWalk.i64_in _ (by omega)
  have DC := fun (W : World) (g : Nat) (h : W.cell? ⟨g, 0, none⟩ = some (.int .u8 r)) => oneDigit n W g (by rw [h, hr])
  have T1 : IntKind.i64.wrap (48 + (n : Int).tmod 10) = r := by rw [Int.tmod_eq_emod_of_nonneg (by omega), hr]; exact IntWalk.i64_in _ (by omega)
  have T3 : IntKind.u8.wrap r = r := IntWalk.u8_in _ (by omega)
  have hS2 : ¬ (9223372036854775807 < S.size + 1) := by omega
  have HIH := Lib.hid IH
  clear IH hq hr
  go_enter Try.func44, Try.ntmps44
  go_wp2
  go_region_law ((go_simp; go_at_call 44; refine (HIH.out _).mono ?_; rintro e w1 ⟨rfl, g1⟩; have hc1 := bcellD g1))
  all_goals
    go_wp2
    go_ret
    first
      | exact ⟨rfl, ((Below.refl w.heap.size w).drew.trans g1).alloc g1.size _⟩
      | exact ⟨rfl, (((Below.refl w.heap.size w).alloc (Nat.le_refl _) _).drew).trans (g1.mono (by simp))⟩

theorem decDigits_step {n : Nat} (h : 10 ≤ n) : Lib.decDigits n = Lib.decDigits (n / 10) ++ [digB n] := by
  rw [Lib.decDigits, dif_neg (by omega)]
  rfl
theorem decimal_pow : ∀ (k n : Nat), n < 10 ^ (k + 1) → n < 4611686018427387904 → k ≤ 20 → (Lib.decDigits n).length ≤ k + 1 ∧ ∀ w, Calls Try.prog 44 #[.int .i64 (n : Int)] w fun e w' => e = .returned (.string ⟨(Lib.decDigits n).toArray⟩) ∧ Below w.heap.size w w'
  | k, n, hk, hn, h20 => by
    by_cases h : n < 10
    · refine ⟨?_, fun w => decimal_small n h w⟩
      rw [Lib.decDigits_one h]
      simp
    · match k with
      | 0 => exact absurd hk (by omega)
      | k + 1 =>
        have hq : n / 10 < 10 ^ (k + 1) := by
          rw [Nat.pow_succ] at hk
          omega
        obtain ⟨i1, i2⟩ := decimal_pow k (n / 10) hq (by omega) (by omega)
        rw [decDigits_step (by omega)]
        refine ⟨by simp; omega, fun w => ?_⟩
        have := decimal_step n hn (by omega) ((n / 10 : Nat) : Int) _ rfl rfl ⟨(Lib.decDigits (n / 10)).toArray⟩ (by simp [ByteArray.size]; omega) i2 w
        refine this.mono fun e w' h => ⟨h.1.trans ?_, h.2⟩
        congr 2

theorem decimal_any (n : Nat) (hn : n < 4611686018427387904) (w : World) : Calls Try.prog 44 #[.int .i64 (n : Int)] w fun e w' => e = .returned (.string ⟨(Lib.decDigits n).toArray⟩) ∧ Below w.heap.size w w' :=
  (decimal_pow 20 n (by omega) hn (Nat.le_refl _)).2 w

end Go.Proofs.Ytimojjkblofhnaa
