/- The model's numerals: spec.Decimal at one digit: contract; one byte as a string, a tenth of a number. Condition: a natural number below 10 (2^62). -/
import Derived.Test.YtimojjkblofhnaaBk
import Derived.Laws.IdiomStrings
import Derived.Deep.RegionHeld3
import Derived.Lib.ItoaNum
namespace Go.Proofs.Ytimojjkblofhnaa
set_option linter.unusedSimpArgs false
set_option linter.unusedVariables false
set_option maxRecDepth 100000
open Go.RowKit

def digB (n : Nat) : UInt8 := UInt8.ofNat (48 + n % 10)
theorem oneByte (k : Nat) (hk : k < 256) (W : World) (g cap : Nat) (h : W.cell? ⟨g, 0, none⟩ = some (.int .u8 (k : Int))) :
    (convert 22 9 (.slice (some ⟨g, 0, none⟩) 1 cap)).run Try.prog W = .ok (.string ⟨#[UInt8.ofNat k]⟩) W := by
  have e := run_convert_bytes_back (P := Try.prog) W 22 9 5 ⟨g, 0, none⟩ cap [UInt8.ofNat k] Try.underlying22 Try.underlying5 Try.underlying9 (by
    intro j hj
    have : j = 0 := by simpa using hj
    subst this
    have e2 : (UInt8.ofNat k).toNat = k := by simp [UInt8.toNat_ofNat']; omega
    simpa [Addr.add, e2] using h)
  simpa using e
theorem oneDigit (n : Nat) (W : World) (g : Nat) (h : W.cell? ⟨g, 0, none⟩ = some (.int .u8 (48 + (n : Int) % 10))) :
    (convert 22 9 (.slice (some ⟨g, 0, none⟩) 1 1)).run Try.prog W = .ok (.string ⟨#[digB n]⟩) W :=
  oneByte (48 + n % 10) (by omega) W g 1 (by rw [h]; simp)
set_option maxHeartbeats 4000000 in
theorem decimal_small (n : Nat) (h : n < 10) (w : World) : Calls Try.prog 44 #[.int .i64 (n : Int)] w fun e w' => e = .returned (.string ⟨(Lib.decDigits n).toArray⟩) ∧ Below w.heap.size w w' := by
  have hlt : (n : Int) < 10 := by omega
  have E := Lib.hid (show Lib.decDigits n = [digB n] by unfold digB; rw [Lib.decDigits_one h, Nat.mod_eq_of_lt h])
  have DC := oneDigit n (w.alloc (.cells #[.int .u8 (48 + (n : Int) % 10)] 5)) w.heap.size (cell_of_row _ _ 0 _ _ _ (heap_alloc_new w _))
  go_enter Try.func44, Try.ntmps44
  go_wp2
  go_ret
  exact ⟨by rw [E.out]; rfl, by go_grown⟩

theorem quoTen (n : Nat) (hn : n < 4611686018427387904) (W : World) : (binOp .quo 2 (.int .i64 (n : Int)) (.int .i64 10)).run Try.prog W = .ok (.int .i64 ((n / 10 : Nat) : Int)) W := by
  go_simp
  exact IntWalk.i64_in _ (by omega)
end Go.Proofs.Ytimojjkblofhnaa
