/- ReadLabel, by the model and by the program: contracts. No condition. -/
import Derived.Test.YtimojjkblofhnaaLabY
import Derived.Test.YtimojjkblofhnaaHvS
namespace Go.Proofs.Ytimojjkblofhnaa
set_option linter.unusedSimpArgs false
set_option linter.unusedVariables false
set_option maxRecDepth 100000
open Go.RowKit

theorem zl_eq {S T : ByteArray} (h : zl S = zl T) : S = T := by
  have := zl_inj h
  rw [ByteArray.toList_eq, ByteArray.toList_eq] at this
  have := Array.toList_inj.1 this
  exact ByteArray.ext this
theorem isB_okZ {T : ByteArray} (h : isB T = true) : T.size = 9 ∧ ∀ k, k < 9 → okZ k ((zl T).getD k 0) = true := by
  unfold isB at h
  rw [← okTo9] at h
  simp only [Bool.and_eq_true, decide_eq_true_eq] at h
  exact ⟨h.1.1.1, fun k hk => okTo_at h.1.1.2 hk⟩
theorem okZ_dig {k : Nat} {z : Int} (h : okZ k z = true) (hk : k < 3 ∨ 6 ≤ k) : 48 ≤ z ∧ z ≤ 57 := by
  unfold okZ digZ at h
  rw [if_neg (by omega)] at h
  exact of_decide_eq_true h
theorem valS_dig {z : Int} (h : 48 ≤ z ∧ z ≤ 57) : valS z = z - 48 := by unfold valS; rw [if_pos h]
/-- What a label says. -/
def rdC (T : ByteArray) : Int := if isB T then (bkT T).c else 0
def rdM (T : ByteArray) : ByteArray := if isB T then T.extract 3 6 else ⟨#[]⟩
def rdV (T : ByteArray) : Int := if isB T then (bkT T).v else 0
def rdE (T : ByteArray) : Int := if isB T then 0 else 5
theorem rd_num {T : ByteArray} (h : isB T = true) : ((bkT T).c = 100 * ((zl T).getD 0 0 - 48) + 10 * ((zl T).getD 1 0 - 48) + ((zl T).getD 2 0 - 48)) ∧ (bkT T).v = 10 * ((zl T).getD 6 0 - 48) + ((zl T).getD 7 0 - 48) := by
  obtain ⟨h9, hz⟩ := isB_okZ h
  have d0 := okZ_dig (hz 0 (by omega)) (by omega)
  have d1 := okZ_dig (hz 1 (by omega)) (by omega)
  have d2 := okZ_dig (hz 2 (by omega)) (by omega)
  have d6 := okZ_dig (hz 6 (by omega)) (by omega)
  have d7 := okZ_dig (hz 7 (by omega)) (by omega)
  have x0 := zl_ext T 0 3 (by omega) (by omega) 0 (by omega)
  have x1 := zl_ext T 0 3 (by omega) (by omega) 1 (by omega)
  have x2 := zl_ext T 0 3 (by omega) (by omega) 2 (by omega)
  have x6 := zl_ext T 6 8 (by omega) (by omega) 0 (by omega)
  have x7 := zl_ext T 6 8 (by omega) (by omega) 1 (by omega)
  simp only [Nat.zero_add, Nat.add_zero, Nat.reduceAdd] at x0 x1 x2 x6 x7
  have nc : (bkT T).c = ((0 * 10 + ((zl (T.extract 0 3)).getD 0 0 - 48) % 256) * 10 + ((zl (T.extract 0 3)).getD 1 0 - 48) % 256) * 10 + ((zl (T.extract 0 3)).getD 2 0 - 48) % 256 := rfl
  have nv : (bkT T).v = (0 * 10 + ((zl (T.extract 6 8)).getD 0 0 - 48) % 256) * 10 + ((zl (T.extract 6 8)).getD 1 0 - 48) % 256 := rfl
  rw [x0, x1, x2] at nc
  rw [x6, x7] at nv
  rw [nc, nv]
  clear nc nv x0 x1 x2 x6 x7 hz
  generalize (zl T).getD 0 0 = a at *
  generalize (zl T).getD 1 0 = b at *
  generalize (zl T).getD 2 0 = c at *
  generalize (zl T).getD 6 0 = g at *
  generalize (zl T).getD 7 0 = i at *
  rw [Int.emod_eq_of_lt (a := a - 48) (by omega) (by omega), Int.emod_eq_of_lt (a := b - 48) (by omega) (by omega), Int.emod_eq_of_lt (a := c - 48) (by omega) (by omega), Int.emod_eq_of_lt (a := g - 48) (by omega) (by omega), Int.emod_eq_of_lt (a := i - 48) (by omega) (by omega)]
  constructor <;> omega
end Go.Proofs.Ytimojjkblofhnaa
