/- The waste of books on heights, by the model: contracts. Condition: numbers within their kinds, slices no longer than can be. -/
import Derived.Test.YtlphpajpjpohmabGrp
namespace Go.Proofs.Ytlphpajpjpohmab
set_option linter.unusedSimpArgs false
set_option linter.unusedVariables false
set_option maxRecDepth 100000
open Go.RowKit

def wsA (hs : List Int) (b : Bk) : Int := b.wi * (hs.getD (hIx hs b.hi) 0 - b.hi)
def wsTo (hs : List Int) (xs : List Bk) : Nat → Int
  | 0 => 0
  | k + 1 => wsTo hs xs k + wsA hs (xs.getD k default)
theorem okB_get {xs : List Bk} (h : okB xs = true) {b : Bk} (hb : b ∈ xs) : bookB b = true := by
  unfold okB at h
  rw [Bool.and_eq_true, List.all_eq_true] at h
  exact h.1 b hb
theorem okB_len {xs : List Bk} (h : okB xs = true) : xs.length ≤ 60 := by unfold okB at h; simp at h; exact h.2
theorem bookB_wh {b : Bk} (h : bookB b = true) : (1 ≤ b.wi ∧ b.wi ≤ 100) ∧ (50 ≤ b.hi ∧ b.hi ≤ 400) := by
  unfold bookB inB at h
  simp only [Bool.and_eq_true, decide_eq_true_eq] at h
  exact ⟨h.2.2.2.1, h.2.2.2.2.1⟩
theorem wsA_bounds {hs : List Int} {b : Bk} (hb : bookB b = true) (hh : ∀ x ∈ hs, 50 ≤ x ∧ x ≤ 1000) (hk : hIx hs b.hi < hs.length) : 0 ≤ wsA hs b ∧ wsA hs b ≤ 100000 ∧ wsA hs b = b.wi * (hs[hIx hs b.hi] - b.hi) := by
  obtain ⟨h1, h2⟩ := bookB_wh hb
  have h3 := hIx_at hk
  have h4 := hh _ (List.getElem_mem hk)
  have e : hs.getD (hIx hs b.hi) 0 = hs[hIx hs b.hi] := by simp [List.getD, List.getElem?_eq_getElem hk]
  unfold wsA
  rw [e]
  generalize hs[hIx hs b.hi] = h at *
  have m1 : 0 ≤ b.wi * (h - b.hi) := Int.mul_nonneg (by omega) (by omega)
  have m2 : b.wi * (h - b.hi) ≤ 100 * 1000 := Int.mul_le_mul (by omega) (by omega) (by omega) (by omega)
  exact ⟨m1, by omega, rfl⟩
theorem wsA_eq {hs : List Int} {b : Bk} (hk : hIx hs b.hi < hs.length) : wsA hs b = b.wi * (hs[hIx hs b.hi] - b.hi) := by
  unfold wsA
  simp [List.getD, List.getElem?_eq_getElem hk]
theorem wsTo_bounds {hs : List Int} {xs : List Bk} (ok : okB xs = true) (hh : ∀ x ∈ hs, 50 ≤ x ∧ x ≤ 1000) (ha : allHB hs xs = true) : ∀ k, k ≤ xs.length → 0 ≤ wsTo hs xs k ∧ wsTo hs xs k ≤ 100000 * (k : Int)
  | 0, _ => by simp [wsTo]
  | k + 1, hk => by
    have ih := wsTo_bounds ok hh ha k (by omega)
    have hk' : k < xs.length := by omega
    have e : xs.getD k default = xs[k] := by simp [List.getD, List.getElem?_eq_getElem hk']
    have hb := wsA_bounds (okB_get ok (List.getElem_mem hk')) hh (allHB_get ha hk')
    rw [wsTo, e]
    omega
theorem wsTo_succ {hs : List Int} {xs : List Bk} {k : Nat} (hk : k < xs.length) : wsTo hs xs (k + 1) = wsTo hs xs k + wsA hs xs[k] := by
  rw [wsTo]
  simp [List.getD, List.getElem?_eq_getElem hk]

end Go.Proofs.Ytlphpajpjpohmab
