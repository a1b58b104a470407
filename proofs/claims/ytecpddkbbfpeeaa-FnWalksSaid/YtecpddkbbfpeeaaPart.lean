/- Parts of lists of books, as slices and as plain data; which books fit on a shelf. No condition. -/
import Derived.Test.YtecpddkbbfpeeaaCase
import Derived.Test.YtecpddkbbfpeeaaBooksOk
import Derived.Test.YtecpddkbbfpeeaaTot
namespace Go.Proofs.Ytecpddkbbfpeeaa
set_option linter.unusedSimpArgs false
set_option linter.unusedVariables false
set_option maxRecDepth 100000
open Go.RowKit

/-- The books from i on, ahead of k. -/
def part (xs : List Bk) (i k : Nat) : List Bk := (xs.drop i).take (k - i)

theorem part_length {xs : List Bk} {i k : Nat} (hk : k ≤ xs.length) : (part xs i k).length = k - i := by
  unfold part
  simp
  omega
theorem part_get {xs : List Bk} {i k : Nat} (j : Nat) (hj : j < (part xs i k).length) (hj' : i + j < xs.length) : (part xs i k)[j] = xs[i + j] := by
  simp [part]
theorem part_wf {xs : List Bk} (i k : Nat) (h : ∀ b ∈ xs, b.Wf) : ∀ b ∈ part xs i k, b.Wf := fun b hb => h b (List.mem_of_mem_drop (List.mem_of_mem_take hb))
theorem part_all (xs : List Bk) : part xs 0 xs.length = xs := by simp [part]
theorem part_nil (xs : List Bk) (i : Nat) : part xs i i = [] := by simp [part]
theorem okB_part {xs : List Bk} (i k : Nat) (h : okB xs = true) : okB (part xs i k) = true := by
  unfold okB at h ⊢
  simp only [Bool.and_eq_true, List.all_eq_true, decide_eq_true_eq] at h ⊢
  refine ⟨fun b hb => h.1 b (List.mem_of_mem_drop (List.mem_of_mem_take hb)), ?_⟩
  unfold part
  simp
  omega
theorem okB_len {xs : List Bk} (h : okB xs = true) : xs.length ≤ 60 := by unfold okB at h; simp at h; exact h.2

/-- Where a part of a slice of books lies, for an upper bound m of the capacity. -/
def subA (A : Option Addr) (i m : Nat) : Option Addr := if m = i then A else A.map (·.add (i * 8))

theorem SliceOf.part {w : World} {A : Option Addr} {c m : Nat} {xs : List Bk} (h : SliceOf w (.slice A xs.length c) xs) {i k : Nat} (hik : i ≤ k) (hk : k ≤ xs.length) (hm : k ≤ m) :
    SliceOf w (.slice (subA A i m) (k - i) (m - i)) (part xs i k) := by
  obtain ⟨A', c', e, h⟩ := h
  obtain ⟨rfl, _, rfl⟩ : A = A' ∧ xs.length = xs.length ∧ c = c' := by injection e with a b d; exact ⟨a, b, d⟩
  refine ⟨subA A i m, m - i, by rw [part_length hk], fun h0 => ?_⟩
  rw [part_length hk] at h0
  obtain ⟨g, o, rfl, hg, hat⟩ := h (by omega)
  refine ⟨g, o + i * 8, ?_, hg, fun j hj t v hv => ?_⟩
  · unfold subA
    rw [if_neg (by omega)]
    simp [Addr.add]
  · rw [part_length hk] at hj
    have e := part_get (xs := xs) (i := i) (k := k) j (by rw [part_length hk]; exact hj) (by omega)
    rw [e] at hv
    have h1 := hat (i + j) (by omega) t v hv
    rw [← h1]
    congr 2
    omega

theorem cellsImplBook : Try.prog.cellsOf 42 = 8 := by kernel_rfl

theorem elemBooks : Try.prog.underlying 32 = some (.slice (Try.prog.elem 32)) := by kernel_rfl
theorem sizeBook (w : World) : (sizeOf (Try.prog.elem 32)).run Try.prog w = .ok 8 w := by kernel_rfl

theorem run_part2 (A : Option Addr) (n c i k : Nat) (hik : i ≤ k) (hk : k ≤ c) (w : World) :
    (Instr.slice 32 (.slice A n c) (some (.int .i64 (i : Int))) (some (.int .i64 (k : Int))) none).run Try.prog w = .ok (.slice (subA A i c) (k - i) (c - i)) w := by
  rw [run_slice_lh w _ _ _ _ elemBooks _ _ _ _ (by omega) (by omega) (by omega), sizeBook]
  simp [Result.andThen, sliced, subA]
theorem run_part3 (A : Option Addr) (n c i k : Nat) (hik : i ≤ k) (hk : k ≤ c) (w : World) :
    (Instr.slice 32 (.slice A n c) (some (.int .i64 (i : Int))) (some (.int .i64 (k : Int))) (some (.int .i64 (k : Int)))).run Try.prog w = .ok (.slice (subA A i k) (k - i) (k - i)) w := by
  rw [run_slice_lhm w _ _ _ _ elemBooks _ _ _ _ _ _ (by omega) (by omega) (by omega) (by omega), sizeBook]
  simp [Result.andThen, sliced, subA]

/-! ### which books fit -/
/-- The height of a shelf. -/
def shH (c : Cs) (s : Nat) : Int := c.hs.getD s 0
def fitsB (c : Cs) (s : Nat) (xs : List Bk) : Bool := decide (totW xs xs.length ≤ c.wi) && (xs.all (fun b => decide (b.hi ≤ shH c s)) && decide (totE xs xs.length ≤ c.lo))
def freeB (c : Cs) (xs : List Bk) : Int := c.wi - totW xs xs.length
def freeS (c : Cs) (s : Nat) (xs : List Bk) : Int := if fitsB c s xs then freeB c xs else -1

theorem freeS_neg (c : Cs) (s : Nat) (xs : List Bk) : decide (freeS c s xs < 0) = !fitsB c s xs := by
  unfold freeS freeB
  cases h : fitsB c s xs
  · simp
  · unfold fitsB at h
    simp only [Bool.and_eq_true, decide_eq_true_eq] at h
    simp
    omega
theorem freeS_nonneg (c : Cs) (s : Nat) (xs : List Bk) : decide (0 ≤ freeS c s xs) = fitsB c s xs := by
  have := freeS_neg c s xs
  cases h : fitsB c s xs <;> simp [h] at this ⊢ <;> omega

/-- What is valid of a case. -/
def caseB (c : Cs) : Bool := inB c.wi 1 2000 && (inB c.lo 1 200000 && (inB (c.hs.length : Int) 1 12 && c.hs.all (fun h => inB h 50 1000)))

theorem fits_nil {c : Cs} (s : Nat) (h : caseB c = true) : fitsB c s [] = true := by
  unfold caseB inB at h
  simp only [Bool.and_eq_true, decide_eq_true_eq] at h
  unfold fitsB
  simp [totW, totE]
  omega

theorem shH_in {c : Cs} (h : caseB c = true) (s : Nat) (hs : s < c.hs.length) : 50 ≤ shH c s ∧ shH c s ≤ 1000 := by
  unfold caseB at h
  simp only [Bool.and_eq_true, List.all_eq_true] at h
  have := h.2.2.2 c.hs[s] (List.getElem_mem hs)
  unfold inB at this
  simp only [decide_eq_true_eq] at this
  unfold shH
  simpa [List.getD, List.getElem?_eq_getElem hs] using this

theorem totH_le (xs : List Bk) (m : Int) (h0 : 0 ≤ m) : ∀ k, k ≤ xs.length → (totH xs k ≤ m ↔ ∀ (i : Nat) (hi : i < xs.length), i < k → xs[i].hi ≤ m)
  | 0, _ => by simp [totH]; omega
  | k + 1, hk => by
    have ih := totH_le xs m h0 k (by omega)
    rw [totH, getD_in_books (by omega)]
    constructor
    · intro h i hi hik
      by_cases e : i = k
      · subst e
        split at h <;> omega
      · refine ih.1 ?_ i hi (by omega)
        split at h <;> omega
    · intro h
      have h1 := ih.2 fun i hi hik => h i hi (by omega)
      have h2 := h k (by omega) (by omega)
      split <;> omega

theorem all_hi (xs : List Bk) (m : Int) (h0 : 0 ≤ m) : xs.all (fun b => decide (b.hi ≤ m)) = decide (totH xs xs.length ≤ m) := by
  rw [Bool.eq_iff_iff, List.all_eq_true, decide_eq_true_eq, totH_le xs m h0 _ (Nat.le_refl _)]
  constructor
  · intro h i hi _
    simpa using h xs[i] (List.getElem_mem hi)
  · intro h b hb
    obtain ⟨i, hi, rfl⟩ := List.getElem_of_mem hb
    simpa using h i hi hi

end Go.Proofs.Ytecpddkbbfpeeaa
