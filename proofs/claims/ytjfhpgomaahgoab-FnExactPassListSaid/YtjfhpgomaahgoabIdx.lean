/- Indices of a list in the usual order, as plain lists: ranks, the sorted ones, and where they break. No condition. -/
import Derived.Test.YtjfhpgomaahgoabStab
import Derived.Test.YtjfhpgomaahgoabUse
namespace Go.Proofs.Ytjfhpgomaahgoab
set_option linter.unusedSimpArgs false
set_option linter.unusedVariables false
set_option maxRecDepth 100000
open Go.RowKit Stab

def kU (xs : List Bk) (i : Nat) : Int := keyU (xs.getD i default)
/-- Book i comes ahead of book j; equal ones stay as they are. -/
def LI (xs : List Bk) (i j : Int) : Prop := kU xs i.toNat < kU xs j.toNat ∨ (kU xs i.toNat = kU xs j.toNat ∧ i < j)
instance (xs : List Bk) (i j : Int) : Decidable (LI xs i j) := by unfold LI; infer_instance
theorem LI.tr {xs : List Bk} : ∀ x y z, LI xs x y → LI xs y z → LI xs x z := by
  intro x y z h1 h2
  unfold LI at *
  omega
theorem LI.ir {xs : List Bk} : ∀ x, ¬ LI xs x x := by intro x h; unfold LI at h; omega
theorem LI.asym {xs : List Bk} {x y : Int} (h : LI xs x y) : ¬ LI xs y x := fun h2 => LI.ir _ (LI.tr _ _ _ h h2)
theorem LI.total {xs : List Bk} {x y : Int} (h : x ≠ y) : LI xs x y ∨ LI xs y x := by unfold LI; omega

def rngI (n : Nat) : List Int := (List.range n).map (fun i : Nat => (i : Int))
theorem rngI_length (n : Nat) : (rngI n).length = n := by simp [rngI]
theorem rngI_mem {n : Nat} {x : Int} : x ∈ rngI n ↔ 0 ≤ x ∧ x < n := by
  unfold rngI
  rw [List.mem_map]
  constructor
  · rintro ⟨i, hi, rfl⟩
    have := List.mem_range.1 hi
    omega
  · intro h
    exact ⟨x.toNat, List.mem_range.2 (by omega), by omega⟩
theorem rngI_get {n i : Nat} (h : i < (rngI n).length) : (rngI n)[i] = i := by simp [rngI]
theorem rngI_pairwise (n : Nat) : (rngI n).Pairwise (fun x y => x < y) := by
  unfold rngI
  rw [List.pairwise_map]
  exact List.pairwise_lt_range.imp (fun h => by omega)

/-- What the comparison of indices says. -/
def cfI (xs : List Bk) (x y : Int) : Int := usual (xs.getD x.toNat default) (xs.getD y.toNat default)
def srt (xs : List Bk) : List Int := stableF (fun x y => decide (cfI xs x y < 0)) (rngI xs.length)
theorem getD_wf {xs : List Bk} (wf : ∀ b ∈ xs, b.Wf) {i : Nat} (h : i < xs.length) : (xs.getD i default).Wf := by
  rw [List.getD_eq_getElem?_getD, List.getElem?_eq_getElem h]
  exact wf _ (List.getElem_mem h)
theorem srt_ok {xs : List Bk} (wf : ∀ b ∈ xs, b.Wf) : (srt xs).Perm (rngI xs.length) ∧ (srt xs).Pairwise (LI xs) := by
  refine stable_ok (L := LI xs) LI.tr (rngI xs.length) ?_
  have h := rngI_pairwise xs.length
  rw [List.pairwise_iff_forall_sublist] at h ⊢
  intro x y hs
  have hxy := h hs
  have hx := rngI_mem.1 (hs.subset (by simp : x ∈ [x, y]))
  have hy := rngI_mem.1 (hs.subset (by simp : y ∈ [x, y]))
  have wx := getD_wf wf (i := x.toNat) (by omega)
  have wy := getD_wf wf (i := y.toNat) (by omega)
  have e := usual_lt _ _ wy wx
  unfold Cr LI kU cfI
  refine ⟨fun hl => ?_, fun hl => ?_⟩
  · simp only [decide_eq_true_eq] at hl
    have := e.1 hl
    omega
  · simp only [decide_eq_false_iff_not] at hl
    have : ¬ (keyU (xs.getD y.toNat default) < keyU (xs.getD x.toNat default)) := fun h => hl (e.2 h)
    omega
theorem srt_length {xs : List Bk} (wf : ∀ b ∈ xs, b.Wf) : (srt xs).length = xs.length := by rw [(srt_ok wf).1.length_eq, rngI_length]
theorem srt_in {xs : List Bk} (wf : ∀ b ∈ xs, b.Wf) {p : Nat} (h : p < (srt xs).length) : 0 ≤ (srt xs)[p] ∧ (srt xs)[p] < xs.length :=
  rngI_mem.1 ((srt_ok wf).1.mem_iff.1 (List.getElem_mem h))

/-- How many come ahead. -/
def rk (xs : List Bk) (i : Int) : Nat := (rngI xs.length).countP (fun k => decide (LI xs k i))
/-- Of a sorted list, just the elements ahead come ahead. -/
theorem count_sorted {xs : List Bk} : ∀ (l : List Int), l.Pairwise (LI xs) → ∀ (p : Nat) (hp : p < l.length), l.countP (fun k => decide (LI xs k l[p])) = p
  | [], _, p, hp => absurd hp (Nat.not_lt_zero _)
  | a :: t, h, 0, _ => by
    rw [List.pairwise_cons] at h
    rw [List.countP_eq_zero]
    intro k hk
    simp only [List.getElem_cons_zero, decide_eq_true_eq]
    rcases List.mem_cons.1 hk with rfl | hk
    · exact LI.ir _
    · exact LI.asym (h.1 k hk)
  | a :: t, h, p + 1, hp => by
    rw [List.pairwise_cons] at h
    have hp' : p < t.length := by simpa using hp
    rw [List.countP_cons]
    simp only [List.getElem_cons_succ]
    rw [count_sorted t h.2 p hp', if_pos (by simpa using h.1 _ (List.getElem_mem hp'))]
theorem rk_srt {xs : List Bk} (wf : ∀ b ∈ xs, b.Wf) {p : Nat} (h : p < (srt xs).length) : rk xs (srt xs)[p] = p := by
  unfold rk
  rw [← (srt_ok wf).1.countP_eq]
  exact count_sorted _ (srt_ok wf).2 p h

/-! ### breaks -/
/-- Book i doesn't come right behind book i - 1. -/
def brk (xs : List Bk) (i : Int) : Bool := decide ((rk xs i : Int) ≠ (if i = 0 then 0 else (rk xs (i - 1) : Int) + 1))
def brF (xs : List Bk) : List Int → Int → Int
  | [], _ => 0
  | a :: t, next => (if a ≠ next then 1 else 0) + brF xs t (a + 1)
theorem brF_count {xs : List Bk} (wf : ∀ b ∈ xs, b.Wf) : ∀ (r : Nat) (p : Nat), p + r = (srt xs).length → brF xs ((srt xs).drop p) (if p = 0 then 0 else (srt xs).getD (p - 1) 0 + 1) = (((srt xs).drop p).countP (brk xs) : Int)
  | 0, p, h => by rw [List.drop_eq_nil_of_le (by omega)]; rfl
  | r + 1, p, h => by
    have hp : p < (srt xs).length := by omega
    rw [List.drop_eq_getElem_cons hp, brF, List.countP_cons]
    have ih := brF_count wf r (p + 1) (by omega)
    rw [if_neg (by omega), Nat.add_sub_cancel, List.getD_eq_getElem?_getD, List.getElem?_eq_getElem hp, Option.getD_some] at ih
    rw [ih]
    have hin := srt_in wf hp
    have e : brk xs (srt xs)[p] = decide ((srt xs)[p] ≠ (if p = 0 then 0 else (srt xs).getD (p - 1) 0 + 1)) := by
      unfold brk
      rw [rk_srt wf hp]
      rw [decide_eq_decide]
      by_cases hp0 : p = 0
      · subst hp0
        rw [if_pos rfl]
        by_cases h0 : (srt xs)[0] = 0
        · simp [h0]
        · rw [if_neg h0]
          constructor
          · intro _; exact h0
          · intro _; omega
      · rw [if_neg hp0]
        have hq : p - 1 < (srt xs).length := by omega
        have hinq := srt_in wf hq
        rw [List.getD_eq_getElem?_getD, List.getElem?_eq_getElem hq, Option.getD_some]
        have rq := rk_srt wf hq
        constructor
        · intro hne heq
          apply hne
          rw [if_neg (by omega)]
          have : (srt xs)[p] - 1 = (srt xs)[p - 1] := by omega
          rw [this, rq]
          omega
        · intro hne heq
          apply hne
          by_cases h0 : (srt xs)[p] = 0
          · rw [if_pos h0] at heq; omega
          · rw [if_neg h0] at heq
            -- the book ahead has the rank before
            obtain ⟨q, hq', e⟩ := List.getElem_of_mem ((srt_ok wf).1.mem_iff.2 (rngI_mem.2 ⟨by omega, by omega⟩) : (srt xs)[p] - 1 ∈ srt xs)
            have rq' := rk_srt wf hq'
            rw [e] at rq'
            rw [rq'] at heq
            have : q = p - 1 := by omega
            subst this
            omega
    rw [e]
    by_cases hd : (srt xs)[p] ≠ (if p = 0 then 0 else (srt xs).getD (p - 1) 0 + 1)
    · rw [if_pos hd, decide_eq_true hd, if_pos rfl]; omega
    · rw [if_neg hd, decide_eq_false hd, if_neg (by simp)]; omega
def brks (xs : List Bk) : Int := ((rngI xs.length).countP (brk xs) : Int)
theorem brF_all {xs : List Bk} (wf : ∀ b ∈ xs, b.Wf) : brF xs (srt xs) 0 = brks xs := by
  have h := brF_count wf (srt xs).length 0 (by omega)
  rw [List.drop_zero, if_pos rfl] at h
  rw [h, (srt_ok wf).1.countP_eq]
  rfl

end Go.Proofs.Ytjfhpgomaahgoab
