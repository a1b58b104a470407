/- Where each book should stand, by whole books: the plain form. No condition. -/
import Derived.Test.YteeblpdjpaellaaDoorTit0
import Derived.Test.YteeblpdjpaellaaDoorSwS
import Derived.Test.YteeblpdjpaellaaDoorHas
import Derived.Test.YteeblpdjpaellaaDoorUse
import Derived.Test.YteeblpdjpaellaaDoorQuiet
import Derived.Test.YteeblpdjpaellaaDoorOwn
import Derived.Test.YteeblpdjpaellaaDoorRuns2
import Derived.Maps.AppendAt
import Derived.BigQuiet
namespace Go.Proofs.YteeblpdjpaellaaDoor
set_option linter.unusedSimpArgs false
set_option linter.unusedVariables false
set_option maxRecDepth 100000
open Go.RowKit

/-- A book as it is told by all its fields. -/
def whl (b : Bk) : Bk := b
def tkW (xs ws : List Bk) (j : Nat) : List Int := (tkTo whl xs ws j).map (fun (n : Nat) => (n : Int))
theorem tkW_len (xs ws : List Bk) (j : Nat) : (tkW xs ws j).length = j := by unfold tkW; rw [List.length_map, tk_len]
theorem tkW_mem {xs ws : List Bk} {j k : Nat} : memB (tkW xs ws j) (k : Int) = decide (k ∈ tkTo whl xs ws j) := by
  unfold memB tkW
  refine decide_eq_decide.2 ?_
  rw [List.mem_map]
  constructor
  · rintro ⟨a, ha, e⟩
    have : a = k := by omega
    rwa [← this]
  · exact fun h => ⟨k, h, rfl⟩
theorem plc_cnt (tl : Bk → Bk) (xs : List Bk) (k : Bk) : ∀ n, n ≤ xs.length → (plc tl xs k n).length = (xs.take n).countP fun y => decide (tl y = k)
  | 0, _ => rfl
  | n + 1, h => by
    have ih := plc_cnt tl xs k n (by omega)
    rw [plc_succ, List.take_succ_eq_append_getElem (by omega : n < xs.length), List.countP_append, List.countP_singleton, getD_at (by omega : n < xs.length)]
    by_cases e : tl xs[n] = k
    · rw [if_pos e, List.length_append, ih, if_pos (decide_eq_true e)]; rfl
    · rw [if_neg e, ih, if_neg (by rw [decide_eq_true_eq]; exact e)]; rfl
theorem cnt_count (ws : List Bk) (k : Bk) (j : Nat) : cntT whl ws k j = (ws.take j).count k := by
  unfold cntT List.count
  congr 1
theorem same_takes {xs ys : List Bk} (hc : ∀ b, xs.count b = ys.count b) : TkOk whl xs ys ys.length := by
  intro i hi
  have h1 := plc_cnt whl xs (whl (ys.getD i default)) xs.length (Nat.le_refl _)
  have h2 := cnt_count xs (whl (ys.getD i default)) xs.length
  unfold cntT at h2
  rw [h1, h2, List.take_length, hc, cnt_count, getD_at hi]
  show (ys.take i).count ys[i] < ys.count ys[i]
  have h3 : (ys.take (i + 1)).count ys[i] ≤ ys.count ys[i] := List.Sublist.count_le _ (List.take_sublist _ _)
  rw [take_count hi, if_pos rfl] at h3
  omega
/-- What RightPlaces answers. -/
def rpL (xs ys : List Bk) : List Int := if saC xs ys = 0 then tkW xs ys ys.length else []
theorem rp_cases (xs ys : List Bk) : (saC xs ys ≠ 0 ∧ rpL xs ys = []) ∨ (saC xs ys = 0 ∧ rpL xs ys = tkW xs ys ys.length ∧ TkOk whl xs ys ys.length ∧ xs.length ≤ 60 ∧ ys.length ≤ 60) := by
  unfold rpL
  by_cases h : saC xs ys = 0
  · obtain ⟨h1, h2, h3⟩ := sa_len h
    exact .inr ⟨h, by rw [if_pos h], same_takes h3, by omega, h2⟩
  · exact .inl ⟨h, by rw [if_neg h]⟩
theorem rpL_len (xs ys : List Bk) : (rpL xs ys).length ≤ ys.length := by
  unfold rpL
  split
  · rw [tkW_len]; exact Nat.le_refl _
  · exact Nat.zero_le _
theorem own_emptyI (W : World) (B : Nat) (h : B ≤ W.heap.size) : (W.alloc (.cells #[] 2)).ownsRow B 2 1 (.slice (some ⟨W.heap.size, 0, none⟩) 0 0) 0 [] :=
  ⟨rfl, .inr ⟨W.heap.size, 0, #[], rfl, h, heap_alloc_new W _, Nat.le_refl _, Nat.zero_le _, rfl, rfl⟩⟩
theorem least_of (P : Nat → Prop) : ∀ n, P n → ∃ m, P m ∧ ∀ b, b < m → ¬ P b := by
  intro n
  induction n using Nat.strongRecOn with
  | _ n ih =>
    intro h
    by_cases q : ∃ b, b < n ∧ P b
    · obtain ⟨b, hb, pb⟩ := q
      exact ih b hb pb
    · exact ⟨n, h, fun b hb pb => q ⟨b, hb, pb⟩⟩
/-- What is taken next: the first that is told so and not taken. -/
theorem tk_next {tl : Bk → Bk} {xs ws : List Bk} {j : Nat} (hj : j < ws.length) (ho : TkOk tl xs ws (j + 1)) : ∃ t, t < xs.length ∧ tl (xs.getD t default) = tl (ws.getD j default) ∧ t ∉ tkTo tl xs ws j ∧
    (∀ b, b < t → tl (xs.getD b default) = tl (ws.getD j default) → b ∈ tkTo tl xs ws j) ∧ tkTo tl xs ws (j + 1) = tkTo tl xs ws j ++ [t] := by
  have ho2 : TkOk tl xs ws j := fun i hi => ho i (by omega)
  obtain ⟨b, hb⟩ : ∃ b, b < xs.length ∧ tl (xs.getD b default) = tl (ws.getD j default) ∧ b ∉ tkTo tl xs ws j := by
    apply Classical.byContradiction
    intro h
    exact tk_none hj ho2 (fun b h1 h2 => Classical.byContradiction fun h3 => h ⟨b, h1, h2, h3⟩) ho
  obtain ⟨t, ⟨h1, h2, h3⟩, hl⟩ := least_of (fun b => b < xs.length ∧ tl (xs.getD b default) = tl (ws.getD j default) ∧ b ∉ tkTo tl xs ws j) b hb
  have hs : ∀ b, b < t → tl (xs.getD b default) = tl (ws.getD j default) → b ∈ tkTo tl xs ws j := fun b hb he => Classical.byContradiction fun h => hl b hb ⟨by omega, he, h⟩
  exact ⟨t, h1, h2, h3, hs, (tk_first hj ho2 h1 h2 h3 hs).2⟩
end Go.Proofs.YteeblpdjpaellaaDoor
