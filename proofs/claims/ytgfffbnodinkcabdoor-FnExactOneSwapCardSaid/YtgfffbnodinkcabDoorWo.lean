/- A list without the books with some indices; the indices that are not kept: as plain data. No condition. -/
import Derived.Test.YtgfffbnodinkcabDoorBooksOk
import Derived.Test.YtgfffbnodinkcabDoorHas
namespace Go.Proofs.YtgfffbnodinkcabDoor
set_option linter.unusedSimpArgs false
set_option linter.unusedVariables false
set_option maxRecDepth 100000
open Go.RowKit

/-- The numbers rise from low on, and are less than n. -/
def risB (n : Int) : Int → List Int → Bool
  | _, [] => true
  | low, z :: t => inB z low (n - 1) && risB n (z + 1) t
theorem ris_step {n low : Int} {zs : List Int} {k : Nat} (h : k < zs.length) : risB n low (zs.drop k) = (inB zs[k] low (n - 1) && risB n (zs[k] + 1) (zs.drop (k + 1))) := by
  rw [List.drop_eq_getElem_cons h]
  rfl
theorem ris_end {n low : Int} {zs : List Int} : risB n low (zs.drop zs.length) = true := by rw [List.drop_length]; rfl
def woTo (xs : List Bk) (zs : List Int) : Nat → List Bk
  | 0 => []
  | k + 1 => if memB zs (k : Int) then woTo xs zs k else woTo xs zs k ++ [xs.getD k default]
theorem wo_yes {xs : List Bk} {zs : List Int} {k : Nat} (h : memB zs (k : Int) = true) : woTo xs zs (k + 1) = woTo xs zs k := by rw [woTo, if_pos h]
theorem wo_no {xs : List Bk} {zs : List Int} {k : Nat} (hk : k < xs.length) (h : memB zs (k : Int) = false) : woTo xs zs (k + 1) = woTo xs zs k ++ [xs[k]] := by
  rw [woTo, if_neg (by rw [h]; simp)]
  simp [List.getD, List.getElem?_eq_getElem hk]
theorem wo_len (xs : List Bk) (zs : List Int) : ∀ k, (woTo xs zs k).length ≤ k
  | 0 => Nat.le_refl _
  | k + 1 => by
    have ih := wo_len xs zs k
    rw [woTo]
    split
    · omega
    · simp; omega
def woC (xs : List Bk) (zs : List Int) : Int := if okB xs then (if risB xs.length 0 zs then 0 else 2) else 1
def woR (xs : List Bk) (zs : List Int) : List Bk := if okB xs then (if risB xs.length 0 zs then woTo xs zs xs.length else []) else []
theorem wo_cases (xs : List Bk) (zs : List Int) : (okB xs = false ∧ woC xs zs = 1 ∧ woR xs zs = []) ∨ (okB xs = true ∧ risB xs.length 0 zs = false ∧ woC xs zs = 2 ∧ woR xs zs = []) ∨ (okB xs = true ∧ risB xs.length 0 zs = true ∧ woC xs zs = 0 ∧ woR xs zs = woTo xs zs xs.length) := by
  unfold woC woR
  cases h1 : okB xs
  · exact .inl ⟨rfl, rfl, rfl⟩
  · cases h2 : risB xs.length 0 zs
    · exact .inr (.inl ⟨rfl, rfl, rfl, rfl⟩)
    · exact .inr (.inr ⟨rfl, rfl, rfl, rfl⟩)
theorem woR_len (xs : List Bk) (zs : List Int) : (woR xs zs).length ≤ xs.length := by
  rcases wo_cases xs zs with ⟨_, _, h⟩ | ⟨_, _, _, h⟩ | ⟨_, _, _, h⟩
  · rw [h]; exact Nat.zero_le _
  · rw [h]; exact Nat.zero_le _
  · rw [h]; exact wo_len _ _ _

/-- The first k numbers that are not among some. -/
def outTo (ks : List Int) : Nat → List Int
  | 0 => []
  | k + 1 => if memB ks (k : Int) then outTo ks k else outTo ks k ++ [(k : Int)]
theorem out_yes {ks : List Int} {k : Nat} (h : memB ks (k : Int) = true) : outTo ks (k + 1) = outTo ks k := by rw [outTo, if_pos h]
theorem out_no {ks : List Int} {k : Nat} (h : memB ks (k : Int) = false) : outTo ks (k + 1) = outTo ks k ++ [(k : Int)] := by rw [outTo, if_neg (by rw [h]; simp)]
theorem out_len (ks : List Int) : ∀ k, (outTo ks k).length ≤ k
  | 0 => Nat.le_refl _
  | k + 1 => by
    have ih := out_len ks k
    rw [outTo]
    split
    · omega
    · simp; omega
end Go.Proofs.YtgfffbnodinkcabDoor
