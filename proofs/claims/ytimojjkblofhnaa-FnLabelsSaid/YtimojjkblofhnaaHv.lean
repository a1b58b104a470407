/- The heaviest books that stand next to each other on a width, as plain data. No condition. -/
import Derived.Test.YtimojjkblofhnaaBooksOk
namespace Go.Proofs.Ytimojjkblofhnaa
set_option linter.unusedSimpArgs false
set_option linter.unusedVariables false
set_option maxRecDepth 100000
open Go.RowKit

structure Hv where
  f : Int
  c : Int
  m : Int
/-- What is known of the best books so far, at the first i books. -/
structure Hv.Ok (s : Hv) : Prop where
  f : 0 ≤ s.f ∧ s.f ≤ 60
  c : 0 ≤ s.c ∧ s.c ≤ 60
  m : 0 ≤ s.m ∧ s.m ≤ 2000000
def hvPut (wide : Int) (i c : Nat) (wd we : Int) (s : Hv) : Hv := if wd ≤ wide ∧ s.m < we then ⟨i, c, we⟩ else s
def hvIn (wide : Int) (i : Nat) : List Bk → Nat → Int → Int → Hv → Hv
  | [], _, _, _, s => s
  | b :: t, c, wd, we, s => hvIn wide i t (c + 1) (wd + b.wi) (we + b.we) (hvPut wide i (c + 1) (wd + b.wi) (we + b.we) s)
def hvOut (wide : Int) : List Bk → Nat → Hv → Hv
  | [], _, s => s
  | b :: t, i, s => hvOut wide t (i + 1) (hvIn wide i (b :: t) 0 0 0 s)
def hvAll (xs : List Bk) (wide : Int) : Hv := hvOut wide xs 0 ⟨0, 0, 0⟩
def hvC (xs : List Bk) (wide : Int) : Int := if okB xs then (if inB wide 1 6000 then (if (hvAll xs wide).c = 0 then 6 else 0) else 2) else 1
def hvV (xs : List Bk) (wide : Int) : Hv := if hvC xs wide = 0 then hvAll xs wide else ⟨0, 0, 0⟩
theorem hv_cases (xs : List Bk) (wide : Int) : (okB xs = false ∧ hvC xs wide = 1 ∧ hvV xs wide = ⟨0, 0, 0⟩) ∨ (okB xs = true ∧ inB wide 1 6000 = false ∧ hvC xs wide = 2 ∧ hvV xs wide = ⟨0, 0, 0⟩) ∨ (okB xs = true ∧ inB wide 1 6000 = true ∧ (hvAll xs wide).c = 0 ∧ hvC xs wide = 6 ∧ hvV xs wide = ⟨0, 0, 0⟩) ∨ (okB xs = true ∧ inB wide 1 6000 = true ∧ (hvAll xs wide).c ≠ 0 ∧ hvC xs wide = 0 ∧ hvV xs wide = hvAll xs wide) := by
  unfold hvV hvC
  cases h1 : okB xs
  · exact .inl ⟨rfl, rfl, rfl⟩
  · cases h2 : inB wide 1 6000
    · exact .inr (.inl ⟨rfl, rfl, rfl, rfl⟩)
    · by_cases h3 : (hvAll xs wide).c = 0
      · exact .inr (.inr (.inl ⟨rfl, rfl, h3, by simp [h3], by simp [h3]⟩))
      · exact .inr (.inr (.inr ⟨rfl, rfl, h3, by simp [h3], by simp [h3]⟩))
theorem hvPut_yes {wide : Int} {i c : Nat} {wd we : Int} {s : Hv} (h1 : wd ≤ wide) (h2 : s.m < we) : hvPut wide i c wd we s = ⟨i, c, we⟩ := by unfold hvPut; rw [if_pos ⟨h1, h2⟩]
theorem hvPut_wide {wide : Int} {i c : Nat} {wd we : Int} {s : Hv} (h1 : ¬ wd ≤ wide) : hvPut wide i c wd we s = s := by unfold hvPut; rw [if_neg (fun h => h1 h.1)]
theorem hvPut_no {wide : Int} {i c : Nat} {wd we : Int} {s : Hv} (h1 : ¬ s.m < we) : hvPut wide i c wd we s = s := by unfold hvPut; rw [if_neg (fun h => h1 h.2)]
theorem hvIn_step {xs : List Bk} {wide : Int} {i k : Nat} {wd we : Int} {c : Nat} {s : Hv} (h : k < xs.length) : hvIn wide i (xs.drop k) c wd we s = hvIn wide i (xs.drop (k + 1)) (c + 1) (wd + xs[k].wi) (we + xs[k].we) (hvPut wide i (c + 1) (wd + xs[k].wi) (we + xs[k].we) s) := by
  rw [List.drop_eq_getElem_cons h]
  rfl
theorem hvIn_end {xs : List Bk} {wide : Int} {i : Nat} {wd we : Int} {c : Nat} {s : Hv} : hvIn wide i (xs.drop xs.length) c wd we s = s := by rw [List.drop_length]; rfl
theorem hvOut_step {xs : List Bk} {wide : Int} {i : Nat} {s : Hv} (h : i < xs.length) : hvOut wide (xs.drop i) i s = hvOut wide (xs.drop (i + 1)) (i + 1) (hvIn wide i (xs.drop i) 0 0 0 s) := by
  rw [List.drop_eq_getElem_cons h]
  rfl
theorem hvOut_end {xs : List Bk} {wide : Int} {i : Nat} {s : Hv} : hvOut wide (xs.drop xs.length) i s = s := by rw [List.drop_length]; rfl
end Go.Proofs.Ytimojjkblofhnaa
