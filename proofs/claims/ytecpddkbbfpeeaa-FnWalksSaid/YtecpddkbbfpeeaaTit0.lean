/- Books of a list taken in turn: the plain form. No condition. -/
import Derived.Test.YtecpddkbbfpeeaaBooksOk
import Derived.Test.YtecpddkbbfpeeaaOrd
namespace Go.Proofs.Ytecpddkbbfpeeaa
set_option linter.unusedSimpArgs false
set_option linter.unusedVariables false
set_option maxRecDepth 100000
open Go.RowKit

/-- The places below n of the books that are told as k. -/
def plc (tl : Bk → Bk) (xs : List Bk) (k : Bk) (n : Nat) : List Nat := (List.range n).filter fun i => decide (tl (xs.getD i default) = k)
/-- How many of the first j wanted are told as k. -/
def cntT (tl : Bk → Bk) (ws : List Bk) (k : Bk) (j : Nat) : Nat := (ws.take j).countP fun y => decide (tl y = k)
/-- What is taken for the first j wanted. -/
def tkTo (tl : Bk → Bk) (xs ws : List Bk) : Nat → List Nat
  | 0 => []
  | j + 1 => tkTo tl xs ws j ++ [(plc tl xs (tl (ws.getD j default)) xs.length).getD (cntT tl ws (tl (ws.getD j default)) j) 0]
/-- All of the first j wanted are found. -/
def TkOk (tl : Bk → Bk) (xs ws : List Bk) (j : Nat) : Prop := ∀ i, i < j → cntT tl ws (tl (ws.getD i default)) i < (plc tl xs (tl (ws.getD i default)) xs.length).length

theorem plc_succ (tl : Bk → Bk) (xs : List Bk) (k : Bk) (n : Nat) : plc tl xs k (n + 1) = if tl (xs.getD n default) = k then plc tl xs k n ++ [n] else plc tl xs k n := by
  unfold plc
  rw [List.range_succ, List.filter_append]
  by_cases h : tl (xs.getD n default) = k
  · rw [if_pos h, List.filter_cons, if_pos (decide_eq_true h)]; rfl
  · rw [if_neg h, List.filter_cons, if_neg (by rw [decide_eq_true_eq]; exact h)]; exact List.append_nil _
theorem plc_mem {tl : Bk → Bk} {xs : List Bk} {k : Bk} {n i : Nat} : i ∈ plc tl xs k n ↔ i < n ∧ tl (xs.getD i default) = k := by
  unfold plc
  rw [List.mem_filter, List.mem_range, decide_eq_true_eq]
theorem plc_sorted (tl : Bk → Bk) (xs : List Bk) (k : Bk) (n : Nat) : (plc tl xs k n).Pairwise (· < ·) := List.Pairwise.filter _ List.pairwise_lt_range
theorem plc_len (tl : Bk → Bk) (xs : List Bk) (k : Bk) (n : Nat) : (plc tl xs k n).length ≤ n := Nat.le_trans (List.length_filter_le _ _) (by rw [List.length_range]; exact Nat.le_refl _)
theorem cnt_succ (tl : Bk → Bk) {ws : List Bk} (k : Bk) {j : Nat} (h : j < ws.length) : cntT tl ws k (j + 1) = cntT tl ws k j + (if tl (ws.getD j default) = k then 1 else 0) := by
  unfold cntT
  rw [List.take_succ_eq_append_getElem h, List.countP_append, List.countP_singleton]
  simp [List.getD, List.getElem?_eq_getElem h]
theorem tk_len (tl : Bk → Bk) (xs ws : List Bk) : ∀ j, (tkTo tl xs ws j).length = j
  | 0 => rfl
  | j + 1 => by rw [tkTo, List.length_append, tk_len tl xs ws j]; rfl
/-- Who has been taken: of each kind the first ones. -/
theorem tk_mem {tl : Bk → Bk} {xs ws : List Bk} : ∀ {j}, j ≤ ws.length → TkOk tl xs ws j → ∀ a, a ∈ tkTo tl xs ws j ↔ a ∈ (plc tl xs (tl (xs.getD a default)) xs.length).take (cntT tl ws (tl (xs.getD a default)) j)
  | 0, _, _, a => by simp [tkTo, cntT]
  | j + 1, hj, ho, a => by
    have ih := tk_mem (j := j) (by omega) (fun i hi => ho i (by omega)) a
    have hl := ho j (by omega)
    rw [tkTo, List.mem_append, ih, List.mem_singleton, cnt_succ tl _ (by omega : j < ws.length)]
    generalize hk : tl (ws.getD j default) = k at *
    generalize hc : cntT tl ws k j = c at *
    have hg : (plc tl xs k xs.length).getD c 0 = (plc tl xs k xs.length)[c] := by simp [List.getD, List.getElem?_eq_getElem hl]
    rw [hg]
    have hm : (plc tl xs k xs.length)[c] ∈ plc tl xs k xs.length := List.getElem_mem hl
    have hk2 := (plc_mem.1 hm).2
    by_cases e : k = tl (xs.getD a default)
    · rw [← e, if_pos rfl, hc, List.take_succ_eq_append_getElem hl, List.mem_append, List.mem_singleton]
    · rw [if_neg e, Nat.add_zero]
      constructor
      · rintro (h | h)
        · exact h
        · exact absurd (by rw [h, hk2]) e
      · exact fun h => .inl h
/-- The first that is told so and not taken is the next one of its kind. -/
theorem tk_first {tl : Bk → Bk} {xs ws : List Bk} {j a : Nat} (hj : j < ws.length) (ho : TkOk tl xs ws j) (ha : a < xs.length) (hk : tl (xs.getD a default) = tl (ws.getD j default)) (hn : a ∉ tkTo tl xs ws j)
    (hb : ∀ b, b < a → tl (xs.getD b default) = tl (ws.getD j default) → b ∈ tkTo tl xs ws j) :
    TkOk tl xs ws (j + 1) ∧ tkTo tl xs ws (j + 1) = tkTo tl xs ws j ++ [a] := by
  generalize hkk : tl (ws.getD j default) = k at *
  have hm : a ∈ plc tl xs k xs.length := plc_mem.2 ⟨ha, hk⟩
  have hs := plc_sorted tl xs k xs.length
  have hn2 : a ∉ (plc tl xs k xs.length).take (cntT tl ws k j) := fun h => hn ((tk_mem (by omega) ho a).2 (by rw [hk]; exact h))
  obtain ⟨p, hp, rfl⟩ := List.getElem_of_mem hm
  generalize hc : cntT tl ws k j = c at *
  have hcp : c ≤ p := by
    apply Nat.le_of_not_lt
    intro hlt
    apply hn2
    rw [List.mem_take_iff_getElem]
    exact ⟨p, by omega, rfl⟩
  have hpc : p = c := by
    apply Nat.le_antisymm _ hcp
    apply Nat.le_of_not_lt
    intro hlt
    have h1 : (plc tl xs k xs.length)[c] < (plc tl xs k xs.length)[p] := List.pairwise_iff_getElem.1 hs c p (by omega) hp hlt
    have h2 : (plc tl xs k xs.length)[c] ∈ plc tl xs k xs.length := List.getElem_mem _
    have h3 := (tk_mem (by omega) ho _).1 (hb _ h1 (plc_mem.1 h2).2)
    rw [(plc_mem.1 h2).2, hc, List.mem_take_iff_getElem] at h3
    obtain ⟨q, hq, e⟩ := h3
    have h4 : (plc tl xs k xs.length)[q] < (plc tl xs k xs.length)[c] := List.pairwise_iff_getElem.1 hs q c (by omega) (by omega) (by omega)
    omega
  subst hpc
  refine ⟨fun i hi => ?_, ?_⟩
  · by_cases e : i = j
    · subst e
      rw [hkk, hc]
      exact hp
    · exact ho i (by omega)
  · rw [tkTo, hkk, hc]
    simp [List.getD, List.getElem?_eq_getElem hp]
/-- If all that are told so are taken, none is left of the kind. -/
theorem tk_none {tl : Bk → Bk} {xs ws : List Bk} {j : Nat} (hj : j < ws.length) (ho : TkOk tl xs ws j) (hb : ∀ b, b < xs.length → tl (xs.getD b default) = tl (ws.getD j default) → b ∈ tkTo tl xs ws j) : ¬ TkOk tl xs ws (j + 1) := by
  intro h
  have hl := h j (by omega)
  generalize hkk : tl (ws.getD j default) = k at *
  generalize hc : cntT tl ws k j = c at *
  have hs := plc_sorted tl xs k xs.length
  have h2 : (plc tl xs k xs.length)[c] ∈ plc tl xs k xs.length := List.getElem_mem _
  have h3 := (tk_mem (by omega) ho _).1 (hb _ (plc_mem.1 h2).1 (plc_mem.1 h2).2)
  rw [(plc_mem.1 h2).2, hc, List.mem_take_iff_getElem] at h3
  obtain ⟨q, hq, e⟩ := h3
  have h4 : (plc tl xs k xs.length)[q] < (plc tl xs k xs.length)[c] := List.pairwise_iff_getElem.1 hs q c (by omega) (by omega) (by omega)
  omega
theorem tk_stop {tl : Bk → Bk} {xs ws : List Bk} {i j : Nat} (h : ¬ TkOk tl xs ws i) (hij : i ≤ j) : ¬ TkOk tl xs ws j := fun g => h fun k hk => g k (by omega)
end Go.Proofs.Ytecpddkbbfpeeaa
