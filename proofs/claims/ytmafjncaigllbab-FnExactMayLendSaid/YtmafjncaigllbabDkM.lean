/- The law's marks in its own copy of a desk: contracts. Condition: at most 1048576 copies and people who wait. -/
import Derived.Test.YtmafjncaigllbabDk
namespace Go.Proofs.Ytmafjncaigllbab
set_option linter.unusedSimpArgs false
set_option linter.unusedVariables false
set_option maxRecDepth 100000
open Go.RowKit

/-- Only blocks from lo on, and ahead of hi, have been written; new ones may be there. -/
structure InOnly (lo hi : Nat) (w w' : World) : Prop where
  os : w'.os = w.os
  tape : w'.tape = w.tape
  output : w'.output = w.output
  size : w.heap.size ≤ w'.heap.size
  block : ∀ k, k < w.heap.size → (k < lo ∨ hi ≤ k) → w'.heap[k]? = w.heap[k]?
theorem InOnly.refl (lo hi : Nat) (w : World) : InOnly lo hi w w := ⟨rfl, rfl, rfl, Nat.le_refl _, fun _ _ _ => rfl⟩
theorem InOnly.trans {lo hi : Nat} {a b c : World} (h : InOnly lo hi a b) (k : InOnly lo hi b c) : InOnly lo hi a c :=
  ⟨k.os.trans h.os, k.tape.trans h.tape, k.output.trans h.output, Nat.le_trans h.size k.size, fun i hi ho => (k.block i (Nat.lt_of_lt_of_le hi h.size) ho).trans (h.block i hi ho)⟩
theorem InOnly.set {lo hi : Nat} {a w : World} (h : InOnly lo hi a w) (g o : Nat) (u : Value) (h1 : lo ≤ g) (h2 : g < hi) : InOnly lo hi a (w.setCell ⟨g, o, none⟩ u) :=
  ⟨h.os, h.tape, h.output, by simpa [World.setCell] using h.size, fun i hi ho => (Below.heap_setCell w ⟨g, o, none⟩ u i (by show i ≠ g; omega)).trans (h.block i hi ho)⟩
theorem InOnly.grown {lo hi g : Nat} {a w w' : World} (h : InOnly lo hi a w) (k : w.grownBy w' (some g)) (h1 : lo ≤ g) (h2 : g < hi) : InOnly lo hi a w' :=
  ⟨k.os.trans h.os, k.tape.trans h.tape, k.output.trans h.output, Nat.le_trans h.size k.size, fun i hi ho => (k.block i (Nat.lt_of_lt_of_le hi h.size) (fun e => by injection e with e; omega)).trans (h.block i hi ho)⟩
theorem InOnly.ofAlloc {lo hi : Nat} {w w' : World} {o : Obj} (h : InOnly lo hi (w.alloc o) w') : InOnly lo hi w w' :=
  ⟨h.os, h.tape, h.output, Nat.le_trans (by simp) h.size, fun k hk ho => (h.block k (by simp; omega) ho).trans (Below.heap_alloc w o k hk)⟩
theorem below_inOnly {B lo hi : Nat} {a w w' : World} (h : Below B a w) (k : InOnly lo hi w w') (h1 : B ≤ lo) (h2 : B ≤ w.heap.size) : Below B a w' :=
  ⟨k.os.trans h.os, k.tape.trans h.tape, k.output.trans h.output, Nat.le_trans h.size k.size, fun i hi => (k.block i (by omega) (.inl (by omega))).trans (h.block i hi)⟩
theorem ownIn {w w' : World} {base lo hi : Nat} {e : TypeId} {size n : Nat} {v : Value} {xs : List Value} (h : w.ownsRow base e size v n xs) (k : InOnly lo hi w w') (hne : ∀ k, v.ownBlock = some k → k < lo ∨ hi ≤ k) : w'.ownsRow base e size v n xs := by
  refine ⟨h.1, ?_⟩
  rcases h.2 with hn | ⟨g, cap, cur, hv, hbg, hg, rest⟩
  · exact .inl hn
  · exact .inr ⟨g, cap, cur, hv, hbg, (k.block g (Array.getElem?_eq_some_iff.1 hg).1 (hne g (by rw [hv]; rfl))).trans hg, rest⟩

/-- Block g is a row of n numbers of int8, whatever they are. -/
def Row8 (w : World) (g n : Nat) : Prop := ∃ cs : Array Value, w.heap[g]? = some (.cells cs 53 (0, 0)) ∧ cs.size = n
theorem Row8.set {w : World} {g n : Nat} (h : Row8 w g n) (o : Nat) (u : Value) : Row8 (w.setCell ⟨g, o, none⟩ u) g n := by
  obtain ⟨cs, h1, h2⟩ := h
  exact ⟨_, heap_setCell_same _ _ _ _ _ _ h1, by simpa using h2⟩
theorem Row8.same {w w' : World} {g n : Nat} (h : Row8 w g n) (e : w'.heap[g]? = w.heap[g]?) : Row8 w' g n := by
  obtain ⟨cs, h1, h2⟩ := h
  exact ⟨cs, e.trans h1, h2⟩
theorem Row8.of {w : World} {g k n : Nat} {zs : List Int} (h : IRowK .i8 53 w g zs k n) : Row8 w g n := by
  obtain ⟨cs, h1, h2, _⟩ := h
  exact ⟨cs, h1, h2⟩
theorem Row8.lt {w : World} {g n : Nat} (h : Row8 w g n) : g < w.heap.size := by
  obtain ⟨cs, h1, h2⟩ := h
  exact (Array.getElem?_eq_some_iff.1 h1).1
theorem Row8.eq {w : World} {g n m : Nat} (h : Row8 w g n) (k : Row8 w g m) : n = m := by
  obtain ⟨cs, h1, h2⟩ := h
  obtain ⟨ds, k1, k2⟩ := k
  rw [h1] at k1
  injection k1 with k1
  injection k1 with k1
  subst k1
  omega
theorem Row8.cell {w : World} {g n : Nat} (h : Row8 w g n) (o : Nat) (ho : o < n) : ∃ u, w.cell? ⟨g, o, none⟩ = some u := by
  obtain ⟨cs, h, h2⟩ := h
  rw [cell_of_row w g _ cs _ _ h]
  exact ⟨cs[o]'(by omega), Array.getElem?_eq_getElem (by omega)⟩
theorem Row8.frozen {w : World} {g n : Nat} (h : Row8 w g n) (o : Nat) : w.frozen? ⟨g, o, none⟩ = false := by
  obtain ⟨cs, h, _⟩ := h
  exact frozen_of_row w g _ cs _ h

/-- A row of copies from block g on, all of its memory ahead of hi, whatever it holds but for lengths. -/
def CRowX (w : World) (hi g : Nat) (xs : List Cp) : Prop :=
  ∃ cs : Array Value, w.heap[g]? = some (.cells cs 61 (0, 0)) ∧ cs.size = xs.length * 5 ∧ g < hi ∧ hi ≤ w.heap.size ∧ ∀ (i : Nat) (hi' : i < xs.length), ∃ gi, cs[i * 5 + 4]? = some (.slice (some ⟨gi, 0, none⟩) xs[i].q.length xs[i].q.length) ∧ g < gi ∧ gi < hi ∧ Row8 w gi xs[i].q.length
theorem CRowX.of {w : World} {g : Nat} {xs : List Cp} (h : CRowK w g g xs xs.length xs.length) : CRowX w w.heap.size g xs := by
  have hl := h.lt
  obtain ⟨cs, h1, h2, h3⟩ := h
  refine ⟨cs, h1, h2, hl, Nat.le_refl _, fun i hi => ?_⟩
  obtain ⟨_, _, _, _, gi, e1, e2, e3⟩ := h3 i hi hi
  exact ⟨gi, e1, e2, IRowK.lt e3, Row8.of e3⟩
theorem CRowX.below {w w' : World} {hi g : Nat} {xs : List Cp} (h : CRowX w hi g xs) (hb : Below w.heap.size w w') : CRowX w' hi g xs := by
  obtain ⟨cs, h1, h2, h3, h4, h5⟩ := h
  refine ⟨cs, (hb.block g (by omega)).trans h1, h2, h3, Nat.le_trans h4 hb.size, fun i hi => ?_⟩
  obtain ⟨gi, e1, e2, e3, e4⟩ := h5 i hi
  exact ⟨gi, e1, e2, e3, e4.same (hb.block gi (by omega))⟩
theorem CRowX.cells5 {w : World} {hi g : Nat} {xs : List Cp} (h : CRowX w hi g xs) (i : Nat) (hi : i < xs.length) :
    (∃ u, w.cell? ⟨g, i * 5, none⟩ = some u) ∧ (∃ u, w.cell? ⟨g, i * 5 + 1, none⟩ = some u) ∧ (∃ u, w.cell? ⟨g, i * 5 + 2, none⟩ = some u) ∧ (∃ u, w.cell? ⟨g, i * 5 + 3, none⟩ = some u) := by
  obtain ⟨cs, h, h2, _⟩ := h
  have e : ∀ j, j < 5 → ∃ u, w.cell? ⟨g, i * 5 + j, none⟩ = some u := fun j hj => by
    rw [cell_of_row w g _ cs _ _ h]
    exact ⟨cs[i * 5 + j]'(by omega), Array.getElem?_eq_getElem (by omega)⟩
  exact ⟨e 0 (by omega), e 1 (by omega), e 2 (by omega), e 3 (by omega)⟩
theorem CRowX.frozen {w : World} {hi g : Nat} {xs : List Cp} (h : CRowX w hi g xs) (o : Nat) : w.frozen? ⟨g, o, none⟩ = false := by
  obtain ⟨cs, h, _⟩ := h
  exact frozen_of_row w g _ cs _ h
theorem CRowX.queue {w : World} {hi g : Nat} {xs : List Cp} (h : CRowX w hi g xs) (i : Nat) (hi' : i < xs.length) : ∃ gi, w.cell? ⟨g, i * 5 + 4, none⟩ = some (.slice (some ⟨gi, 0, none⟩) xs[i].q.length xs[i].q.length) ∧ g < gi ∧ gi < hi ∧ Row8 w gi xs[i].q.length := by
  obtain ⟨cs, h1, h2, h3, h4, h5⟩ := h
  obtain ⟨gi, e1, e2⟩ := h5 i hi'
  exact ⟨gi, by rw [cell_of_row w g _ cs _ _ h1]; exact e1, e2⟩
theorem CRowX.put {w : World} {hi g : Nat} {xs : List Cp} (h : CRowX w hi g xs) (i j : Nat) (hj : j < 4) (u : Value) : CRowX (w.setCell ⟨g, i * 5 + j, none⟩ u) hi g xs := by
  obtain ⟨cs, h1, h2, h3, h4, h5⟩ := h
  refine ⟨_, heap_setCell_same _ _ _ _ _ _ h1, by simpa using h2, h3, by simpa [World.setCell] using h4, fun k hk => ?_⟩
  obtain ⟨gi, e1, e2, e3, e4⟩ := h5 k hk
  refine ⟨gi, ?_, e2, e3, e4.same (Below.heap_setCell w ⟨g, i * 5 + j, none⟩ u gi (by show gi ≠ g; omega))⟩
  rw [Array.getElem?_setIfInBounds, if_neg (by omega)]
  exact e1
theorem CRowX.inner {w w' : World} {hi g gi m : Nat} {xs : List Cp} (h : CRowX w hi g xs) (hk : w.grownBy w' (some gi)) (hg : g < gi) (h0 : Row8 w gi m) (h8 : Row8 w' gi m) : CRowX w' hi g xs := by
  obtain ⟨cs, h1, h2, h3, h4, h5⟩ := h
  refine ⟨cs, (hk.block g (by omega) (fun e => by injection e with e; omega)).trans h1, h2, h3, Nat.le_trans h4 hk.size, fun k hk' => ?_⟩
  obtain ⟨gj, e1, e2, e3, e4⟩ := h5 k hk'
  refine ⟨gj, e1, e2, e3, ?_⟩
  by_cases e : gj = gi
  · subst e
    have := e4.eq h0
    rw [this]
    exact h8
  · exact e4.same (hk.block gj e4.lt (fun e' => by injection e' with e'; omega))

/-- How far the marks of the first k copies go. -/
def kTo (xs : List Cp) (k : Nat) : Int := 4 * (k : Int) + ((cszTo xs k : Int) - (xs.length : Int))
theorem kTo_zero (xs : List Cp) : kTo xs 0 = 0 := by simp [kTo, cszTo]
theorem kTo_succ {xs : List Cp} {k : Nat} (h : k < xs.length) : kTo xs (k + 1) = kTo xs k + 4 + (xs[k].q.length : Int) := by
  unfold kTo
  rw [cszTo_succ h]
  omega
theorem kTo_nonneg (xs : List Cp) (k : Nat) : 0 ≤ kTo xs k := by
  have := cszTo_mono xs 0 k
  rw [Nat.zero_add, cszTo] at this
  unfold kTo
  omega
theorem kTo_le' {xs : List Cp} {k : Nat} (hk : k ≤ xs.length) (h : csz xs ≤ 1048576) : kTo xs k ≤ 5242880 := by
  have h1 := csz_le hk
  have h2 := csz_len xs
  unfold kTo
  omega
theorem kTo_le {xs : List Cp} (h : csz xs ≤ 1048576) : kTo xs xs.length ≤ 5242880 := kTo_le' (Nat.le_refl _) h

end Go.Proofs.Ytmafjncaigllbab
