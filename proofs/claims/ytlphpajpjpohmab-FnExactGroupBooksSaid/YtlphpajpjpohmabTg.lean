/- Lists of numbers in one list, each with a block of its own: how one is lengthened. No condition. -/
import Derived.Test.YtlphpajpjpohmabWst
import Derived.Test.YtlphpajpjpohmabOwn
import Derived.Maps.AppendAt
namespace Go.Proofs.Ytlphpajpjpohmab
set_option linter.unusedSimpArgs false
set_option linter.unusedVariables false
set_option maxRecDepth 100000
open Go.RowKit

/-- The books of height i among the first k. -/
def grP (hs : List Int) (xs : List Bk) (i : Nat) : Nat → List Int
  | 0 => []
  | k + 1 => if hIx hs (xs.getD k default).hi = i then grP hs xs i k ++ [(k : Int)] else grP hs xs i k
theorem grP_len (hs : List Int) (xs : List Bk) (i : Nat) : ∀ k, (grP hs xs i k).length ≤ k
  | 0 => Nat.le_refl _
  | k + 1 => by
    have := grP_len hs xs i k
    rw [grP]
    split
    · simp; omega
    · omega
theorem grP_yes {hs : List Int} {xs : List Bk} {i k : Nat} (hk : k < xs.length) (h : hIx hs xs[k].hi = i) : grP hs xs i (k + 1) = grP hs xs i k ++ [(k : Int)] := by
  rw [grP, if_pos (by simpa [List.getD, List.getElem?_eq_getElem hk] using h)]
theorem grP_no {hs : List Int} {xs : List Bk} {i k : Nat} (hk : k < xs.length) (h : hIx hs xs[k].hi ≠ i) : grP hs xs i (k + 1) = grP hs xs i k := by
  rw [grP, if_neg (by simpa [List.getD, List.getElem?_eq_getElem hk] using h)]

/-- Two values with blocks apart. -/
def DjG (a b : Value) : Prop := ∀ k, a.ownBlock = some k → b.ownBlock ≠ some k
/-- Block G holds n lists of numbers; their blocks lie from base on, apart. -/
def TG (w : World) (base G n : Nat) (gr : Nat → List Int) : Prop :=
  G < base ∧ ∃ cs : Array Value, w.heap[G]? = some (.cells cs 35 (0, 0)) ∧ cs.size = n ∧ (∀ (i : Nat) (v : Value), cs[i]? = some v → w.ownsRow base 2 1 v (gr i).length ((gr i).map (Value.int .i64))) ∧ ∀ (i j : Nat) (v v' : Value), i ≠ j → cs[i]? = some v → cs[j]? = some v' → DjG v v'
theorem TG.lt {w : World} {base G n : Nat} {gr : Nat → List Int} (h : TG w base G n gr) : G < w.heap.size := by
  obtain ⟨_, cs, h1, _⟩ := h
  exact (Array.getElem?_eq_some_iff.1 h1).1
theorem TG.below {w w' : World} {base G n : Nat} {gr : Nat → List Int} (h : TG w base G n gr) (hb : Below w.heap.size w w') : TG w' base G n gr := by
  have hlt := h.lt
  obtain ⟨h0, cs, h1, h2, h3, h4⟩ := h
  exact ⟨h0, cs, (hb.block _ hlt).trans h1, h2, fun i v hv => ownBelow (h3 i v hv) hb, h4⟩
theorem TG.cell {w : World} {base G n : Nat} {gr : Nat → List Int} (h : TG w base G n gr) (i : Nat) (hi : i < n) : ∃ v, w.cell? ⟨G, i, none⟩ = some v ∧ w.ownsRow base 2 1 v (gr i).length ((gr i).map (Value.int .i64)) := by
  obtain ⟨h0, cs, h1, h2, h3, h4⟩ := h
  have e : cs[i]? = some cs[i] := Array.getElem?_eq_getElem (by omega)
  exact ⟨_, (cell_of_row w G _ cs _ _ h1).trans e, h3 i _ e⟩
theorem TG.frozen {w : World} {base G n : Nat} {gr : Nat → List Int} (h : TG w base G n gr) (o : Nat) : w.frozen? ⟨G, o, none⟩ = false := by
  obtain ⟨h0, cs, h1, _⟩ := h
  exact frozen_of_row w G _ cs _ h1
theorem TG.made (w : World) (n base : Nat) (hb : w.heap.size < base) : TG (w.alloc (.cells (madeCells (Value.slice none 0 0).cells n) 35)) base w.heap.size n (fun _ => []) := by
  have e : (madeCells (Value.slice none 0 0).cells n).toList = List.replicate n (.slice none 0 0) := by
    rw [show (Value.slice none 0 0).cells = #[Value.slice none 0 0] from rfl, toList_madeCells_one]
  have hv : ∀ (i : Nat) (v : Value), (madeCells (Value.slice none 0 0).cells n)[i]? = some v → v = .slice none 0 0 := by
    intro i v h
    rw [← Array.getElem?_toList, e, List.getElem?_replicate] at h
    split at h
    · injection h with h; exact h.symm
    · cases h
  refine ⟨hb, _, heap_alloc_new w _, size_madeCells _ _, fun i v h => ?_, fun i j v v' _ h _ => ?_⟩
  · rw [hv i v h]
    exact ⟨rfl, .inl ⟨rfl, rfl⟩⟩
  · rw [hv i v h]
    intro k hk
    cases hk
theorem TG.mono {w : World} {base base' G n : Nat} {gr : Nat → List Int} (h : TG w base G n gr) (h1 : G < base') (h2 : base' ≤ base) : TG w base' G n gr := by
  obtain ⟨_, cs, e1, e2, e3, e4⟩ := h
  exact ⟨h1, cs, e1, e2, fun i v hv => ownMono (e3 i v hv) h2, e4⟩
/-- One of them is lengthened, and put back. -/
theorem TG.step {w w4 : World} {base G n i : Nat} {gr : Nat → List Int} {v v' : Value} {l : List Int} (h : TG w base G n gr) (hi : i < n) (hc : w.cell? ⟨G, i, none⟩ = some v)
    (ho : w4.ownsRow base 2 1 v' l.length (l.map (Value.int .i64))) (hg : w.grownBy w4 v.ownBlock) (hb : v'.ownBlock = v.ownBlock ∨ ∃ H, v'.ownBlock = some H ∧ w.heap.size ≤ H) :
    TG (w4.setCell ⟨G, i, none⟩ v') base G n (fun j => if j = i then l else gr j) := by
  have hlt := h.lt
  obtain ⟨h0, cs, h1, h2, h3, h4⟩ := h
  have e : cs[i]? = some v := (cell_of_row w G _ cs _ _ h1).symm.trans hc
  have hov := h3 i v e
  have hG : w4.heap[G]? = some (.cells cs 35 (0, 0)) := (hg.block G hlt (fun e => by have := (hov.lt G e.symm).1; omega)).trans h1
  have far : ∀ (u : Value) (m : Nat) (x : List Value), w4.ownsRow base 2 1 u m x → (w4.setCell ⟨G, i, none⟩ v').ownsRow base 2 1 u m x := fun u m x hu =>
    ownOther hu (only_set2 (World.grownBy.refl w4 (some G)) i v') (fun k hk e => by have := (hu.lt k hk).1; injection e with e; omega)
  have at_ : ∀ (j : Nat) (u : Value), (cs.setIfInBounds i v')[j]? = some u → (j = i ∧ u = v') ∨ (j ≠ i ∧ cs[j]? = some u) := by
    intro j u hu
    rw [Array.getElem?_setIfInBounds] at hu
    by_cases hj : i = j
    · rw [if_pos hj, if_pos (by omega)] at hu
      injection hu with hu
      exact .inl ⟨hj.symm, hu.symm⟩
    · rw [if_neg hj] at hu
      exact .inr ⟨fun e => hj e.symm, hu⟩
  have apart : ∀ (j : Nat) (u : Value), j ≠ i → cs[j]? = some u → DjG v' u := by
    intro j u hj hu k hk e
    rcases hb with hb | ⟨H, hb, hH⟩
    · exact h4 i j v u (fun e => hj e.symm) (by assumption) hu k (hb ▸ hk) e
    · rw [hb] at hk
      injection hk with hk
      have := ((h3 j u hu).lt k e).2
      omega
  refine ⟨h0, _, heap_setCell_same _ _ _ _ _ _ hG, by simpa using h2, fun j u hu => ?_, fun j j' u u' hjj hu hu' => ?_⟩
  · rcases at_ j u hu with ⟨rfl, rfl⟩ | ⟨hj, hu⟩
    · rw [show (fun j_1 => if j_1 = j then l else gr j_1) j = l from if_pos rfl]
      exact far _ _ _ ho
    · rw [show (fun j => if j = i then l else gr j) j = gr j from if_neg hj]
      exact far _ _ _ (ownOther (h3 j u hu) hg (fun k hk e => h4 i j v u (fun e => hj e.symm) (by assumption) hu k e.symm hk))
  · rcases at_ j u hu with ⟨rfl, rfl⟩ | ⟨hj, hu2⟩
    · rcases at_ j' u' hu' with ⟨rfl, rfl⟩ | ⟨hj', hu2'⟩
      · exact absurd rfl hjj
      · exact apart j' u' hj' hu2'
    · rcases at_ j' u' hu' with ⟨rfl, rfl⟩ | ⟨hj', hu2'⟩
      · intro k hk e
        exact apart j u hj hu2 k e hk
      · exact h4 j j' u u' hjj hu2 hu2'

end Go.Proofs.Ytlphpajpjpohmab
