/- slices.Clone and slices.Reverse at books, slices.Reverse at numbers: contracts; a list turned round, and the longest lists from each book on. Condition: at most 60 books, whose numbers lie within their kinds. -/
import Derived.Test.YtkclobdealnkhaaDoorLongs
import Derived.Test.YtkclobdealnkhaaDoorKeptD
import Derived.Test.YtkclobdealnkhaaDoorFlat
import Derived.Shelf.SlicesQ.Reverse
import Derived.Shelf.SlicesE.Reverse
import Derived.Shelf.SlicesE.Clone
import Derived.Lib.OwnBridge
namespace Go.Proofs.YtkclobdealnkhaaDoor
set_option linter.unusedSimpArgs false
set_option linter.unusedVariables false
set_option maxRecDepth 100000
open Go.RowKit Go.Sort

def renCloneB : Go.Shelf.Ren := ⟨fun | 41 => 70 | n => n, fun | 4 => 4 | 22 => 29 | 23 => 65 | 36 => 108 | n => n, fun n => n⟩
theorem layCloneB : SlLaysE0.n41 Tryd.prog renCloneB := {
  mixed := by kernel_rfl
  f41 := ⟨Tryd.f70.name, by decide, Tryd.func70.trans (congrArg some (by kernel_rfl))⟩
  t4 := Tryd.underlying4
  a4 := Tryd.isAgg4
  z4 := Tryd.sizeOf4
  v4 := Tryd.zeroValue4
  t22 := Tryd.underlying29
  a22 := Tryd.isAgg29
  z22 := Tryd.sizeOf29
  v22 := Tryd.zeroValue29
}

theorem holds_flat {w : World} {base g n cap : Nat} {t : TypeId} {xs : List Bk} (h : w.ownsRow base t 8 (.slice (some ⟨g, 0, none⟩) n cap) n (flatB xs)) (hn : xs.length = n) : HoldsK Bk.cells 8 w g 0 xs.toArray := by
  intro j hj
  have hj' : j < n * 8 := by rw [← hn]; simpa using hj
  refine ⟨?_, by rw [Nat.zero_add]; exact h.frozenAt j⟩
  rw [Nat.zero_add, h.cellAt j hj']
  unfold flatB
  rw [Array.getElem?_toList, Array.getElem?_eq_getElem hj, getElem!_pos _ j hj]
  rfl
theorem booksAt_holds {w : World} {g : Nat} {xs : List Bk} (h : HoldsK Bk.cells 8 w g 0 xs.toArray) : BooksAt w g 0 xs := by
  intro i hi j v hv
  have hj : j < 8 := by have := (List.getElem?_eq_some_iff.1 hv).1; rwa [cells_len] at this
  have h1 := (h.cell (i := i) (c := j) (by simpa using hi) hj).1
  rw [h1]
  have e : xs.toArray[i]! = xs[i] := by simp [hi]
  rw [e, getElem!_pos _ j (by rw [cells_len]; exact hj)]
  rw [List.getElem?_eq_getElem (by rw [cells_len]; exact hj)] at hv
  exact hv

theorem own_cap {w : World} {base g n cap size : Nat} {t : TypeId} {l : List Value} (h : w.ownsRow base t size (.slice (some ⟨g, 0, none⟩) n cap) n l) : n ≤ cap := by
  rcases h.2 with ⟨h, _⟩ | ⟨g', cap', cur, h, _, _, h2, _⟩
  · cases h
  · cases h
    exact h2
/-- slices.Clone at books. -/
theorem cloneBooks_any (b o c : Nat) (xs : List Bk) (w : World) (hat : 0 < xs.length → BooksAt w b o xs) (hn : xs.length ≤ 1048576) :
    Calls Tryd.prog 70 #[.slice (some ⟨b, o, none⟩) xs.length c] w fun e w' => ∃ g cap, e = .returned (.slice (some ⟨g, 0, none⟩) xs.length cap) ∧ w'.ownsRow w.heap.size 65 8 (.slice (some ⟨g, 0, none⟩) xs.length cap) xs.length (flatB xs) ∧ Below w.heap.size w w' := by
  obtain ⟨i0, hi, hz0, hz1, hz2⟩ := info_parts infoBook
  have hc : ∀ j u, (flatB xs)[j]? = some u → w.cell? ⟨b, o + j, none⟩ = some u := by
    intro j u hu
    have h0 : 0 < xs.length := by have := (List.getElem?_eq_some_iff.1 hu).1; rw [flatB_length] at this; omega
    exact flat_cells (hat h0) j u hu
  have H := AnyE.slices_Clone layCloneB i0 _ 8 14 hi hz0 hz1 hz2 rfl (by decide) Tryd.sizeOf65 b o xs.length c (flatB xs) w (flatB_length xs) (by unfold maxLen; omega) (by omega) hc (flatB_one xs)
  refine Calls.mono H ?_
  rintro e w1 ⟨v', rfl, ho, hne, hb⟩
  rcases ho.2 with ⟨h, _⟩ | ⟨g, cap, cur, h, _⟩
  · exact absurd h hne
  · subst h
    exact ⟨g, cap, rfl, ho, hb⟩

end Go.Proofs.YtkclobdealnkhaaDoor
