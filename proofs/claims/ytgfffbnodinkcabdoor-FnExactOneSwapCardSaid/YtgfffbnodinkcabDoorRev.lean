/- slices.Clone and slices.Reverse at books, slices.Reverse at numbers: contracts; a list turned round, and the longest lists from each book on. Condition: at most 60 books, whose numbers lie within their kinds. -/
import Derived.Test.YtgfffbnodinkcabDoorLongs
import Derived.Test.YtgfffbnodinkcabDoorKeptD
import Derived.Test.YtgfffbnodinkcabDoorFlat
import Derived.Shelf.SlicesQ.Reverse
import Derived.Shelf.SlicesE.Reverse
import Derived.Shelf.SlicesE.Clone
import Derived.Lib.OwnBridge
namespace Go.Proofs.YtgfffbnodinkcabDoor
set_option linter.unusedSimpArgs false
set_option linter.unusedVariables false
set_option maxRecDepth 100000
open Go.RowKit Go.Sort

def renRevB : Go.Shelf.Ren := ⟨fun | 35 => 89 | n => n, fun | 0 => 0 | 3 => 3 | 4 => 4 | 22 => 24 | 23 => 50 | 32 => 110 | n => n, fun n => n⟩
theorem layRevB : SlLaysE0.n35 Tryd.prog renRevB := {
  mixed := by kernel_rfl
  f35 := ⟨Tryd.f89.name, by decide, Tryd.func89.trans (congrArg some (by kernel_rfl))⟩
  t0 := Tryd.underlying0
  a0 := Tryd.isAgg0
  z0 := Tryd.sizeOf0
  v0 := Tryd.zeroValue0
  t3 := Tryd.underlying3
  a3 := Tryd.isAgg3
  z3 := Tryd.sizeOf3
  v3 := Tryd.zeroValue3
  t4 := Tryd.underlying4
  a4 := Tryd.isAgg4
  z4 := Tryd.sizeOf4
  v4 := Tryd.zeroValue4
  t22 := Tryd.underlying24
  a22 := Tryd.isAgg24
  z22 := Tryd.sizeOf24
  v22 := Tryd.zeroValue24
}
def renRevI : Go.Shelf.Ren := ⟨fun | 35 => 92 | n => n, fun | 0 => 0 | 3 => 3 | 4 => 4 | 22 => 41 | 23 => 2 | 32 => 112 | n => n, fun n => n⟩
theorem layRevI : SlLaysE.n35 Tryd.prog renRevI := {
  mixed := by kernel_rfl
  f35 := ⟨Tryd.f92.name, by decide, Tryd.func92.trans (congrArg some (by kernel_rfl))⟩
  t0 := Tryd.underlying0
  a0 := Tryd.isAgg0
  z0 := Tryd.sizeOf0
  v0 := Tryd.zeroValue0
  t3 := Tryd.underlying3
  a3 := Tryd.isAgg3
  z3 := Tryd.sizeOf3
  v3 := Tryd.zeroValue3
  t4 := Tryd.underlying4
  a4 := Tryd.isAgg4
  z4 := Tryd.sizeOf4
  v4 := Tryd.zeroValue4
  t22 := Tryd.underlying41
  a22 := Tryd.isAgg41
  z22 := Tryd.sizeOf41
  v22 := Tryd.zeroValue41
  a23 := Tryd.isAgg2
  z23 := Tryd.sizeOf2
}
def renCloneB : Go.Shelf.Ren := ⟨fun | 41 => 45 | n => n, fun | 4 => 4 | 22 => 24 | 23 => 50 | 36 => 60 | n => n, fun n => n⟩
theorem layCloneB : SlLaysE0.n41 Tryd.prog renCloneB := {
  mixed := by kernel_rfl
  f41 := ⟨Tryd.f45.name, by decide, Tryd.func45.trans (congrArg some (by kernel_rfl))⟩
  t4 := Tryd.underlying4
  a4 := Tryd.isAgg4
  z4 := Tryd.sizeOf4
  v4 := Tryd.zeroValue4
  t22 := Tryd.underlying24
  a22 := Tryd.isAgg24
  z22 := Tryd.sizeOf24
  v22 := Tryd.zeroValue24
}

theorem holds_flat {w : World} {base g n cap : Nat} {t : TypeId} {xs : List Bk} (h : w.ownsRow base t 8 (.slice (some ⟨g, 0, none⟩) n cap) n (flatB xs)) (hn : xs.length = n) : HoldsK Bk.cells 8 w g 0 xs.toArray := by
  intro j hj
  have hj' : j < n * 8 := by rw [← hn]; simpa using hj
  refine ⟨?_, by rw [Nat.zero_add]; exact h.frozenAt j⟩
  rw [Nat.zero_add, h.cellAt j hj']
  unfold flatB
  rw [Array.getElem?_toList, Array.getElem?_eq_getElem hj, getElem!_pos _ j hj]
  rfl
theorem booksAt_holds {w : World} {g : Nat} {xs : List Bk} (h : HoldsK Bk.cells 8 w g 0 xs.toArray) : BooksAt w g 0 xs := by
  intro i hi j v hv
  have hj : j < 8 := by have := (List.getElem?_eq_some_iff.1 hv).1; rwa [cells_len] at this
  have h1 := (h.cell (i := i) (c := j) (by simpa using hi) hj).1
  rw [h1]
  have e : xs.toArray[i]! = xs[i] := by simp [hi]
  rw [e, getElem!_pos _ j (by rw [cells_len]; exact hj)]
  rw [List.getElem?_eq_getElem (by rw [cells_len]; exact hj)] at hv
  exact hv

theorem own_cap {w : World} {base g n cap size : Nat} {t : TypeId} {l : List Value} (h : w.ownsRow base t size (.slice (some ⟨g, 0, none⟩) n cap) n l) : n ≤ cap := by
  rcases h.2 with ⟨h, _⟩ | ⟨g', cap', cur, h, _, _, h2, _⟩
  · cases h
  · cases h
    exact h2
/-- slices.Clone at books. -/
theorem cloneBooks_any (b o c : Nat) (xs : List Bk) (w : World) (hat : 0 < xs.length → BooksAt w b o xs) (hn : xs.length ≤ 1048576) :
    Calls Tryd.prog 45 #[.slice (some ⟨b, o, none⟩) xs.length c] w fun e w' => ∃ g cap, e = .returned (.slice (some ⟨g, 0, none⟩) xs.length cap) ∧ w'.ownsRow w.heap.size 50 8 (.slice (some ⟨g, 0, none⟩) xs.length cap) xs.length (flatB xs) ∧ Below w.heap.size w w' := by
  obtain ⟨i0, hi, hz0, hz1, hz2⟩ := info_parts infoBook
  have hc : ∀ j u, (flatB xs)[j]? = some u → w.cell? ⟨b, o + j, none⟩ = some u := by
    intro j u hu
    have h0 : 0 < xs.length := by have := (List.getElem?_eq_some_iff.1 hu).1; rw [flatB_length] at this; omega
    exact flat_cells (hat h0) j u hu
  have H := AnyE.slices_Clone layCloneB i0 _ 8 14 hi hz0 hz1 hz2 rfl (by decide) Tryd.sizeOf50 b o xs.length c (flatB xs) w (flatB_length xs) (by unfold maxLen; omega) (by omega) hc (flatB_one xs)
  refine Calls.mono H ?_
  rintro e w1 ⟨v', rfl, ho, hne, hb⟩
  rcases ho.2 with ⟨h, _⟩ | ⟨g, cap, cur, h, _⟩
  · exact absurd h hne
  · subst h
    exact ⟨g, cap, rfl, ho, hb⟩

/-- slices.Reverse at books that the call owns. -/
theorem reverseBooks_any (g cap base : Nat) (xs : List Bk) (w0 w : World) (ho : w.ownsRow base 50 8 (.slice (some ⟨g, 0, none⟩) xs.length cap) xs.length (flatB xs)) (hb : Below base w0 w) (hn : xs.length ≤ 1048576) :
    Calls Tryd.prog 89 #[.slice (some ⟨g, 0, none⟩) xs.length cap] w fun e w' => e = .returned (.tuple #[]) ∧ SliceOf w' (.slice (some ⟨g, 0, none⟩) xs.reverse.length cap) xs.reverse ∧ Below base w0 w' := by
  have hg := ho.lt g rfl
  have hH := holds_flat ho rfl
  have H := AnyQ.slices_Reverse layRevB 8 Tryd.isAgg50 Tryd.sizeOf50 Bk.cells cells_len cells_one g 0 cap xs.toArray w hH (by simp; omega)
  have e1 : xs.toArray.size = xs.length := by simp
  rw [e1] at H
  refine Calls.mono H ?_
  rintro e w1 ⟨rfl, n, rfl⟩
  have hs : xs.toArray.reverse.size = xs.toArray.size := by simp
  have h2 : HoldsK Bk.cells 8 (putRowK Bk.cells 8 (Sort.ahead w n) g 0 xs.toArray.reverse) g 0 xs.toArray.reverse := holdsK_putRowK Bk.cells 8 _ g 0 xs.toArray _ (holdsK_ahead Bk.cells 8 w n g 0 xs.toArray hH) hs
  rw [show xs.toArray.reverse = xs.reverse.toArray by simp] at h2 ⊢
  refine ⟨rfl, ⟨_, _, rfl, fun _ => ⟨g, 0, rfl, ?_, booksAt_holds h2⟩⟩, ?_⟩
  · unfold putRowK
    simpa [Sort.ahead] using hg.2
  · exact Go.Lib.below_putRow hb hg.1

/-- slices.Reverse at numbers that the call owns. -/
theorem reverseInts_any (g cap base : Nat) (zs : List Int) (n : Nat) (w0 w : World) (ho : w.ownsRow base 2 1 (.slice (some ⟨g, 0, none⟩) n cap) n (zs.map (Value.int .i64))) (hb : Below base w0 w) (hn : n ≤ 1048576) :
    Calls Tryd.prog 92 #[.slice (some ⟨g, 0, none⟩) n cap] w fun e w' => e = .returned (.tuple #[]) ∧ w'.ownsRow base 2 1 (.slice (some ⟨g, 0, none⟩) n cap) n (zs.reverse.map (Value.int .i64)) ∧ Below base w0 w' := by
  have hg := ho.lt g rfl
  obtain ⟨g', cap', e0, -, -, -, -, hl, hH⟩ := Go.Lib.holds_of_ownsRow ho (by intro h; cases h)
  obtain ⟨rfl, rfl⟩ : g = g' ∧ cap = cap' := by cases e0; exact ⟨rfl, rfl⟩
  have H := AnyE.slices_Reverse layRevI (Value.int .i64) (fun _ => rfl) g 0 cap zs w hH (by omega)
  rw [hl] at H
  refine Calls.mono H ?_
  rintro e w1 ⟨rfl, q, rfl⟩
  have h2 := Go.Lib.ownsRow_putRow (q := q) (k := n) ho (ys := zs.reverse) (by simpa using hl) (Nat.le_refl _)
  rw [List.take_of_length_le (by simp; omega)] at h2
  exact ⟨rfl, h2, Go.Lib.below_putRow hb hg.1⟩

set_option maxHeartbeats 4000000 in
theorem longestFrom_any (b o c : Nat) (xs : List Bk) (wf : ∀ b ∈ xs, b.Wf) (w : World) (hs : SliceOf w (.slice (some ⟨b, o, none⟩) xs.length c) xs) (h60 : xs.length ≤ 60) :
    Calls Tryd.prog 77 #[.slice (some ⟨b, o, none⟩) xs.length c] w fun e w' => ∃ g, e = .returned (.slice (some ⟨g, 0, none⟩) xs.length xs.length) ∧ w'.ownsRow w.heap.size 2 1 (.slice (some ⟨g, 0, none⟩) xs.length xs.length) xs.length ((backs xs).map (Value.int .i64)) ∧ Below w.heap.size w w' := by
  have hat : 0 < xs.length → BooksAt w b o xs := by
    obtain ⟨A, c', e, h⟩ := hs
    intro h0
    obtain ⟨g', o', rfl, _, ha⟩ := h h0
    cases e
    exact ha
  have WF := Lib.hid (show ∀ b ∈ xs.reverse, b.Wf from fun b hb => wf b (List.mem_reverse.1 hb))
  have HC := Lib.hid (cloneBooks_any b o c xs w hat (by omega))
  clear hs hat wf
  go_enter Tryd.func77, Tryd.ntmps77
  go_wp2_with fail
  refine HC.out.mono ?_
  rintro e w1 ⟨g1, cap1, rfl, ho1, h1⟩
  have O1 := Lib.hid ho1
  have B1 := Lib.hid h1
  clear ho1 h1
  go_wp2_with fail
  refine (reverseBooks_any g1 cap1 w.heap.size xs w w1 O1.out B1.out (by omega)).mono ?_
  rintro e w2 ⟨rfl, hs2, h2⟩
  have S2 := Lib.hid hs2
  have B2 := Lib.hid h2
  have hl : xs.reverse.length = xs.length := List.length_reverse
  have HL := Lib.hid hl
  have HK := Lib.hid (longestTo_kept _ cap1 xs.reverse WF.out w2 S2.out (by rw [hl]; exact own_cap O1.out) (by omega))
  rw [hl] at HK
  clear hs2 h2 hl
  go_wp2_with fail
  refine HK.out.mono ?_
  rintro e w3 ⟨g3, rfl, ho3, h3⟩
  have hm := ownsMono ho3 B2.out.size
  have O3 := Lib.hid hm
  have B3 := Lib.hid (bnext B2.out h3)
  clear ho3 h3 hm
  go_wp2_with fail
  refine (reverseInts_any g3 xs.length w.heap.size (chains (geP xs.reverse) xs.length) xs.length w w3 O3.out B3.out (by omega)).mono ?_
  rintro e w4 ⟨rfl, ho4, h4⟩
  have O4 := Lib.hid ho4
  have B4 := Lib.hid h4
  clear ho4 h4
  go_wp2
  go_ret
  exact ⟨_, rfl, O4.out, B4.out⟩

end Go.Proofs.YtgfffbnodinkcabDoor
