/- The law's marks in its own copy of a desk: contracts. Condition: at most 1048576 copies and people who wait. -/
import Derived.Test.YtmafjncaigllbaaDk
namespace Go.Proofs.Ytmafjncaigllbaa
set_option linter.unusedSimpArgs false
set_option linter.unusedVariables false
set_option maxRecDepth 100000
open Go.RowKit

/-- Only blocks from lo on, and ahead of hi, have been written; new ones may be there. -/
structure InOnly (lo hi : Nat) (w w' : World) : Prop where
  os : w'.os = w.os
  tape : w'.tape = w.tape
  output : w'.output = w.output
  size : w.heap.size ≤ w'.heap.size
  block : ∀ k, k < w.heap.size → (k < lo ∨ hi ≤ k) → w'.heap[k]? = w.heap[k]?
theorem InOnly.refl (lo hi : Nat) (w : World) : InOnly lo hi w w := ⟨rfl, rfl, rfl, Nat.le_refl _, fun _ _ _ => rfl⟩
theorem InOnly.trans {lo hi : Nat} {a b c : World} (h : InOnly lo hi a b) (k : InOnly lo hi b c) : InOnly lo hi a c :=
  ⟨k.os.trans h.os, k.tape.trans h.tape, k.output.trans h.output, Nat.le_trans h.size k.size, fun i hi ho => (k.block i (Nat.lt_of_lt_of_le hi h.size) ho).trans (h.block i hi ho)⟩
theorem InOnly.set {lo hi : Nat} {a w : World} (h : InOnly lo hi a w) (g o : Nat) (u : Value) (h1 : lo ≤ g) (h2 : g < hi) : InOnly lo hi a (w.setCell ⟨g, o, none⟩ u) :=
  ⟨h.os, h.tape, h.output, by simpa [World.setCell] using h.size, fun i hi ho => (Below.heap_setCell w ⟨g, o, none⟩ u i (by show i ≠ g; omega)).trans (h.block i hi ho)⟩
theorem InOnly.grown {lo hi g : Nat} {a w w' : World} (h : InOnly lo hi a w) (k : w.grownBy w' (some g)) (h1 : lo ≤ g) (h2 : g < hi) : InOnly lo hi a w' :=
  ⟨k.os.trans h.os, k.tape.trans h.tape, k.output.trans h.output, Nat.le_trans h.size k.size, fun i hi ho => (k.block i (Nat.lt_of_lt_of_le hi h.size) (fun e => by injection e with e; omega)).trans (h.block i hi ho)⟩
theorem InOnly.ofAlloc {lo hi : Nat} {w w' : World} {o : Obj} (h : InOnly lo hi (w.alloc o) w') : InOnly lo hi w w' :=
  ⟨h.os, h.tape, h.output, Nat.le_trans (by simp) h.size, fun k hk ho => (h.block k (by simp; omega) ho).trans (Below.heap_alloc w o k hk)⟩
theorem below_inOnly {B lo hi : Nat} {a w w' : World} (h : Below B a w) (k : InOnly lo hi w w') (h1 : B ≤ lo) (h2 : B ≤ w.heap.size) : Below B a w' :=
  ⟨k.os.trans h.os, k.tape.trans h.tape, k.output.trans h.output, Nat.le_trans h.size k.size, fun i hi => (k.block i (by omega) (.inl (by omega))).trans (h.block i hi)⟩
theorem ownIn {w w' : World} {base lo hi : Nat} {e : TypeId} {size n : Nat} {v : Value} {xs : List Value} (h : w.ownsRow base e size v n xs) (k : InOnly lo hi w w') (hne : ∀ k, v.ownBlock = some k → k < lo ∨ hi ≤ k) : w'.ownsRow base e size v n xs := by
  refine ⟨h.1, ?_⟩
  rcases h.2 with hn | ⟨g, cap, cur, hv, hbg, hg, rest⟩
  · exact .inl hn
  · exact .inr ⟨g, cap, cur, hv, hbg, (k.block g (Array.getElem?_eq_some_iff.1 hg).1 (hne g (by rw [hv]; rfl))).trans hg, rest⟩

/-- Block g is a row of n numbers of int8, whatever they are. -/
def Row8 (w : World) (g n : Nat) : Prop := ∃ cs : Array Value, w.heap[g]? = some (.cells cs 62 (0, 0)) ∧ cs.size = n
theorem Row8.set {w : World} {g n : Nat} (h : Row8 w g n) (o : Nat) (u : Value) : Row8 (w.setCell ⟨g, o, none⟩ u) g n := by
  obtain ⟨cs, h1, h2⟩ := h
  exact ⟨_, heap_setCell_same _ _ _ _ _ _ h1, by simpa using h2⟩
theorem Row8.same {w w' : World} {g n : Nat} (h : Row8 w g n) (e : w'.heap[g]? = w.heap[g]?) : Row8 w' g n := by
  obtain ⟨cs, h1, h2⟩ := h
  exact ⟨cs, e.trans h1, h2⟩
theorem Row8.of {w : World} {g k n : Nat} {zs : List Int} (h : IRowK .i8 62 w g zs k n) : Row8 w g n := by
  obtain ⟨cs, h1, h2, _⟩ := h
  exact ⟨cs, h1, h2⟩
theorem Row8.lt {w : World} {g n : Nat} (h : Row8 w g n) : g < w.heap.size := by
  obtain ⟨cs, h1, h2⟩ := h
  exact (Array.getElem?_eq_some_iff.1 h1).1
theorem Row8.eq {w : World} {g n m : Nat} (h : Row8 w g n) (k : Row8 w g m) : n = m := by
  obtain ⟨cs, h1, h2⟩ := h
  obtain ⟨ds, k1, k2⟩ := k
  rw [h1] at k1
  injection k1 with k1
  injection k1 with k1
  subst k1
  omega
theorem Row8.cell {w : World} {g n : Nat} (h : Row8 w g n) (o : Nat) (ho : o < n) : ∃ u, w.cell? ⟨g, o, none⟩ = some u := by
  obtain ⟨cs, h, h2⟩ := h
  rw [cell_of_row w g _ cs _ _ h]
  exact ⟨cs[o]'(by omega), Array.getElem?_eq_getElem (by omega)⟩
theorem Row8.frozen {w : World} {g n : Nat} (h : Row8 w g n) (o : Nat) : w.frozen? ⟨g, o, none⟩ = false := by
  obtain ⟨cs, h, _⟩ := h
  exact frozen_of_row w g _ cs _ h
set_option maxHeartbeats 2000000 in
theorem markI8_any (g n : Nat) (k0 : Int) (w : World) (h : Row8 w g n) (hn : n ≤ 1048576) (hk0 : 0 ≤ k0) (hk1 : k0 ≤ 1000000000) :
    Calls Try.prog 93 #[.slice (some ⟨g, 0, none⟩) n n, .int .i64 k0] w fun e w' => e = .returned (.int .i64 (k0 + n)) ∧ Row8 w' g n ∧ w.grownBy w' (some g) := by
  have HR := Lib.hid h
  clear h
  go_enter Try.func93, Try.ntmps93
  go_wp2
  go_loopw [1, 5] (fun x i wr => ∃ j : Nat, j ≤ n ∧ i = .int .i64 j ∧ x = .int .i64 (k0 + (j : Int)) ∧ Row8 wr g n ∧ w.grownBy wr (some g)) (fun _ i _ => n - (intOf i).toNat)
  case atStart => exact ⟨0, Nat.zero_le _, rfl, by simp, HR.out, World.grownBy.refl w _⟩
  case round =>
    obtain ⟨j, hj, rfl, rfl, hrow, hgr⟩ := hrel
    have HG := Lib.hid hgr
    have HW := Lib.hid hrow
    clear hgr
    by_cases hlt : j < n
    · obtain ⟨u0, c0⟩ := hrow.cell j (by omega)
      have fz := hrow.frozen
      clear hrow
      go_wp2
      go_roundw
      case rel => exact ⟨j + 1, by omega, by go_num, by first | go_num | (congr 1; push_cast; omega), HW.out.set _ _, only_set2 HG.out _ _⟩
      case measure => simp [intOf]; omega
    · obtain rfl : j = n := by omega
      clear hrow
      go_wp2
      go_ret
      exact ⟨rfl, HW.out, HG.out⟩

/-- A row of copies from block g on, all of its memory ahead of hi, whatever it holds but for lengths. -/
def CRowX (w : World) (hi g : Nat) (xs : List Cp) : Prop :=
  ∃ cs : Array Value, w.heap[g]? = some (.cells cs 65 (0, 0)) ∧ cs.size = xs.length * 5 ∧ g < hi ∧ hi ≤ w.heap.size ∧ ∀ (i : Nat) (hi' : i < xs.length), ∃ gi, cs[i * 5 + 4]? = some (.slice (some ⟨gi, 0, none⟩) xs[i].q.length xs[i].q.length) ∧ g < gi ∧ gi < hi ∧ Row8 w gi xs[i].q.length
theorem CRowX.of {w : World} {g : Nat} {xs : List Cp} (h : CRowK w g g xs xs.length xs.length) : CRowX w w.heap.size g xs := by
  have hl := h.lt
  obtain ⟨cs, h1, h2, h3⟩ := h
  refine ⟨cs, h1, h2, hl, Nat.le_refl _, fun i hi => ?_⟩
  obtain ⟨_, _, _, _, gi, e1, e2, e3⟩ := h3 i hi hi
  exact ⟨gi, e1, e2, IRowK.lt e3, Row8.of e3⟩
theorem CRowX.below {w w' : World} {hi g : Nat} {xs : List Cp} (h : CRowX w hi g xs) (hb : Below w.heap.size w w') : CRowX w' hi g xs := by
  obtain ⟨cs, h1, h2, h3, h4, h5⟩ := h
  refine ⟨cs, (hb.block g (by omega)).trans h1, h2, h3, Nat.le_trans h4 hb.size, fun i hi => ?_⟩
  obtain ⟨gi, e1, e2, e3, e4⟩ := h5 i hi
  exact ⟨gi, e1, e2, e3, e4.same (hb.block gi (by omega))⟩
theorem CRowX.cells5 {w : World} {hi g : Nat} {xs : List Cp} (h : CRowX w hi g xs) (i : Nat) (hi : i < xs.length) :
    (∃ u, w.cell? ⟨g, i * 5, none⟩ = some u) ∧ (∃ u, w.cell? ⟨g, i * 5 + 1, none⟩ = some u) ∧ (∃ u, w.cell? ⟨g, i * 5 + 2, none⟩ = some u) ∧ (∃ u, w.cell? ⟨g, i * 5 + 3, none⟩ = some u) := by
  obtain ⟨cs, h, h2, _⟩ := h
  have e : ∀ j, j < 5 → ∃ u, w.cell? ⟨g, i * 5 + j, none⟩ = some u := fun j hj => by
    rw [cell_of_row w g _ cs _ _ h]
    exact ⟨cs[i * 5 + j]'(by omega), Array.getElem?_eq_getElem (by omega)⟩
  exact ⟨e 0 (by omega), e 1 (by omega), e 2 (by omega), e 3 (by omega)⟩
theorem CRowX.frozen {w : World} {hi g : Nat} {xs : List Cp} (h : CRowX w hi g xs) (o : Nat) : w.frozen? ⟨g, o, none⟩ = false := by
  obtain ⟨cs, h, _⟩ := h
  exact frozen_of_row w g _ cs _ h
theorem CRowX.queue {w : World} {hi g : Nat} {xs : List Cp} (h : CRowX w hi g xs) (i : Nat) (hi' : i < xs.length) : ∃ gi, w.cell? ⟨g, i * 5 + 4, none⟩ = some (.slice (some ⟨gi, 0, none⟩) xs[i].q.length xs[i].q.length) ∧ g < gi ∧ gi < hi ∧ Row8 w gi xs[i].q.length := by
  obtain ⟨cs, h1, h2, h3, h4, h5⟩ := h
  obtain ⟨gi, e1, e2⟩ := h5 i hi'
  exact ⟨gi, by rw [cell_of_row w g _ cs _ _ h1]; exact e1, e2⟩
theorem CRowX.put {w : World} {hi g : Nat} {xs : List Cp} (h : CRowX w hi g xs) (i j : Nat) (hj : j < 4) (u : Value) : CRowX (w.setCell ⟨g, i * 5 + j, none⟩ u) hi g xs := by
  obtain ⟨cs, h1, h2, h3, h4, h5⟩ := h
  refine ⟨_, heap_setCell_same _ _ _ _ _ _ h1, by simpa using h2, h3, by simpa [World.setCell] using h4, fun k hk => ?_⟩
  obtain ⟨gi, e1, e2, e3, e4⟩ := h5 k hk
  refine ⟨gi, ?_, e2, e3, e4.same (Below.heap_setCell w ⟨g, i * 5 + j, none⟩ u gi (by show gi ≠ g; omega))⟩
  rw [Array.getElem?_setIfInBounds, if_neg (by omega)]
  exact e1
theorem CRowX.inner {w w' : World} {hi g gi m : Nat} {xs : List Cp} (h : CRowX w hi g xs) (hk : w.grownBy w' (some gi)) (hg : g < gi) (h0 : Row8 w gi m) (h8 : Row8 w' gi m) : CRowX w' hi g xs := by
  obtain ⟨cs, h1, h2, h3, h4, h5⟩ := h
  refine ⟨cs, (hk.block g (by omega) (fun e => by injection e with e; omega)).trans h1, h2, h3, Nat.le_trans h4 hk.size, fun k hk' => ?_⟩
  obtain ⟨gj, e1, e2, e3, e4⟩ := h5 k hk'
  refine ⟨gj, e1, e2, e3, ?_⟩
  by_cases e : gj = gi
  · subst e
    have := e4.eq h0
    rw [this]
    exact h8
  · exact e4.same (hk.block gj e4.lt (fun e' => by injection e' with e'; omega))

/-- How far the marks of the first k copies go. -/
def kTo (xs : List Cp) (k : Nat) : Int := 4 * (k : Int) + ((cszTo xs k : Int) - (xs.length : Int))
theorem kTo_zero (xs : List Cp) : kTo xs 0 = 0 := by simp [kTo, cszTo]
theorem kTo_succ {xs : List Cp} {k : Nat} (h : k < xs.length) : kTo xs (k + 1) = kTo xs k + 4 + (xs[k].q.length : Int) := by
  unfold kTo
  rw [cszTo_succ h]
  omega
theorem kTo_nonneg (xs : List Cp) (k : Nat) : 0 ≤ kTo xs k := by
  have := cszTo_mono xs 0 k
  rw [Nat.zero_add, cszTo] at this
  unfold kTo
  omega
theorem kTo_le' {xs : List Cp} {k : Nat} (hk : k ≤ xs.length) (h : csz xs ≤ 1048576) : kTo xs k ≤ 5242880 := by
  have h1 := csz_le hk
  have h2 := csz_len xs
  unfold kTo
  omega
theorem kTo_le {xs : List Cp} (h : csz xs ≤ 1048576) : kTo xs xs.length ≤ 5242880 := kTo_le' (Nat.le_refl _) h

set_option maxHeartbeats 8000000 in
theorem markCopyS_x (g hi c : Nat) (xs : List Cp) (k0 : Int) (w : World) (h : CRowX w hi g xs) (hn : csz xs ≤ 1048576) (hk0 : 0 ≤ k0) (hk1 : k0 ≤ 20000000) :
    Calls Try.prog 59 #[.slice (some ⟨g, 0, none⟩) xs.length c, .int .i64 k0] w fun e w' => e = .returned (.int .i64 (k0 + kTo xs xs.length)) ∧ CRowX w' hi g xs ∧ InOnly g hi w w' := by
  have HR := Lib.hid h
  clear h
  go_enter Try.func59, Try.ntmps59
  have hlen := csz_len xs
  go_wp2
  go_loopw [1, 5] (fun x i wr => ∃ (j : Nat) (y : Int), y = k0 + kTo xs j ∧ j ≤ xs.length ∧ i = .int .i64 j ∧ x = .int .i64 y ∧ CRowX wr hi g xs ∧ InOnly g hi w wr) (fun _ i _ => xs.length - (intOf i).toNat)
  case atStart => exact ⟨0, k0, by rw [kTo_zero]; simp, Nat.zero_le _, rfl, rfl, HR.out, InOnly.refl _ _ w⟩
  case round =>
    obtain ⟨j, y, hy, hj, rfl, rfl, hm, hgr⟩ := hrel
    have HG := Lib.hid hgr
    have HW := Lib.hid hm
    clear hgr
    have hy0 : 0 ≤ y := by have := kTo_nonneg xs j; omega
    have hy1 : y ≤ 40000000 := by have := kTo_le' hj hn; omega
    have HY := Lib.hid hy
    clear hy
    by_cases hlt : j < xs.length
    · obtain ⟨⟨u0, c0⟩, ⟨u1, c1⟩, ⟨u2, c2⟩, ⟨u3, c3⟩⟩ := hm.cells5 j hlt
      obtain ⟨gi, c4, e1, e2, r8⟩ := hm.queue j hlt
      have R8 := Lib.hid r8
      have fz := hm.frozen
      have KS := Lib.hid (kTo_succ hlt)
      have hql : xs[j].q.length ≤ 1048576 := Nat.le_trans (csz_row hlt) hn
      clear hm r8
      go_wp2_with fail
      generalize hW4 : World.setCell _ _ _ = W4
      have H4 : CRowX W4 hi g xs := by rw [← hW4]; exact (((HW.out.put j 0 (by omega) _).put j 1 (by omega) _).put j 2 (by omega) _).put j 3 (by omega) _
      have G4 : InOnly g hi w W4 := by
        rw [← hW4]
        repeat (refine InOnly.set ?_ g _ _ (Nat.le_refl _) (by omega))
        exact HG.out
      have R4 : Row8 W4 gi xs[j].q.length := by
        rw [← hW4]
        repeat (refine Row8.same ?_ (Below.heap_setCell _ _ _ _ (by show gi ≠ g; omega)))
        exact R8.out
      clear hW4 c0 c1 c2 c3 c4 fz
      refine (markI8_any gi xs[j].q.length _ W4 R4 hql (by omega) (by omega)).mono ?_
      rintro e w1 ⟨rfl, h8, h1⟩
      have H5 := Lib.hid (H4.inner h1 e1 R4 h8)
      have G5 := Lib.hid (G4.grown h1 (by omega) e2)
      clear H4 G4 R4 h8 h1
      go_wp2
      go_roundw
      case rel => exact ⟨j + 1, y + 1 + 1 + 1 + 1 + (xs[j].q.length : Int), by have := HY.out; have := KS.out; omega, by omega, by go_num, rfl, H5.out, G5.out⟩
      case measure => simp [intOf]; omega
    · obtain rfl : j = xs.length := by omega
      clear hm
      go_wp2
      go_ret
      exact ⟨by rw [← HY.out]; rfl, HW.out, HG.out⟩
set_option maxHeartbeats 2000000 in
theorem markDeskX_any (d : Dk) (g hi : Nat) (k0 : Int) (w : World) (h : CRowX w hi g d.cs) (hn : csz d.cs ≤ 1048576) (hk0 : 0 ≤ k0) (hk1 : k0 ≤ 20000000) :
    Calls Try.prog 24 #[.agg #[.int .i16 d.day, .slice (some ⟨g, 0, none⟩) d.cs.length d.cs.length], .int .i64 k0] w fun e w' => e = .returned (.int .i64 (k0 + kTo d.cs d.cs.length)) ∧ InOnly g hi w w' := by
  have HA := Lib.hid (h.below ((Below.refl w.heap.size w).alloc (Nat.le_refl _) (.cells #[.int .i16 d.day, .slice (some ⟨g, 0, none⟩) d.cs.length d.cs.length] 30)))
  clear h
  go_enter Try.func24, Try.ntmps24
  go_wp2_with fail
  refine (markCopyS_x g hi _ d.cs k0 _ HA.out hn hk0 hk1).mono ?_
  rintro e w1 ⟨rfl, -, k1⟩
  go_wp2
  go_ret
  exact ⟨rfl, InOnly.ofAlloc k1⟩
end Go.Proofs.Ytmafjncaigllbaa
