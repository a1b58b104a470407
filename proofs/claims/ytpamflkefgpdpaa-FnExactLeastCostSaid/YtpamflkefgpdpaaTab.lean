/- Tables of numbers: how they read when they come in; the law's copies and comparisons: contracts. Condition: no longer than a slice can be (the copies: than the law tests). -/
import Derived.Test.YtpamflkefgpdpaaTabE
import Derived.Test.YtpamflkefgpdpaaCase
import Derived.Test.YtpamflkefgpdpaaOpen
namespace Go.Proofs.Ytpamflkefgpdpaa
set_option linter.unusedSimpArgs false
set_option linter.unusedVariables false
set_option maxRecDepth 100000
open Go.ChangeShapes Go.WideShapes Go.ChangeAt Go.RowKit Go.Deep

theorem list_ofG {α : Type} (n : Nat) (P : Nat → α → Prop) (h : ∀ i, i < n → ∃ b, P i b) : ∃ l : List α, l.length = n ∧ ∀ (i : Nat) (hi : i < l.length), P i l[i] := by
  induction n with
  | zero => exact ⟨[], rfl, fun i hi => absurd hi (Nat.not_lt_zero _)⟩
  | succ n ih =>
    obtain ⟨l, hl, hp⟩ := ih (fun i hi => h i (by omega))
    obtain ⟨b, hb⟩ := h n (Nat.lt_succ_self n)
    refine ⟨l ++ [b], by simp [hl], fun i hi => ?_⟩
    by_cases e : i < l.length
    · rw [List.getElem_append_left e]; exact hp i e
    · have : i = n := by simp at hi; omega
      subst this
      rw [List.getElem_append_right (by omega)]
      simpa [hl] using hb

section
variable {H : Type} {enc : TypeId × Value → H} {w : World} {base : Nat} {spare : Nat → Bool} {held : Bool}
theorem cellsRow64 : Try.prog.cellsOf 22 = 1 := by kernel_rfl
theorem cells64 : Try.prog.cellsOf 2 = 1 := by kernel_rfl
/-- A table that came in. -/
theorem tab_of_arg {r : Reach} {b0 : Nat} {v : Value} {d : DataW H} {p : List MemPlace} (hv : Value.okWide Try.prog w r b0 47 v) (h : DataW.Trod enc Try.prog w base spare held 47 v d p) :
    ∃ t : List (List Int), (∀ zs ∈ t, ∀ z ∈ zs, (Lit.int .i64 z).wf = true) ∧ (∀ zs ∈ t, zs.length ≤ maxLen) ∧ TabOf w v t ∧ t.length ≤ maxLen := by
  obtain ⟨a, len, cap, rfl⟩ := okWide_slice Try.underlying47 hv
  obtain ⟨fuel, hf⟩ := h
  rcases open_slice Try.underlying47 hf with ⟨hcs, _⟩ | ⟨a', l', c', m, n, D, Pl, hcs, _, hl, hm, hmm, _, hi⟩
  · simp [Value.cells] at hcs
    obtain ⟨rfl, rfl, rfl⟩ := hcs
    exact ⟨[], by simp, by simp, ⟨_, _, rfl, fun h => absurd h (Nat.lt_irrefl _)⟩, by simp⟩
  · simp [Value.cells] at hcs
    obtain ⟨rfl, rfl, rfl⟩ := hcs
    have hlm : len ≤ m := by rw [hmm]; split <;> omega
    obtain ⟨t, htl, ht⟩ := list_ofG len (fun i (zs : List Int) => (∀ z ∈ zs, (Lit.int .i64 z).wf = true) ∧ zs.length ≤ maxLen ∧ ∃ u, w.cell? (a'.add i) = some u ∧ IntsOf .i64 w u zs) (fun i h => by
      obtain ⟨cs', h1, h2⟩ := hi i (by omega)
      obtain ⟨u, zs, rfl, hz1, hz2, hz3⟩ := ints_of_trod Try.underlying22 Try.underlying2 cells64 h2
      rw [cellsRow64] at h1
      have h3 := (World.cells?_some h1).2.2 0 (by omega)
      rw [Nat.mul_one, add_add, Nat.add_zero] at h3
      exact ⟨zs, hz1, hz3, u, h3, hz2⟩)
    subst htl
    refine ⟨t, fun zs hzs => ?_, fun zs hzs => ?_, ⟨_, _, rfl, fun h0 => ?_⟩, by omega⟩
    · obtain ⟨i, hi, rfl⟩ := List.getElem_of_mem hzs
      exact (ht i hi).1
    · obtain ⟨i, hi, rfl⟩ := List.getElem_of_mem hzs
      exact (ht i hi).2.1
    · obtain ⟨u0, hu0, _⟩ := (ht 0 h0).2.2
      have hs : a'.spot = none := by simpa [Addr.add] using World.cell?_spot hu0
      obtain ⟨g, o, sp⟩ := a'
      simp only at hs
      subst hs
      refine ⟨g, o, rfl, ?_, fun i hi => ?_⟩
      · have h2 := block_lt_of_cell hu0
        rwa [block_of_add] at h2
      · obtain ⟨u, hu, hz⟩ := (ht i hi).2.2
        rw [Addr.add_lit] at hu
        exact ⟨u, hu, hz⟩
end

/-- What a table counts for the law's bound. -/
def tszTo (t : List (List Int)) : Nat → Nat
  | 0 => t.length
  | k + 1 => tszTo t k + (t.getD k []).length
def tsz (t : List (List Int)) : Nat := tszTo t t.length
theorem tszTo_mono (t : List (List Int)) : ∀ (k d : Nat), tszTo t k ≤ tszTo t (k + d)
  | k, 0 => Nat.le_refl _
  | k, d + 1 => Nat.le_trans (tszTo_mono t k d) (by rw [show k + (d + 1) = (k + d) + 1 by omega, tszTo]; omega)
theorem tsz_le {t : List (List Int)} {k : Nat} (h : k ≤ t.length) : tszTo t k ≤ tsz t := by
  have := tszTo_mono t k (t.length - k)
  rwa [show k + (t.length - k) = t.length by omega] at this
theorem tsz_len (t : List (List Int)) : t.length ≤ tsz t := tsz_le (t := t) (k := 0) (Nat.zero_le _)
theorem tsz_row {t : List (List Int)} {k : Nat} (h : k < t.length) : t[k].length ≤ tsz t := by
  have h1 := tsz_le (t := t) (k := k + 1) h
  rw [tszTo, List.getD_eq_getElem?_getD, List.getElem?_eq_getElem h] at h1
  simp at h1
  omega
theorem tszTo_succ {t : List (List Int)} {k : Nat} (h : k < t.length) : tszTo t (k + 1) = tszTo t k + t[k].length := by
  rw [tszTo, List.getD_eq_getElem?_getD, List.getElem?_eq_getElem h]
  rfl

/-- Block g is a row of n tables' rows, the first k of which are copied. -/
def TRowK (w : World) (lo g : Nat) (t : List (List Int)) (k n : Nat) : Prop :=
  ∃ cs : Array Value, w.heap[g]? = some (.cells cs 22 (0, 0)) ∧ cs.size = n ∧ ∀ (i : Nat) (hi : i < t.length), i < k → ∃ gi, cs[i]? = some (.slice (some ⟨gi, 0, none⟩) t[i].length t[i].length) ∧ lo < gi ∧ IRow .i64 2 w gi t[i]
theorem TRowK.lt {w : World} {lo g k n : Nat} {t : List (List Int)} (h : TRowK w lo g t k n) : g < w.heap.size := by
  obtain ⟨cs, h, _⟩ := h
  exact (Array.getElem?_eq_some_iff.1 h).1
theorem TRowK.cell {w : World} {lo g k n : Nat} {t : List (List Int)} (h : TRowK w lo g t k n) (i : Nat) (hi : i < n) : ∃ u, w.cell? ⟨g, i, none⟩ = some u := by
  obtain ⟨cs, h, h2, _⟩ := h
  rw [cell_of_row w g _ cs _ _ h]
  exact ⟨cs[i]'(by omega), Array.getElem?_eq_getElem (by omega)⟩
theorem TRowK.frozen {w : World} {lo g k n : Nat} {t : List (List Int)} (h : TRowK w lo g t k n) (o : Nat) : w.frozen? ⟨g, o, none⟩ = false := by
  obtain ⟨cs, h, _⟩ := h
  exact frozen_of_row w g _ cs _ h
theorem TRowK.below {w w' : World} {lo g k n : Nat} {t : List (List Int)} (h : TRowK w lo g t k n) (hb : Below w.heap.size w w') : TRowK w' lo g t k n := by
  obtain ⟨cs, h1, h2, h3⟩ := h
  refine ⟨cs, (hb.block g (Array.getElem?_eq_some_iff.1 h1).1).trans h1, h2, fun i hi hk => ?_⟩
  obtain ⟨gi, e1, e2, e3⟩ := h3 i hi hk
  exact ⟨gi, e1, e2, IRowK.below e3 hb (IRowK.lt e3)⟩
theorem TRowK.step {w : World} {lo g k n gi : Nat} {t : List (List Int)} (h : TRowK w lo g t k n) (hk : k < t.length) (hn : k < n) (hlo : lo = g) (hgi : lo < gi) (hr : IRow .i64 2 w gi t[k]) : TRowK (w.setCell ⟨g, k, none⟩ (.slice (some ⟨gi, 0, none⟩) t[k].length t[k].length)) lo g t (k + 1) n := by
  obtain ⟨cs, h1, h2, h3⟩ := h
  refine ⟨_, heap_setCell_same _ _ _ _ _ _ h1, by simpa using h2, fun i hi hik => ?_⟩
  by_cases e : i = k
  · subst e
    refine ⟨gi, ?_, hgi, IRowK.far hr (by show gi ≠ g; omega)⟩
    simp [h2, hn]
  · obtain ⟨gj, e1, e2, e3⟩ := h3 i hi (by omega)
    refine ⟨gj, ?_, e2, IRowK.far e3 (by show gj ≠ g; omega)⟩
    rw [Array.getElem?_setIfInBounds, if_neg (by omega)]
    exact e1
theorem TRowK.tab {w : World} {lo g n : Nat} {t : List (List Int)} (h : TRowK w lo g t t.length n) (c : Nat) : TabOf w (.slice (some ⟨g, 0, none⟩) t.length c) t := by
  refine ⟨_, c, rfl, fun _ => ⟨g, 0, rfl, h.lt, fun i hi => ?_⟩⟩
  obtain ⟨cs, h1, h2, h3⟩ := h
  obtain ⟨gi, e1, e2, e3⟩ := h3 i hi hi
  refine ⟨_, ?_, IRow.slice e3⟩
  rw [cell_of_row w g _ cs _ _ h1, Nat.zero_add]
  exact e1
theorem infoRow64 : (Try.prog.info? 22).map (fun i => (i.zero, i.size, i.bytes)) = some (some (.slice none 0 0), 1, 24) := by kernel_rfl

end Go.Proofs.Ytpamflkefgpdpaa
