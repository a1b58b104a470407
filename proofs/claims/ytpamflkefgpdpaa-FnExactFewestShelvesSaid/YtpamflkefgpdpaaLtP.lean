/- Tables of least sums: the plain form, and how such a table lies while it is made. No condition. -/
import Derived.Test.YtpamflkefgpdpaaProvedAt
import Derived.Test.YtpamflkefgpdpaaResV
namespace Go.Proofs.Ytpamflkefgpdpaa
set_option linter.unusedSimpArgs false
set_option linter.unusedVariables false
set_option maxRecDepth 100000
open Go.RowKit

/-- The least of the sums over the first d rows from book i on. -/
def bestF (price nxt : Nat → Int) (i : Nat) : Nat → Int
  | 0 => -1
  | d + 1 => if nxt (i + d) ≠ -1 ∧ (bestF price nxt i d = -1 ∨ nxt (i + d) + price (i + d) < bestF price nxt i d) then nxt (i + d) + price (i + d) else bestF price nxt i d
def sumV (c : Cs) (xs : List Bk) (u : Bool) : Nat → Nat → Int
  | 0, i => if i = xs.length then 0 else -1
  | j + 1, i => bestF (fun k => priceS c (c.hs.length - (j + 1)) (part xs i k) u) (sumV c xs u j) i (cntR c (c.hs.length - (j + 1)) xs i)
/-- The number of a table for a shelf and a book. -/
def numV (c : Cs) (xs : List Bk) (u : Bool) (s i : Nat) : Int := sumV c xs u (c.hs.length - s) i
theorem numV_last (c : Cs) (xs : List Bk) (u : Bool) (i : Nat) : numV c xs u c.hs.length i = if i = xs.length then 0 else -1 := by
  unfold numV
  rw [Nat.sub_self]
  rfl
theorem numV_step {c : Cs} {xs : List Bk} {u : Bool} {s i : Nat} (h : s < c.hs.length) : numV c xs u s i = bestF (fun k => priceS c s (part xs i k) u) (numV c xs u (s + 1)) i (cntR c s xs i) := by
  unfold numV
  obtain ⟨j, hj⟩ : ∃ j, c.hs.length - s = j + 1 := ⟨c.hs.length - s - 1, by omega⟩
  have h1 : c.hs.length - (j + 1) = s := by omega
  have h2 : c.hs.length - (s + 1) = j := by omega
  rw [hj, sumV, h1]
  congr 1
  funext k
  rw [h2]
theorem bestF_bd {price nxt : Nat → Int} {i : Nat} {P M : Int} : ∀ d, (∀ e, e < d → 0 ≤ price (i + e) ∧ price (i + e) ≤ P) → (∀ k, -1 ≤ nxt k ∧ nxt k ≤ M) → 0 ≤ P → 0 ≤ M → -1 ≤ bestF price nxt i d ∧ bestF price nxt i d ≤ M + P
  | 0, _, _, _, _ => by rw [bestF]; omega
  | d + 1, hp, hn, h0, h1 => by
    have ih := bestF_bd d (fun e he => hp e (by omega)) hn h0 h1
    have a := hp d (by omega)
    have b := hn (i + d)
    rw [bestF]
    split <;> omega
theorem price_fit_bd {c : Cs} {s : Nat} {xs : List Bk} {i : Nat} {u : Bool} (wc : c.Wf) (wf : ∀ b ∈ xs, b.Wf) (hc : caseB c = true) (h60 : xs.length ≤ 60) (hi : i ≤ xs.length) : ∀ e, e < cntR c s xs i → 0 ≤ priceS c s (part xs i (i + e)) u ∧ priceS c s (part xs i (i + e)) u ≤ 4410000000000 := by
  intro e he
  have hfit := fits_within (c := c) (s := s) hc hi e he
  have h2 := (priceS_bd c s (part xs i (i + e)) u wc (part_wf i (i + e) wf) (by unfold part; simp; omega)).2
  have h1 := priceS_fit (b := u) hfit
  exact ⟨by omega, h2⟩
theorem cntR_le {c : Cs} {s : Nat} {xs : List Bk} {i : Nat} (hi : i ≤ xs.length) : 0 < cntR c s xs i ∧ i + cntR c s xs i ≤ xs.length + 1 := by
  have := reach_le (c := c) (s := s) hi
  unfold cntR
  omega
theorem sumV_bd {c : Cs} {xs : List Bk} {u : Bool} (wc : c.Wf) (wf : ∀ b ∈ xs, b.Wf) (hc : caseB c = true) (h60 : xs.length ≤ 60) : ∀ j i, i ≤ xs.length → -1 ≤ sumV c xs u j i ∧ sumV c xs u j i ≤ 4410000000000 * (j : Int)
  | 0, i, _ => by rw [sumV]; split <;> omega
  | j + 1, i, hi => by
    rw [sumV]
    have ih := sumV_bd (u := u) wc wf hc h60 j
    -- the next row is only read within the list
    have key : ∀ d, d ≤ cntR c (c.hs.length - (j + 1)) xs i → -1 ≤ bestF (fun k => priceS c (c.hs.length - (j + 1)) (part xs i k) u) (sumV c xs u j) i d ∧ bestF (fun k => priceS c (c.hs.length - (j + 1)) (part xs i k) u) (sumV c xs u j) i d ≤ 4410000000000 * ((j + 1 : Nat) : Int) := by
      intro d
      induction d with
      | zero => intro _; rw [bestF]; omega
      | succ d ihd =>
        intro hd
        have a := price_fit_bd (u := u) (s := c.hs.length - (j + 1)) wc wf hc h60 hi d (by omega)
        have b := ih (i + d) (by have := (cntR_le (c := c) (s := c.hs.length - (j + 1)) hi).2; omega)
        have e := ihd (by omega)
        rw [bestF]
        split <;> omega
    exact key _ (Nat.le_refl _)
theorem numV_bd {c : Cs} {xs : List Bk} {u : Bool} {s i : Nat} (wc : c.Wf) (wf : ∀ b ∈ xs, b.Wf) (hc : caseB c = true) (h60 : xs.length ≤ 60) (h12 : c.hs.length ≤ 12) (hi : i ≤ xs.length) : -1 ≤ numV c xs u s i ∧ numV c xs u s i ≤ 60000000000000 := by
  have := sumV_bd (u := u) wc wf hc h60 (c.hs.length - s) i hi
  unfold numV
  omega
/-- What has been found among the first d rows, when numbers for the next shelf are told. -/
theorem best_bd {c : Cs} {xs : List Bk} {u : Bool} {s i : Nat} (wc : c.Wf) (wf : ∀ b ∈ xs, b.Wf) (hc : caseB c = true) (h60 : xs.length ≤ 60) (h12 : c.hs.length ≤ 12) (hi : i ≤ xs.length) : ∀ d, d ≤ cntR c s xs i → -1 ≤ bestF (fun k => priceS c s (part xs i k) u) (numV c xs u (s + 1)) i d ∧ bestF (fun k => priceS c s (part xs i k) u) (numV c xs u (s + 1)) i d ≤ 70000000000000 := by
  intro d
  induction d with
  | zero => intro _; rw [bestF]; omega
  | succ d ihd =>
    intro hd
    have a := price_fit_bd (u := u) (s := s) wc wf hc h60 hi d (by omega)
    have b := numV_bd (u := u) (s := s + 1) (i := i + d) wc wf hc h60 h12 (by have := (cntR_le (c := c) (s := s) hi).2; omega)
    have e := ihd (by omega)
    rw [bestF]
    split <;> omega
def numR (c : Cs) (xs : List Bk) (u : Bool) (s : Nat) : List Int := (List.range (xs.length + 1)).map (numV c xs u s)
def tabV (c : Cs) (xs : List Bk) (u : Bool) : List (List Int) := (List.range (c.hs.length + 1)).map (numR c xs u)
theorem numR_length (c : Cs) (xs : List Bk) (u : Bool) (s : Nat) : (numR c xs u s).length = xs.length + 1 := by simp [numR]
theorem tabV_length (c : Cs) (xs : List Bk) (u : Bool) : (tabV c xs u).length = c.hs.length + 1 := by simp [tabV]
theorem numR_getD {c : Cs} {xs : List Bk} {u : Bool} {s i : Nat} (h : i < xs.length + 1) : (numR c xs u s).getD i 0 = numV c xs u s i := by
  rw [List.getD_eq_getElem?_getD, List.getElem?_eq_getElem (by rw [numR_length]; exact h)]
  simp [numR]
theorem tabV_getD {c : Cs} {xs : List Bk} {u : Bool} {s : Nat} (h : s < c.hs.length + 1) : (tabV c xs u).getD s [] = numR c xs u s := by
  rw [List.getD_eq_getElem?_getD, List.getElem?_eq_getElem (by rw [tabV_length]; exact h)]
  simp [tabV]
theorem use_price {c : Cs} {s : Nat} {ps : List Bk} (h : fitsB c s ps = true) : measV 1 ps.length (freeB c ps) = priceS c s ps true := by
  have hf : freeS c s ps = freeB c ps := by unfold freeS; rw [h]; rfl
  have hn := freeS_nonneg c s ps
  rw [h, hf] at hn
  simp only [decide_eq_true_eq] at hn
  have hnn : ¬ freeB c ps < 0 := by omega
  unfold priceS measV useI
  rw [hf]
  by_cases h0 : ps.length = 0
  · rw [if_neg hnn, if_pos h0, if_pos h0]; simp
  · rw [if_neg hnn, if_neg h0, if_neg h0]; simp
def uM (u : Bool) : Nat := if u then 1 else 2
theorem uM_lt (u : Bool) : uM u < 3 := by cases u <;> simp [uM]
theorem meas_price {c : Cs} {s : Nat} {ps : List Bk} (u : Bool) (h : fitsB c s ps = true) : measV (uM u) ps.length (freeB c ps) = priceS c s ps u := by
  cases u
  · exact cost_price h
  · exact use_price h

/-- A table of S rows of n numbers in blocks from lo on: block g holds the rows, some of which are not made yet. -/
def TP (W : World) (lo : Nat → Nat) (g S n : Nat) (rows : Nat → Option (List Int)) : Prop :=
  ∃ (cs : Array Value) (bs : Nat → Nat), W.heap[g]? = some (.cells cs 22 (0, 0)) ∧ cs.size = S ∧
    (∀ s, s < S → rows s = none → cs[s]? = some (.slice none 0 0)) ∧
    (∀ s zs, s < S → rows s = some zs → cs[s]? = some (.slice (some ⟨bs s, 0, none⟩) n n) ∧ zs.length = n ∧ lo s ≤ bs s ∧ bs s ≠ g ∧ IRow .i64 2 W (bs s) zs) ∧
    (∀ s s', s < S → s' < S → s ≠ s' → rows s ≠ none → rows s' ≠ none → bs s ≠ bs s')
theorem TP.lt {W : World} {lo : Nat → Nat} {g S n : Nat} {rows : Nat → Option (List Int)} (h : TP W lo g S n rows) : g < W.heap.size := by
  obtain ⟨cs, bs, h1, _⟩ := h
  exact (Array.getElem?_eq_some_iff.1 h1).1
theorem TP.below {W W' : World} {lo : Nat → Nat} {g S n : Nat} {rows : Nat → Option (List Int)} (h : TP W lo g S n rows) (hb : Below W.heap.size W W') : TP W' lo g S n rows := by
  obtain ⟨cs, bs, h1, h2, h4, h5, h6⟩ := h
  refine ⟨cs, bs, (hb.block g (Array.getElem?_eq_some_iff.1 h1).1).trans h1, h2, h4, fun s zs hs hr => ?_, h6⟩
  obtain ⟨e1, e2, e3, e4, e5⟩ := h5 s zs hs hr
  exact ⟨e1, e2, e3, e4, IRowK.below e5 hb (IRowK.lt e5)⟩
theorem TP.made (W : World) (lo : Nat → Nat) (S n : Nat) : TP (W.alloc (.cells (madeCells (Value.slice none 0 0).cells S) 22)) lo W.heap.size S n (fun _ => none) := by
  refine ⟨_, fun _ => 0, heap_alloc_new W _, size_madeCells _ _, fun s hs _ => ?_, fun s zs _ h => (by cases h), fun s s' _ _ _ h => absurd rfl h⟩
  rw [Array.getElem?_eq_getElem (by rw [size_madeCells]; exact hs)]
  simp [madeCells, Value.cells, Nat.mod_one]
theorem TP.slot {W : World} {lo : Nat → Nat} {g S n : Nat} {rows : Nat → Option (List Int)} (h : TP W lo g S n rows) {s : Nat} (hs : s < S) : ∃ u, W.cell? ⟨g, s, none⟩ = some u := by
  obtain ⟨cs, bs, h1, h2, _⟩ := h
  rw [cell_of_row W g s cs _ _ h1]
  exact ⟨cs[s]'(by omega), Array.getElem?_eq_getElem (by omega)⟩
theorem TP.frozen {W : World} {lo : Nat → Nat} {g S n : Nat} {rows : Nat → Option (List Int)} (h : TP W lo g S n rows) (o : Nat) : W.frozen? ⟨g, o, none⟩ = false := by
  obtain ⟨cs, bs, h1, _⟩ := h
  exact frozen_of_row W g _ cs _ h1
def setR (rows : Nat → Option (List Int)) (s : Nat) (zs : List Int) : Nat → Option (List Int) := fun j => if j = s then some zs else rows j
/-- A row of the table; a number in it; the number is written. -/
theorem TP.at_ {W : World} {lo : Nat → Nat} {g S n : Nat} {rows : Nat → Option (List Int)} (h : TP W lo g S n rows) {s : Nat} {zs : List Int} (hs : s < S) (hr : rows s = some zs) :
    ∃ b, W.cell? ⟨g, s, none⟩ = some (.slice (some ⟨b, 0, none⟩) n n) ∧ lo s ≤ b ∧ b ≠ g ∧ b < W.heap.size ∧ zs.length = n ∧
      ∀ i, i < n → W.cell? ⟨b, i, none⟩ = some (.int .i64 (zs.getD i 0)) ∧ W.frozen? ⟨b, i, none⟩ = false ∧
        ∀ (W' : World), Below W.heap.size W W' → ∀ z : Int, TP (W'.setCell ⟨b, i, none⟩ (.int .i64 z)) lo g S n (setR rows s (zs.set i z)) := by
  have HB := fun (W' : World) (hb : Below W.heap.size W W') => TP.below h hb
  obtain ⟨cs, bs, h1, h2, h4, h5, h6⟩ := h
  obtain ⟨e1, e2, e3, e4, e5⟩ := h5 s zs hs hr
  refine ⟨bs s, by rw [cell_of_row W g s cs _ _ h1]; exact e1, e3, e4, IRowK.lt e5, e2, fun i hi => ⟨?_, IRowK.frozen e5 i, fun W' hb z => ?_⟩⟩
  · have := e5.intsAt i (by omega)
    rw [Nat.zero_add] at this
    rw [this, List.getD_eq_getElem?_getD, List.getElem?_eq_getElem (by omega)]
    rfl
  · have h1' := (hb.block g (Array.getElem?_eq_some_iff.1 h1).1).trans h1
    refine ⟨cs, bs, (Below.heap_setCell W' ⟨bs s, i, none⟩ _ g (fun e => e4 e.symm)).trans h1', h2, fun s' hs' hr' => ?_, fun s' zs' hs' hr' => ?_, fun s1 s2 a1 a2 a3 a4 a5 => ?_⟩
    · unfold setR at hr'
      split at hr'
      · cases hr'
      · exact h4 s' hs' hr'
    · unfold setR at hr'
      split at hr'
      · next e =>
        subst e
        injection hr' with hr'
        subst hr'
        refine ⟨e1, by simpa using e2, e3, e4, ?_⟩
        obtain ⟨cr, r1, r2, r3⟩ := IRowK.below e5 hb (IRowK.lt e5)
        refine ⟨_, heap_setCell_same _ _ _ _ _ _ r1, by simpa using r2, fun k hk hk2 => ?_⟩
        rw [Array.getElem?_setIfInBounds]
        by_cases e : i = k
        · subst e
          rw [if_pos rfl, if_pos (by omega)]
          simp
        · rw [if_neg e, r3 k (by simpa using hk) (by simpa using hk), List.getElem_set_ne e]
      · next e =>
        obtain ⟨f1, f2, f3, f4, f5⟩ := h5 s' zs' hs' hr'
        refine ⟨f1, f2, f3, f4, IRowK.far (IRowK.below f5 hb (IRowK.lt f5)) ?_⟩
        exact h6 s' s hs' hs e (by rw [hr']; simp) (by rw [hr]; simp)
    · refine h6 s1 s2 a1 a2 a3 ?_ ?_
      · unfold setR at a4
        split at a4
        · next e => subst e; rw [hr]; simp
        · exact a4
      · unfold setR at a5
        split at a5
        · next e => subst e; rw [hr]; simp
        · exact a5
/-- A row that is made, and stored. -/
theorem TP.row {W : World} {lo : Nat → Nat} {g S n : Nat} {rows : Nat → Option (List Int)} (h : TP W lo g S n rows) {s : Nat} (hs : s < S) :
    TP ((W.alloc (.cells (madeCells (Value.int .i64 0).cells n) 2)).setCell ⟨g, s, none⟩ (.slice (some ⟨W.heap.size, 0, none⟩) n n)) (fun j => if j = s then W.heap.size else lo j) g S n (setR rows s (List.replicate n 0)) := by
  have hlt := h.lt
  obtain ⟨cs, bs, h1, h2, h4, h5, h6⟩ := h
  have hb : Below W.heap.size W (W.alloc (.cells (madeCells (Value.int .i64 0).cells n) 2)) := (Below.refl _ _).alloc (Nat.le_refl _) _
  have h1' := (hb.block g hlt).trans h1
  refine ⟨_, fun j => if j = s then W.heap.size else bs j, heap_setCell_same _ _ _ _ _ _ h1', by simpa using h2, fun s' hs' hr' => ?_, fun s' zs' hs' hr' => ?_, fun s1 s2 a1 a2 a3 a4 a5 => ?_⟩
  · unfold setR at hr'
    split at hr'
    · cases hr'
    · next e =>
      rw [Array.getElem?_setIfInBounds, if_neg (by omega)]
      exact h4 s' hs' hr'
  · unfold setR at hr'
    split at hr'
    · next e =>
      subst e
      injection hr' with hr'
      subst hr'
      refine ⟨?_, by simp, ?_, ?_, ?_⟩
      · rw [Array.getElem?_setIfInBounds, if_pos rfl, if_pos (by omega)]; simp only [↓reduceIte]
      · simp only [↓reduceIte]; exact Nat.le_refl _
      · simp only [↓reduceIte]; omega
      · simp only [↓reduceIte]
        refine IRowK.far ?_ (show W.heap.size ≠ g by omega)
        refine ⟨_, heap_alloc_new W _, by rw [size_madeCells]; simp, fun k hk _ => ?_⟩
        rw [Array.getElem?_eq_getElem (by rw [size_madeCells]; simpa using hk)]
        simp [madeCells, Value.cells, Nat.mod_one]
    · next e =>
      obtain ⟨f1, f2, f3, f4, f5⟩ := h5 s' zs' hs' hr'
      simp only [if_neg e]
      refine ⟨?_, f2, f3, f4, IRowK.far (IRowK.below f5 hb (IRowK.lt f5)) f4⟩
      rw [Array.getElem?_setIfInBounds, if_neg (by omega)]
      exact f1
  · have b1 : ∀ j, j ≠ s → j < S → setR rows s (List.replicate n 0) j ≠ none → bs j < W.heap.size := by
      intro j hj hj2 hn
      unfold setR at hn
      rw [if_neg hj] at hn
      obtain ⟨zs, hz⟩ := Option.ne_none_iff_exists'.1 hn
      exact IRowK.lt (h5 j zs hj2 hz).2.2.2.2
    show (if s1 = s then W.heap.size else bs s1) ≠ (if s2 = s then W.heap.size else bs s2)
    by_cases e1 : s1 = s
    · have e2 : s2 ≠ s := fun e => a3 (e1.trans e.symm)
      rw [if_pos e1, if_neg e2]
      have := b1 s2 e2 a2 a5
      omega
    · by_cases e2 : s2 = s
      · rw [if_neg e1, if_pos e2]
        have := b1 s1 e1 a1 a4
        omega
      · rw [if_neg e1, if_neg e2]
        unfold setR at a4 a5
        rw [if_neg e1] at a4
        rw [if_neg e2] at a5
        exact h6 s1 s2 a1 a2 a3 a4 a5
theorem TP.mono {W : World} {lo lo' : Nat → Nat} {g S n : Nat} {rows : Nat → Option (List Int)} (h : TP W lo g S n rows) (hl : ∀ s, s < S → lo' s ≤ lo s) : TP W lo' g S n rows := by
  obtain ⟨cs, bs, h1, h2, h4, h5, h6⟩ := h
  refine ⟨cs, bs, h1, h2, h4, fun s zs hs hr => ?_, h6⟩
  obtain ⟨e1, e2, e3, e4, e5⟩ := h5 s zs hs hr
  exact ⟨e1, e2, Nat.le_trans (hl s hs) e3, e4, e5⟩
theorem gw_set {a W : World} {g : Nat} (h : a.grownBy W (some g)) {b : Nat} (i : Nat) (u : Value) (hb : a.heap.size ≤ b ∨ g = b) : a.grownBy (W.setCell ⟨b, i, none⟩ u) (some g) :=
  ⟨h.os, h.tape, h.output, by simpa [World.setCell] using h.size, fun k hk hne => (Below.heap_setCell W ⟨b, i, none⟩ u k (by
    show k ≠ b
    rcases hb with hb | rfl
    · omega
    · intro e; exact hne (by rw [e]))).trans (h.block k hk hne)⟩
theorem gw_drew {a W : World} {g : Nat} (h : a.grownBy W (some g)) : a.grownBy W.drew (some g) := ⟨h.os, h.tape, h.output, h.size, h.block⟩
theorem gw_below {a W W' : World} {g : Nat} (h : a.grownBy W (some g)) (hb : Below W.heap.size W W') : a.grownBy W' (some g) :=
  ⟨hb.os.trans h.os, hb.tape.trans h.tape, hb.output.trans h.output, Nat.le_trans h.size hb.size, fun k hk hne => (hb.block k (Nat.lt_of_lt_of_le hk h.size)).trans (h.block k hk hne)⟩
theorem TP.congr {W : World} {lo : Nat → Nat} {g S n : Nat} {rows rows' : Nat → Option (List Int)} (h : TP W lo g S n rows) (he : ∀ s, s < S → rows s = rows' s) : TP W lo g S n rows' := by
  obtain ⟨cs, bs, h1, h2, h4, h5, h6⟩ := h
  exact ⟨cs, bs, h1, h2, fun s hs hr => h4 s hs ((he s hs).trans hr), fun s zs hs hr => h5 s zs hs ((he s hs).trans hr), fun s s' a1 a2 a3 a4 a5 => h6 s s' a1 a2 a3 (by rw [he s a1]; exact a4) (by rw [he s' a2]; exact a5)⟩
/-- When all rows are made, it is a result. -/
theorem TP.res {W : World} {lo g n : Nat} {t : List (List Int)} (h : TP W (fun _ => lo) g t.length n (fun s => some (t.getD s []))) (h3 : lo ≤ g) (hn : n ≤ maxLen) (hl : t.length ≤ maxLen) : ResT W lo W.heap.size (.slice (some ⟨g, 0, none⟩) t.length t.length) t := by
  obtain ⟨cs, bs, h1, h2, h4, h5, h6⟩ := h
  have hsz : cs.toList.length = t.length := by simpa using h2
  have val : ∀ (i : Nat) (v : Value), cs.toList[i]? = some v → i < t.length ∧ v = .slice (some ⟨bs i, 0, none⟩) n n := by
    intro i v hv
    have hi : i < t.length := by have := (List.getElem?_eq_some_iff.1 hv).1; omega
    have e := (h5 i _ hi rfl).1
    rw [Array.getElem?_toList] at hv
    rw [hv] at e
    injection e with e
    exact ⟨hi, e⟩
  refine ResT.of (vs := cs.toList) (gr := fun i => t.getD i []) hsz ⟨?_, fun i v hv => ?_, fun i j v v' hij hv hv' => ?_, fun i v hv => ?_⟩ (fun i _ => rfl)
  · refine ⟨by simp, .inr ⟨g, t.length, cs, by rw [hsz], h3, h1, by omega, hl, by omega, ?_⟩⟩
    rw [List.take_of_length_le (by omega)]
  · obtain ⟨hi, rfl⟩ := val i v hv
    obtain ⟨e1, e2, e3, e4, e5⟩ := h5 i _ hi rfl
    have := e5.ownsI e3 (by omega)
    rw [e2] at this
    show W.ownsRow lo _ 1 _ (t.getD i []).length _
    rw [e2]
    exact this
  · obtain ⟨hi, rfl⟩ := val i v hv
    obtain ⟨hj, rfl⟩ := val j v' hv'
    intro k hk hk2
    have e := h6 i j hi hj hij (by simp) (by simp)
    simp [Value.ownBlock] at hk hk2
    omega
  · obtain ⟨hi, rfl⟩ := val i v hv
    obtain ⟨e1, e2, e3, e4, e5⟩ := h5 i _ hi rfl
    intro k hk hk2
    simp [Value.ownBlock] at hk hk2
    omega
end Go.Proofs.Ytpamflkefgpdpaa
