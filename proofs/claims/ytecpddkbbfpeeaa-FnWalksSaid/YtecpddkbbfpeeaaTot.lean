/- The totals of a list, by the model and by the program: contracts. Condition: the list is no longer than a slice can be, its books' numbers lie within their kinds. -/
import Derived.Test.YtecpddkbbfpeeaaBooksOk
import Derived.Test.YtecpddkbbfpeeaaToBookS
import Derived.Test.YtecpddkbbfpeeaaQuiet
import Derived.Deep.Cut
import Derived.Deep.RegionWith
import Derived.Deep.CutRange
import Derived.StillTailTactics
namespace Go.Proofs.Ytecpddkbbfpeeaa
set_option linter.unusedSimpArgs false
set_option linter.unusedVariables false
set_option maxRecDepth 100000
open Go.RowKit

def totW (xs : List Bk) : Nat → Int
  | 0 => 0
  | k + 1 => totW xs k + (xs.getD k default).wi
def totH (xs : List Bk) : Nat → Int
  | 0 => 0
  | k + 1 => if (xs.getD k default).hi > totH xs k then (xs.getD k default).hi else totH xs k
def totE (xs : List Bk) : Nat → Int
  | 0 => 0
  | k + 1 => totE xs k + (xs.getD k default).we
def tW (xs : List Bk) : Int := if okB xs then totW xs xs.length else 0
def tH (xs : List Bk) : Int := if okB xs then totH xs xs.length else 0
def tE (xs : List Bk) : Int := if okB xs then totE xs xs.length else 0
def tCode (xs : List Bk) : Int := if okB xs then 0 else 1
theorem getD_in_books {xs : List Bk} {k : Nat} (hk : k < xs.length) : xs.getD k default = xs[k] := by simp [List.getD, List.getElem?_eq_getElem hk]
theorem totW_in (xs : List Bk) (wf : ∀ b ∈ xs, b.Wf) : ∀ k : Nat, k ≤ xs.length → -32768 * (k : Int) ≤ totW xs k ∧ totW xs k ≤ 32767 * (k : Int)
  | 0, _ => by simp [totW]
  | k + 1, h => by
    have ih := totW_in xs wf k (by omega)
    have b := (wf xs[k] (List.getElem_mem (by omega))).wi
    rw [totW, getD_in_books (by omega)]
    omega
theorem totE_in (xs : List Bk) (wf : ∀ b ∈ xs, b.Wf) : ∀ k : Nat, k ≤ xs.length → -32768 * (k : Int) ≤ totE xs k ∧ totE xs k ≤ 32767 * (k : Int)
  | 0, _ => by simp [totE]
  | k + 1, h => by
    have ih := totE_in xs wf k (by omega)
    have b := (wf xs[k] (List.getElem_mem (by omega))).we
    rw [totE, getD_in_books (by omega)]
    omega

def B3 (w : World) (g : Nat) (a c d : Int) : Prop := w.heap[g]? = some (.cells #[.int .i64 a, .int .i64 c, .int .i64 d] 36 (0, 0))
theorem B3.lt {w : World} {g : Nat} {a c d : Int} (h : B3 w g a c d) : g < w.heap.size := (Array.getElem?_eq_some_iff.1 h).1
theorem B3.c0 {w : World} {g : Nat} {a c d : Int} (h : B3 w g a c d) : w.cell? ⟨g, 0, none⟩ = some (.int .i64 a) := cell_of_row w g 0 _ _ _ h
theorem B3.c1 {w : World} {g : Nat} {a c d : Int} (h : B3 w g a c d) : w.cell? ⟨g, 1, none⟩ = some (.int .i64 c) := cell_of_row w g 1 _ _ _ h
theorem B3.c2 {w : World} {g : Nat} {a c d : Int} (h : B3 w g a c d) : w.cell? ⟨g, 2, none⟩ = some (.int .i64 d) := cell_of_row w g 2 _ _ _ h
theorem B3.fz {w : World} {g : Nat} {a c d : Int} (h : B3 w g a c d) (i : Nat) : w.frozen? ⟨g, i, none⟩ = false := frozen_of_row w g i _ _ h
theorem B3.below {w w' : World} {n g : Nat} {a c d : Int} (h : B3 w g a c d) (hb : Below n w w') (hg : g < n) : B3 w' g a c d := (hb.block g hg).trans h
theorem B3.s0 {w : World} {g : Nat} {a c d : Int} (h : B3 w g a c d) (x : Int) : B3 (w.setCell ⟨g, 0, none⟩ (.int .i64 x)) g x c d := by unfold B3; rw [heap_setCell_same _ _ _ _ _ _ h]; rfl
theorem B3.s1 {w : World} {g : Nat} {a c d : Int} (h : B3 w g a c d) (x : Int) : B3 (w.setCell ⟨g, 1, none⟩ (.int .i64 x)) g a x d := by unfold B3; rw [heap_setCell_same _ _ _ _ _ _ h]; rfl
theorem B3.s2 {w : World} {g : Nat} {a c d : Int} (h : B3 w g a c d) (x : Int) : B3 (w.setCell ⟨g, 2, none⟩ (.int .i64 x)) g a c x := by unfold B3; rw [heap_setCell_same _ _ _ _ _ _ h]; rfl

/-- The two rows of a walk: what is given back stands at the first new place, what is added up at the second. -/
structure T3 (w wr : World) (a c d : Int) : Prop where
  res : B3 wr w.heap.size 0 0 0
  row : B3 wr (w.heap.size + 1) a c d
  low : Below w.heap.size w wr
theorem T3.drew {w wr : World} {a c d : Int} (h : T3 w wr a c d) : T3 w wr.drew a c d := ⟨h.res, h.row, h.low.drew⟩
theorem T3.next {w wr w1 : World} {a c d : Int} (h : T3 w wr a c d) (hb : Below wr.heap.size wr w1) : T3 w w1 a c d := ⟨h.res.below hb h.res.lt, h.row.below hb h.row.lt, bnext h.low hb⟩
theorem T3.s0 {w wr : World} {a c d : Int} (h : T3 w wr a c d) (x : Int) : T3 w (wr.setCell ⟨w.heap.size + 1, 0, none⟩ (.int .i64 x)) x c d := ⟨(Below.heap_setCell _ _ _ _ (by simp)).trans h.res, h.row.s0 x, h.low.setCell (p := ⟨w.heap.size + 1, 0, none⟩) (by simp) _⟩
theorem T3.s1 {w wr : World} {a c d : Int} (h : T3 w wr a c d) (x : Int) : T3 w (wr.setCell ⟨w.heap.size + 1, 1, none⟩ (.int .i64 x)) a x d := ⟨(Below.heap_setCell _ _ _ _ (by simp)).trans h.res, h.row.s1 x, h.low.setCell (p := ⟨w.heap.size + 1, 1, none⟩) (by simp) _⟩
theorem T3.s2 {w wr : World} {a c d : Int} (h : T3 w wr a c d) (x : Int) : T3 w (wr.setCell ⟨w.heap.size + 1, 2, none⟩ (.int .i64 x)) a c x := ⟨(Below.heap_setCell _ _ _ _ (by simp)).trans h.res, h.row.s2 x, h.low.setCell (p := ⟨w.heap.size + 1, 2, none⟩) (by simp) _⟩
theorem T3.e0 {w wr : World} {a c d : Int} (h : T3 w wr a c d) {x y : Int} (e : x = y) : T3 w (wr.setCell ⟨w.heap.size + 1, 0, none⟩ (.int .i64 x)) y c d := by subst e; exact h.s0 x
theorem T3.e1 {w wr : World} {a c d : Int} (h : T3 w wr a c d) {x y : Int} (e : x = y) : T3 w (wr.setCell ⟨w.heap.size + 1, 1, none⟩ (.int .i64 x)) a y d := by subst e; exact h.s1 x
theorem T3.e2 {w wr : World} {a c d : Int} (h : T3 w wr a c d) {x y : Int} (e : x = y) : T3 w (wr.setCell ⟨w.heap.size + 1, 2, none⟩ (.int .i64 x)) a c y := by subst e; exact h.s2 x
theorem t3_start (w : World) : T3 w ((w.alloc (.cells #[.int .i64 0, .int .i64 0, .int .i64 0] 36)).alloc (.cells #[.int .i64 0, .int .i64 0, .int .i64 0] 36)) 0 0 0 :=
  ⟨heap_alloc2_old w _ _, heap_alloc2_new w _ _, ((Below.refl _ _).alloc (Nat.le_refl _) _).alloc (by simp) _⟩

/-- A book in a block of its own. -/
def B8 (w : World) (g : Nat) (b : Bk) : Prop := w.heap[g]? = some (.cells #[.int .i16 b.c, .int .u8 b.m0, .int .u8 b.m1, .int .u8 b.m2, .int .i16 b.v, .int .i16 b.wi, .int .i16 b.hi, .int .i16 b.we] 42 (0, 0))
theorem B8.lt {w : World} {g : Nat} {b : Bk} (h : B8 w g b) : g < w.heap.size := (Array.getElem?_eq_some_iff.1 h).1
theorem B8.below {w w' : World} {n g : Nat} {b : Bk} (h : B8 w g b) (hb : Below n w w') (hg : g < n) : B8 w' g b := (hb.block g hg).trans h
theorem B8.drew {w : World} {g : Nat} {b : Bk} (h : B8 w g b) : B8 w.drew g b := h
theorem B8.cells {w : World} {g : Nat} {b : Bk} (h : B8 w g b) : w.cell? ⟨g, 0, none⟩ = some (.int .i16 b.c) ∧ w.cell? ⟨g, 1, none⟩ = some (.int .u8 b.m0) ∧ w.cell? ⟨g, 2, none⟩ = some (.int .u8 b.m1) ∧ w.cell? ⟨g, 3, none⟩ = some (.int .u8 b.m2) ∧ w.cell? ⟨g, 4, none⟩ = some (.int .i16 b.v) ∧ w.cell? ⟨g, 5, none⟩ = some (.int .i16 b.wi) ∧ w.cell? ⟨g, 6, none⟩ = some (.int .i16 b.hi) ∧ w.cell? ⟨g, 7, none⟩ = some (.int .i16 b.we) :=
  ⟨cell_of_row w g 0 _ _ _ h, cell_of_row w g 1 _ _ _ h, cell_of_row w g 2 _ _ _ h, cell_of_row w g 3 _ _ _ h, cell_of_row w g 4 _ _ _ h, cell_of_row w g 5 _ _ _ h, cell_of_row w g 6 _ _ _ h, cell_of_row w g 7 _ _ _ h⟩
theorem B8.set {w : World} {g g' : Nat} {b : Bk} (h : B8 w g b) (hne : g ≠ g') (i : Nat) (v : Value) : B8 (w.setCell ⟨g', i, none⟩ v) g b := (Below.heap_setCell _ _ _ _ (by simpa using hne)).trans h

set_option maxHeartbeats 1000000 in
theorem l00Max_any (a b m : Int) (hm : (if a < b then b else a) = m) (w : World) : Calls Try.prog 49 #[.int .i64 a, .int .i64 b] w fun e w' => e = .returned (.int .i64 m) ∧ w = w' := by
  by_cases h : a > b
  · rw [if_neg (by omega)] at hm
    subst hm
    go_enter Try.func49, Try.ntmps49
    go_wp2
    go_ret
    exact ⟨rfl, rfl⟩
  · have hm : b = m := by
      by_cases h2 : a < b
      · rw [if_pos h2] at hm; exact hm
      · rw [if_neg h2] at hm; omega
    subst hm
    go_enter Try.func49, Try.ntmps49
    go_wp2
    go_ret
    exact ⟨rfl, rfl⟩

set_option maxHeartbeats 400000 in
theorem wideOf_any (b : Bk) (hb : b.Wf) (w : World) :
    Calls Try.prog 31 #[.agg #[.int .i16 b.c, .int .u8 b.m0, .int .u8 b.m1, .int .u8 b.m2, .int .i16 b.v, .int .i16 b.wi, .int .i16 b.hi, .int .i16 b.we]] w fun e w' => e = .returned (.int .i64 b.wi) ∧ Below w.heap.size w w' := by
  obtain ⟨⟨c1, c2⟩, ⟨x1, x2⟩, ⟨y1, y2⟩, ⟨z1, z2⟩, ⟨v1, v2⟩, ⟨i1, i2⟩, ⟨j1, j2⟩, ⟨k1, k2⟩⟩ := hb
  go_enter Try.func31, Try.ntmps31
  go_wp2
  go_ret
  exact ⟨rfl, by go_grown⟩

set_option maxHeartbeats 400000 in
theorem highOf_any (b : Bk) (hb : b.Wf) (w : World) :
    Calls Try.prog 35 #[.agg #[.int .i16 b.c, .int .u8 b.m0, .int .u8 b.m1, .int .u8 b.m2, .int .i16 b.v, .int .i16 b.wi, .int .i16 b.hi, .int .i16 b.we]] w fun e w' => e = .returned (.int .i64 b.hi) ∧ Below w.heap.size w w' := by
  obtain ⟨⟨c1, c2⟩, ⟨x1, x2⟩, ⟨y1, y2⟩, ⟨z1, z2⟩, ⟨v1, v2⟩, ⟨i1, i2⟩, ⟨j1, j2⟩, ⟨k1, k2⟩⟩ := hb
  go_enter Try.func35, Try.ntmps35
  go_wp2
  go_ret
  exact ⟨rfl, by go_grown⟩

set_option maxHeartbeats 400000 in
theorem weightOf_any (b : Bk) (hb : b.Wf) (w : World) :
    Calls Try.prog 32 #[.agg #[.int .i16 b.c, .int .u8 b.m0, .int .u8 b.m1, .int .u8 b.m2, .int .i16 b.v, .int .i16 b.wi, .int .i16 b.hi, .int .i16 b.we]] w fun e w' => e = .returned (.int .i64 b.we) ∧ Below w.heap.size w w' := by
  obtain ⟨⟨c1, c2⟩, ⟨x1, x2⟩, ⟨y1, y2⟩, ⟨z1, z2⟩, ⟨v1, v2⟩, ⟨i1, i2⟩, ⟨j1, j2⟩, ⟨k1, k2⟩⟩ := hb
  go_enter Try.func32, Try.ntmps32
  go_wp2
  go_ret
  exact ⟨rfl, by go_grown⟩

set_option maxHeartbeats 4000000 in
theorem totals_any (v : Value) (xs : List Bk) (wf : ∀ b ∈ xs, b.Wf) (w : World) (hs : SliceOf w v xs) (hm : xs.length ≤ maxLen) :
    Calls Try.prog 14 #[v] w fun e w' => e = .returned (.tuple #[.agg #[.int .i64 (tW xs), .int .i64 (tH xs), .int .i64 (tE xs)], .int .i64 (tCode xs)]) ∧ Below w.heap.size w w' := by
  have HS := Lib.hid hs
  have WF := Lib.hid wf
  obtain ⟨A0, c0, rfl, hs0⟩ := hs
  have HB := Lib.hid hs0
  clear wf hs0
  have X0 := Lib.hid (t3_start w)
  cases hk : okB xs
  · have E0 := Lib.hid (show tW xs = 0 ∧ tH xs = 0 ∧ tE xs = 0 ∧ tCode xs = 1 by unfold tW tH tE tCode; rw [hk]; exact ⟨rfl, rfl, rfl, rfl⟩)
    go_enter Try.func14, Try.ntmps14
    go_wp2_with fail
    generalize (w.alloc _).alloc _ = W at X0 ⊢
    refine (validBooks_any _ xs _ (HS.out.below X0.out.low) hm).mono ?_
    rintro e w1 ⟨rfl, h1⟩
    have X1 := X0.out.next h1
    have a0 := X1.row.c0; have a1 := X1.row.c1; have a2 := X1.row.c2
    have r0 := X1.res.c0; have r1 := X1.res.c1; have r2 := X1.res.c2
    have fz := X1.res.fz
    have XX := Lib.hid X1
    clear X1
    rw [hk]
    go_wp2
    refine bodyPost_ret (v := .tuple #[.agg #[.int .i64 0, .int .i64 0, .int .i64 0], .int .i64 1]) (by simp [results, Try.results14, go_sem, r0, r1, r2]) rfl ⟨by rw [E0.out.1, E0.out.2.1, E0.out.2.2.1, E0.out.2.2.2], ?_⟩
    exact (Below.setCell (Below.setCell (Below.setCell XX.out.low (p := ⟨w.heap.size, 0, none⟩) (Nat.le_refl _) _) (p := ⟨w.heap.size, 1, none⟩) (Nat.le_refl _) _) (p := ⟨w.heap.size, 2, none⟩) (Nat.le_refl _) _)
  · have E0 := Lib.hid (show tW xs = totW xs xs.length ∧ tH xs = totH xs xs.length ∧ tE xs = totE xs xs.length ∧ tCode xs = 0 by unfold tW tH tE tCode; rw [hk]; exact ⟨rfl, rfl, rfl, rfl⟩)
    have h60 : xs.length ≤ 60 := by unfold okB at hk; simp at hk; exact hk.2
    go_enter Try.func14, Try.ntmps14
    go_wp2_with fail
    generalize (w.alloc _).alloc _ = W at X0 ⊢
    refine (validBooks_any _ xs _ (HS.out.below X0.out.low) hm).mono ?_
    rintro e w1 ⟨rfl, h1⟩
    have X1 := Lib.hid (X0.out.next h1)
    clear h1
    rw [hk]
    clear hk
    go_wp2
    go_loopw [13] (fun i wr => ∃ k : Nat, k ≤ xs.length ∧ i = .int .i64 k ∧ T3 w wr (totW xs k) (totH xs k) (totE xs k)) (fun i _ => xs.length - (intOf i).toNat)
    case atStart => exact ⟨0, Nat.zero_le _, rfl, X1.out⟩
    case round =>
      obtain ⟨k, hk, rfl, ht⟩ := hrel
      have HT := Lib.hid ht
      have hb := HT.out.low
      by_cases hlt : k < xs.length
      · obtain ⟨ga, oa, rfl, hga, hat⟩ := HB.out (by omega)
        have HAT := Lib.hid hat
        have wb := Lib.hid (WF.out xs[k] (List.getElem_mem hlt))
        have i0 := totW_in xs WF.out k hk
        have i2 := totE_in xs WF.out k hk
        have i0' := totW_in xs WF.out (k + 1) hlt
        have i2' := totE_in xs WF.out (k + 1) hlt
        have e0 : totW xs (k + 1) = totW xs k + xs[k].wi := by rw [totW, getD_in_books hlt]
        have e2 : totE xs (k + 1) = totE xs k + xs[k].we := by rw [totE, getD_in_books hlt]
        have n1 : (if totH xs k < xs[k].hi then xs[k].hi else totH xs k) = totH xs (k + 1) := by rw [totH, getD_in_books hlt]
        have n0 : wrap64 (totW xs k + xs[k].wi) = totW xs (k + 1) := by rw [e0]; unfold wrap64; omega
        have n2 : wrap64 (totE xs k + xs[k].we) = totE xs (k + 1) := by rw [e2]; unfold wrap64; omega
        have bw := wb.out.wi
        have bh := wb.out.hi
        have be := wb.out.we
        have z0 : IntKind.i64.wrap xs[k].wi = xs[k].wi := IntWalk.i64_in _ (by omega)
        have z1 : IntKind.i64.wrap xs[k].hi = xs[k].hi := IntWalk.i64_in _ (by omega)
        have z2 : IntKind.i64.wrap xs[k].we = xs[k].we := IntWalk.i64_in _ (by omega)
        have m0 : IntKind.i64.wrap (totW xs k + xs[k].wi) = totW xs (k + 1) := by rw [e0]; exact IntWalk.i64_in _ (by omega)
        have m2 : IntKind.i64.wrap (totE xs k + xs[k].we) = totE xs (k + 1) := by rw [e2]; exact IntWalk.i64_in _ (by omega)
        clear hat ht e0 e2 i0 i2 i0' i2'
        obtain ⟨p0, p1, p2, p3, p4, p5, p6, p7⟩ := booksAt_some (HAT.out.below hb hga) hlt
        have HX := Lib.hid (fun W1 (h : wr.alloc (.cells #[.int .i16 xs[k].c, .int .u8 xs[k].m0, .int .u8 xs[k].m1, .int .u8 xs[k].m2, .int .i16 xs[k].v, .int .i16 xs[k].wi, .int .i16 xs[k].hi, .int .i16 xs[k].we] 42) = W1) => show T3 w W1 (totW xs k) (totH xs k) (totE xs k) ∧ B8 W1 wr.heap.size xs[k] from by subst h; exact ⟨HT.out.next ((Below.refl _ _).alloc (Nat.le_refl _) _), heap_alloc_new wr _⟩)
        have gn := HT.out.row.lt
        go_wp2
        clear p0 p1 p2 p3 p4 p5 p6 p7
        generalize hW1 : wr.alloc _ = W1
        obtain ⟨hx, hx8⟩ := HX.out W1 hW1
        have HC := Lib.hid (And.intro hx hx8)
        clear hx hx8 hW1 HX
        obtain ⟨p0, p1, p2, p3, p4, p5, p6, p7⟩ := HC.out.2.cells
        have c0 := HC.out.1.row.c0
        have fz := HC.out.1.row.fz
        go_cut [13] from 13 to 35 (fun s13 wx => s13 = .int .i64 (k : Int) ∧ T3 w wx (totW xs (k + 1)) (totH xs k) (totE xs k) ∧ B8 wx wr.heap.size xs[k])
        case first =>
          go_region_with (go_at_call 31; refine (wideOf_any xs[k] wb.out _).mono ?_; rintro e w9 ⟨rfl, h9⟩; have c9 := (HC.out.1.drew.next h9).row.c0; have fz9 := (HC.out.1.drew.next h9).row.fz)
          all_goals (go_wp2_with fail; go_meet; exact ⟨rfl, (HC.out.1.drew.next h9).e0 (by first | rfl | exact m0 | exact n0), (B8.below HC.out.2.drew h9 HC.out.2.drew.lt).set (by omega) _ _⟩)
        clear p0 p1 p2 p3 p4 p5 p6 p7 c0 fz HC
        case rest =>
        obtain ⟨rfl, hcut⟩ := hcut
        have HC := Lib.hid hcut
        clear hcut
        obtain ⟨p0, p1, p2, p3, p4, p5, p6, p7⟩ := HC.out.2.cells
        have c1 := HC.out.1.row.c1
        have fz := HC.out.1.row.fz
        go_wp2
        go_cut [13] from 13 to 35 (fun s13 wx => s13 = .int .i64 (k : Int) ∧ T3 w wx (totW xs (k + 1)) (totH xs (k + 1)) (totE xs k) ∧ B8 wx wr.heap.size xs[k])
        case first =>
          go_region_with (go_at_call 35; refine (highOf_any xs[k] wb.out _).mono ?_; rintro e w9 ⟨rfl, h9⟩; have c9 := (HC.out.1.drew.next h9).row.c1; have fz9 := (HC.out.1.drew.next h9).row.fz)
          all_goals (go_wp2_with fail; go_meet; exact ⟨rfl, (HC.out.1.drew.next h9).e1 (by first | rfl | exact n1), (B8.below HC.out.2.drew h9 HC.out.2.drew.lt).set (by omega) _ _⟩)
        clear p0 p1 p2 p3 p4 p5 p6 p7 c1 fz HC
        case rest =>
        obtain ⟨rfl, hcut⟩ := hcut
        have HC := Lib.hid hcut
        clear hcut
        obtain ⟨p0, p1, p2, p3, p4, p5, p6, p7⟩ := HC.out.2.cells
        have c2 := HC.out.1.row.c2
        have fz := HC.out.1.row.fz
        go_wp2
        go_region_with (go_at_call 32; refine (weightOf_any xs[k] wb.out _).mono ?_; rintro e w9 ⟨rfl, h9⟩; have c9 := (HC.out.1.drew.next h9).row.c2; have fz9 := (HC.out.1.drew.next h9).row.fz)
        all_goals
          go_wp2
          go_roundw
          case rel => exact ⟨k + 1, by omega, by go_num, (HC.out.1.drew.next h9).e2 (by first | rfl | exact m2 | exact n2)⟩
          case measure => simp [intOf]; omega
      · obtain rfl : k = xs.length := by omega
        have a0 := HT.out.row.c0; have a1 := HT.out.row.c1; have a2 := HT.out.row.c2
        have r0 := HT.out.res.c0; have r1 := HT.out.res.c1; have r2 := HT.out.res.c2
        have fz := HT.out.res.fz
        clear ht
        go_wp2
        refine bodyPost_ret (v := .tuple #[.agg #[.int .i64 (totW xs xs.length), .int .i64 (totH xs xs.length), .int .i64 (totE xs xs.length)], .int .i64 0]) (by simp [results, Try.results14, go_sem, r0, r1, r2]) rfl ⟨by rw [E0.out.1, E0.out.2.1, E0.out.2.2.1, E0.out.2.2.2], ?_⟩
        exact (Below.setCell (Below.setCell (Below.setCell hb (p := ⟨w.heap.size, 0, none⟩) (Nat.le_refl _) _) (p := ⟨w.heap.size, 1, none⟩) (Nat.le_refl _) _) (p := ⟨w.heap.size, 2, none⟩) (Nat.le_refl _) _)

end Go.Proofs.Ytecpddkbbfpeeaa
