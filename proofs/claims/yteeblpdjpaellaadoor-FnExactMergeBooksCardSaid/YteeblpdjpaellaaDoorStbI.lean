/- Ranges of books exchanged and turned by the library's stable sort: contracts. Condition: at most 1048576 books in a block of their own. -/
import Derived.Test.YteeblpdjpaellaaDoorStab
import Derived.Test.YteeblpdjpaellaaDoorRowP
import Derived.BigRegion
import Derived.RegionTactic
namespace Go.Proofs.YteeblpdjpaellaaDoor
set_option linter.unusedSimpArgs false
set_option linter.unusedVariables false
set_option maxRecDepth 100000
open Go.RowKit Stab

/-- Block g begins with these n books. -/
def RowS (cap : Nat) (w : World) (g n : Nat) (l : List Bk) : Prop := l.length = n ∧ n ≤ cap ∧ RowK w g l n cap
theorem RowS.lt {w : World} {cap g n : Nat} {l : List Bk} (h : RowS cap w g n l) : g < w.heap.size := by
  obtain ⟨-, -, h⟩ := h
  exact h.lt
theorem RowS.at_ {w : World} {cap g n : Nat} {l : List Bk} (h : RowS cap w g n l) : BooksAt w g 0 l := by
  obtain ⟨hl, -, h⟩ := h
  subst hl
  exact h.at_
theorem RowS.cells {w : World} {cap g n : Nat} {l : List Bk} (h : RowS cap w g n l) (i : Nat) (hi : i < n) :
    w.cell? ⟨g, i * 8, none⟩ = some (.int .i16 (l.getD i default).c) ∧ w.cell? ⟨g, i * 8 + 1, none⟩ = some (.int .u8 (l.getD i default).m0) ∧ w.cell? ⟨g, i * 8 + 2, none⟩ = some (.int .u8 (l.getD i default).m1) ∧ w.cell? ⟨g, i * 8 + 3, none⟩ = some (.int .u8 (l.getD i default).m2) ∧
    w.cell? ⟨g, i * 8 + 4, none⟩ = some (.int .i16 (l.getD i default).v) ∧ w.cell? ⟨g, i * 8 + 5, none⟩ = some (.int .i16 (l.getD i default).wi) ∧ w.cell? ⟨g, i * 8 + 6, none⟩ = some (.int .i16 (l.getD i default).hi) ∧ w.cell? ⟨g, i * 8 + 7, none⟩ = some (.int .i16 (l.getD i default).we) := by
  have hi' : i < l.length := by rw [h.1]; exact hi
  have e : l.getD i default = l[i] := by simp [List.getD, List.getElem?_eq_getElem hi']
  have q := booksAt_some h.at_ hi'
  rw [Nat.zero_add] at q
  rw [e]
  exact q
theorem RowS.frozen {w : World} {cap g n : Nat} {l : List Bk} (h : RowS cap w g n l) (o : Nat) : w.frozen? ⟨g, o, none⟩ = false := by
  obtain ⟨-, -, h⟩ := h
  exact h.frozen o
theorem RowS.put {w : World} {cap g n : Nat} {l : List Bk} (h : RowS cap w g n l) (i : Nat) (z : Bk) (hi : i < n) : RowS cap (set8 w g (i * 8) z) g n (l.set i z) := by
  obtain ⟨hl, hN, h⟩ := h
  exact ⟨by simpa using hl, hN, h.putS i (by omega) (by omega) z⟩
theorem RowS.drew {w : World} {cap g n : Nat} {l : List Bk} (h : RowS cap w g n l) : RowS cap w.drew g n l := h
theorem RowS.below {w w' : World} {cap g n : Nat} {l : List Bk} (h : RowS cap w g n l) (hb : Below w.heap.size w w') : RowS cap w' g n l := by
  have hlt := h.lt
  obtain ⟨hl, hN, h⟩ := h
  exact ⟨hl, hN, h.below hb hlt⟩
theorem RowS.sw {w : World} {cap g n : Nat} {l : List Bk} (h : RowS cap w g n l) (i j : Nat) (hi : i < n) (hj : j < n) : RowS cap (World.drew (set8 (set8 w g (i * 8) (l.getD j default)) g (j * 8) (l.getD i default))) g n (Stab.sw l i j) :=
  ((h.put i _ hi).put j _ hj).drew
theorem gset {a w : World} {g : Nat} (h : a.grownBy w (some g)) (o : Nat) (u : Value) : a.grownBy (w.setCell ⟨g, o, none⟩ u) (some g) :=
  ⟨h.os, h.tape, h.output, by simpa [World.setCell] using h.size, fun i hi hne => (Below.heap_setCell w ⟨g, o, none⟩ u i (by rintro rfl; exact hne rfl)).trans (h.block i hi hne)⟩
theorem gset8 {a w : World} {g : Nat} (h : a.grownBy w (some g)) (o : Nat) (z : Bk) : a.grownBy (set8 w g o z) (some g) :=
  gset (gset (gset (gset (gset (gset (gset (gset h _ _) _ _) _ _) _ _) _ _) _ _) _ _) _ _
theorem gdrew {a w : World} {row : Option Nat} (h : a.grownBy w row) : a.grownBy w.drew row := ⟨h.os, h.tape, h.output, h.size, h.block⟩

set_option maxHeartbeats 4000000 in
theorem swapRange_any (g n cap a b k : Nat) (F : Value) (l : List Bk) (w : World) (h : RowS cap w g n l) (ha : a + k ≤ n) (hb : b + k ≤ n) (hab : a + k ≤ b) (hn : n ≤ 1048576) :
    Calls Tryd.prog 100 #[.slice (some ⟨g, 0, none⟩) n cap, .int .i64 (a : Int), .int .i64 (b : Int), .int .i64 (k : Int), F] w fun e w' => e = .returned (.tuple #[]) ∧ RowS cap w' g n (swR l a b k) ∧ w.grownBy w' (some g) := by
  have HR := Lib.hid h
  clear h
  go_enter Tryd.func100, Tryd.ntmps100
  go_wp2
  go_loopw [10] (fun i_ wr => ∃ i : Nat, i ≤ k ∧ i_ = .int .i64 (i : Int) ∧ RowS cap wr g n (swR l a b i) ∧ w.grownBy wr (some g)) (fun i_ _ => k - (intOf i_).toNat)
  case atStart => exact ⟨0, Nat.zero_le _, rfl, HR.out, World.grownBy.refl w _⟩
  case round =>
    obtain ⟨i, hi, rfl, hr, hg⟩ := hrel
    have HG := Lib.hid hg
    have HW := Lib.hid hr
    have ES := Lib.hid (show swR l a b (i + 1) = Stab.sw (swR l a b i) (a + i) (b + i) from rfl)
    clear hg
    by_cases hlt : i < k
    · generalize swR l a b i = l' at hr HW ES
      obtain ⟨p, hp⟩ : ∃ p : Nat, p = a + i := ⟨_, rfl⟩
      obtain ⟨q, hq⟩ : ∃ q : Nat, q = b + i := ⟨_, rfl⟩
      have hpn : p < n := by omega
      have hqn : q < n := by omega
      have hpq : ¬ p = q := by omega
      have w1 : (a : Int) + (i : Int) = (p : Int) := by omega
      have w2 : (b : Int) + (i : Int) = (q : Int) := by omega
      rw [← hp, ← hq] at ES
      obtain ⟨c1_0, c1_1, c1_2, c1_3, c1_4, c1_5, c1_6, c1_7⟩ := hr.cells p hpn
      obtain ⟨c2_0, c2_1, c2_2, c2_3, c2_4, c2_5, c2_6, c2_7⟩ := hr.cells q hqn
      have fz := hr.frozen
      have SW := Lib.hid (HW.out.sw p q hpn hqn)
      generalize l'.getD p default = x at c1_0 c1_1 c1_2 c1_3 c1_4 c1_5 c1_6 c1_7 SW
      generalize l'.getD q default = y at c2_0 c2_1 c2_2 c2_3 c2_4 c2_5 c2_6 c2_7 SW
      clear hr hp hq
      go_wp2
      go_region
      go_wp2
      go_roundw
      case rel => exact ⟨i + 1, by omega, by go_num, by rw [ES.out]; show RowS cap (World.drew (set8 (set8 wr g (p * 8) y) g (q * 8) x)) g n _; exact SW.out, by show World.grownBy _ (World.drew (set8 (set8 wr g (p * 8) y) g (q * 8) x)) _; exact gdrew (gset8 (gset8 HG.out _ _) _ _)⟩
      case measure => simp [intOf]; omega
    · obtain rfl : i = k := by omega
      clear hr
      go_wp2
      go_returns
      exact ⟨rfl, HW.out, HG.out⟩

set_option maxHeartbeats 4000000 in
theorem rotate_any (g n cap a m b : Nat) (F : Value) (l : List Bk) (w : World) (h : RowS cap w g n l) (ha : a < m) (hm : m < b) (hb : b ≤ n) (hn : n ≤ 1048576) :
    Calls Tryd.prog 98 #[.slice (some ⟨g, 0, none⟩) n cap, .int .i64 (a : Int), .int .i64 (m : Int), .int .i64 (b : Int), F] w fun e w' => e = .returned (.tuple #[]) ∧ RowS cap w' g n (rotF (b - a) l m (m - a) (b - m)) ∧ w.grownBy w' (some g) := by
  have HR := Lib.hid h
  clear h
  obtain ⟨i0, hi0⟩ : ∃ i0 : Nat, i0 = m - a := ⟨_, rfl⟩
  obtain ⟨j0, hj0⟩ : ∃ j0 : Nat, j0 = b - m := ⟨_, rfl⟩
  rw [← hi0, ← hj0]
  have w1 : (m : Int) - (a : Int) = (i0 : Int) := by omega
  have w2 : (b : Int) - (m : Int) = (j0 : Int) := by omega
  have HT := Lib.hid (show ∃ T, rotF (b - a) l m i0 j0 = T from ⟨_, rfl⟩)
  obtain ⟨T, hT⟩ := HT.out
  rw [hT]
  have HT := Lib.hid hT
  have b1 : i0 ≤ m := by omega
  have b2 : m + j0 ≤ n := by omega
  have b3 : 0 < i0 := by omega
  have b4 : 0 < j0 := by omega
  have b5 := Lib.hid (show i0 + j0 ≤ b - a by omega)
  clear hT hi0 hj0
  go_enter Tryd.func98, Tryd.ntmps98
  go_wp2
  clear w1 w2
  go_loopw [10, 11] (fun i_ j_ wr => ∃ (i j f : Nat) (l' : List Bk), i_ = .int .i64 (i : Int) ∧ j_ = .int .i64 (j : Int) ∧ 0 < i ∧ 0 < j ∧ i ≤ m ∧ m + j ≤ n ∧ i + j ≤ f ∧ rotF f l' m i j = T ∧ RowS cap wr g n l' ∧ w.grownBy wr (some g)) (fun i_ j_ _ => (intOf i_).toNat + (intOf j_).toNat)
  case atStart => exact ⟨i0, j0, b - a, l, rfl, rfl, b3, b4, b1, b2, b5.out, HT.out, HR.out, World.grownBy.refl w _⟩
  case round =>
    obtain ⟨i, j, f, l', rfl, rfl, hi, hj, him, hjn, hf, hT, hr, hg⟩ := hrel
    have HG := Lib.hid hg
    have HW := Lib.hid hr
    obtain ⟨f', hf'⟩ : ∃ f', f = f' + 1 := ⟨f - 1, by omega⟩
    subst hf'
    have HT := Lib.hid hT
    have HF := Lib.hid hf
    clear hg hr hT
    obtain ⟨p, hp⟩ : ∃ p : Nat, p = m - i := ⟨_, rfl⟩
    have w1 : (m : Int) - (i : Int) = (p : Int) := by omega
    by_cases e : i = j
    · subst e
      have d0 : ((i : Int) != (i : Int)) = false := by simp
      have E := Lib.hid (show swR l' p m i = T by rw [← HT.out, rotF, if_pos rfl, hp])
      have CS := Lib.hid (fun W hR => swapRange_any g n cap p m i F l' W hR (by omega) hjn (by omega) hn)
      clear hp hf
      go_wp2_with fail
      refine (CS.out _ HW.out).mono ?_
      rintro e w1 ⟨rfl, h1, k1⟩
      rw [E.out] at h1
      have H1 := Lib.hid h1
      have K1 := Lib.hid k1
      clear h1 k1
      go_wp2
      go_returns
      exact ⟨rfl, H1.out, HG.out.trans K1.out⟩
    · have d0 : ((i : Int) != (j : Int)) = true := by rw [bne_iff_ne]; omega
      by_cases hgt : j < i
      · have hgt' : (j : Int) < (i : Int) := by omega
        obtain ⟨i', hi'⟩ : ∃ i' : Nat, i' = i - j := ⟨_, rfl⟩
        have w2 : (i : Int) - (j : Int) = (i' : Int) := by omega
        have E := Lib.hid (show rotF f' (swR l' p m j) m i' j = T by rw [← HT.out, rotF, if_neg e, if_pos hgt, hp, hi'])
        have CS := Lib.hid (fun W hR => swapRange_any g n cap p m j F l' W hR (by omega) hjn (by omega) hn)
        have B := Lib.hid (show 0 < i' ∧ i' ≤ m ∧ i' + j ≤ f' ∧ i' < i by omega)
        clear hp hi' hf
        go_wp2_with fail
        refine (CS.out _ HW.out).mono ?_
        rintro e w1 ⟨rfl, h1, k1⟩
        have H1 := Lib.hid h1
        have K1 := Lib.hid k1
        clear h1 k1
        go_wp2
        go_roundw
        case rel => exact ⟨i', j, f', _, rfl, rfl, B.out.1, hj, B.out.2.1, hjn, B.out.2.2.1, E.out, H1.out, HG.out.trans K1.out⟩
        case measure => have := B.out; simp [intOf]; omega
      · have hgt' : ¬ ((j : Int) < (i : Int)) := by omega
        obtain ⟨j', hj'⟩ : ∃ j' : Nat, j' = j - i := ⟨_, rfl⟩
        obtain ⟨q, hq⟩ : ∃ q : Nat, q = m + j - i := ⟨_, rfl⟩
        have w2 : (j : Int) - (i : Int) = (j' : Int) := by omega
        have w3 : (m : Int) + (j : Int) - (i : Int) = (q : Int) := by omega
        have E := Lib.hid (show rotF f' (swR l' p q i) m i j' = T by rw [← HT.out, rotF, if_neg e, if_neg hgt, hp, hj', hq])
        have CS := Lib.hid (fun W hR => swapRange_any g n cap p q i F l' W hR (by omega) (by omega) (by omega) hn)
        have B := Lib.hid (show 0 < j' ∧ m + j' ≤ n ∧ i + j' ≤ f' ∧ j' < j by omega)
        clear hp hj' hq hf
        go_wp2_with fail
        refine (CS.out _ HW.out).mono ?_
        rintro e w1 ⟨rfl, h1, k1⟩
        have H1 := Lib.hid h1
        have K1 := Lib.hid k1
        clear h1 k1
        go_wp2
        go_roundw
        case rel => exact ⟨i, j', f', _, rfl, rfl, hi, B.out.1, him, B.out.2.1, B.out.2.2.1, E.out, H1.out, HG.out.trans K1.out⟩
        case measure => have := B.out; simp [intOf]; omega
end Go.Proofs.YteeblpdjpaellaaDoor
