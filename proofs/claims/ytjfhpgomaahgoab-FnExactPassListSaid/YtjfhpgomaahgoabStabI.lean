/- Ranges of ints exchanged and turned by the library's stable sort: contracts. Condition: at most 1048576 ints in a block of their own. -/
import Derived.Test.YtjfhpgomaahgoabStab
import Derived.BigRegion
import Derived.RegionTactic
namespace Go.Proofs.Ytjfhpgomaahgoab
set_option linter.unusedSimpArgs false
set_option linter.unusedVariables false
set_option maxRecDepth 100000
open Go.RowKit Stab

/-- Block g begins with these n ints. -/
def RowI (w : World) (g n : Nat) (l : List Int) : Prop := l.length = n ∧ ∃ cs : Array Value, w.heap[g]? = some (.cells cs 3 (0, 0)) ∧ n ≤ cs.size ∧ ∀ (i : Nat) (hi : i < l.length), cs[i]? = some (.int .i64 l[i])
theorem RowI.lt {w : World} {g n : Nat} {l : List Int} (h : RowI w g n l) : g < w.heap.size := by
  obtain ⟨-, cs, h, _⟩ := h
  exact (Array.getElem?_eq_some_iff.1 h).1
theorem RowI.cell {w : World} {g n : Nat} {l : List Int} (h : RowI w g n l) (i : Nat) (hi : i < n) : w.cell? ⟨g, i, none⟩ = some (.int .i64 (l.getD i default)) := by
  obtain ⟨hl, cs, h, _, h3⟩ := h
  rw [cell_of_row w g _ cs _ _ h, h3 i (by omega)]
  simp [List.getD, List.getElem?_eq_getElem (show i < l.length by omega)]
theorem RowI.frozen {w : World} {g n : Nat} {l : List Int} (h : RowI w g n l) (o : Nat) : w.frozen? ⟨g, o, none⟩ = false := by
  obtain ⟨-, cs, h, _⟩ := h
  exact frozen_of_row w g _ cs _ h
theorem RowI.put {w : World} {g n : Nat} {l : List Int} (h : RowI w g n l) (i : Nat) (z : Int) (hi : i < n) : RowI (w.setCell ⟨g, i, none⟩ (.int .i64 z)) g n (l.set i z) := by
  obtain ⟨hl, cs, h1, h2, h3⟩ := h
  refine ⟨by simpa using hl, _, heap_setCell_same _ _ _ _ _ _ h1, by simpa using h2, fun j hj => ?_⟩
  rw [Array.getElem?_setIfInBounds]
  by_cases e : i = j
  · subst e
    rw [if_pos rfl, if_pos (by omega)]
    simp
  · rw [if_neg e, List.getElem_set_ne e]
    exact h3 j (by simpa using hj)
theorem RowI.drew {w : World} {g n : Nat} {l : List Int} (h : RowI w g n l) : RowI w.drew g n l := h
theorem RowI.below {w w' : World} {g n : Nat} {l : List Int} (h : RowI w g n l) (hb : Below w.heap.size w w') : RowI w' g n l := by
  have hlt := h.lt
  obtain ⟨hl, cs, h1, h2⟩ := h
  exact ⟨hl, cs, (hb.block g hlt).trans h1, h2⟩
theorem RowI.sw {w : World} {g n : Nat} {l : List Int} (h : RowI w g n l) (i j : Nat) (hi : i < n) (hj : j < n) : RowI (((w.setCell ⟨g, i, none⟩ (.int .i64 (l.getD j default))).setCell ⟨g, j, none⟩ (.int .i64 (l.getD i default))).drew) g n (Stab.sw l i j) :=
  ((h.put i _ hi).put j _ hj).drew
theorem gset {a w : World} {g : Nat} (h : a.grownBy w (some g)) (o : Nat) (u : Value) : a.grownBy (w.setCell ⟨g, o, none⟩ u) (some g) :=
  ⟨h.os, h.tape, h.output, by simpa [World.setCell] using h.size, fun i hi hne => (Below.heap_setCell w ⟨g, o, none⟩ u i (by rintro rfl; exact hne rfl)).trans (h.block i hi hne)⟩
theorem gdrew {a w : World} {row : Option Nat} (h : a.grownBy w row) : a.grownBy w.drew row := ⟨h.os, h.tape, h.output, h.size, h.block⟩

set_option maxHeartbeats 4000000 in
theorem swapRange_any (g n cap a b k : Nat) (F : Value) (l : List Int) (w : World) (h : RowI w g n l) (ha : a + k ≤ n) (hb : b + k ≤ n) (hab : a + k ≤ b) (hn : n ≤ 1048576) :
    Calls Try.prog 168 #[.slice (some ⟨g, 0, none⟩) n cap, .int .i64 (a : Int), .int .i64 (b : Int), .int .i64 (k : Int), F] w fun e w' => e = .returned (.tuple #[]) ∧ RowI w' g n (swR l a b k) ∧ w.grownBy w' (some g) := by
  have HR := Lib.hid h
  clear h
  go_enter Try.func168, Try.ntmps168
  go_wp2
  go_loopw [10] (fun i_ wr => ∃ i : Nat, i ≤ k ∧ i_ = .int .i64 (i : Int) ∧ RowI wr g n (swR l a b i) ∧ w.grownBy wr (some g)) (fun i_ _ => k - (intOf i_).toNat)
  case atStart => exact ⟨0, Nat.zero_le _, rfl, HR.out, World.grownBy.refl w _⟩
  case round =>
    obtain ⟨i, hi, rfl, hr, hg⟩ := hrel
    have HG := Lib.hid hg
    have HW := Lib.hid hr
    have ES := Lib.hid (show swR l a b (i + 1) = Stab.sw (swR l a b i) (a + i) (b + i) from rfl)
    clear hg
    by_cases hlt : i < k
    · generalize swR l a b i = l' at hr HW ES
      obtain ⟨p, hp⟩ : ∃ p : Nat, p = a + i := ⟨_, rfl⟩
      obtain ⟨q, hq⟩ : ∃ q : Nat, q = b + i := ⟨_, rfl⟩
      have hpn : p < n := by omega
      have hqn : q < n := by omega
      have hpq : ¬ p = q := by omega
      have w1 : (a : Int) + (i : Int) = (p : Int) := by omega
      have w2 : (b : Int) + (i : Int) = (q : Int) := by omega
      rw [← hp, ← hq] at ES
      have c1 := hr.cell p hpn
      have c2 := hr.cell q hqn
      have fz := hr.frozen
      have SW := Lib.hid (HW.out.sw p q hpn hqn)
      generalize l'.getD p default = x at c1 SW
      generalize l'.getD q default = y at c2 SW
      clear hr hp hq
      go_wp2
      go_region
      go_wp2
      go_roundw
      case rel => exact ⟨i + 1, by omega, by go_num, by rw [ES.out]; exact SW.out, gdrew (gset (gset HG.out _ _) _ _)⟩
      case measure => simp [intOf]; omega
    · obtain rfl : i = k := by omega
      clear hr
      go_wp2
      go_returns
      exact ⟨rfl, HW.out, HG.out⟩

set_option maxHeartbeats 4000000 in
theorem rotate_any (g n cap a m b : Nat) (F : Value) (l : List Int) (w : World) (h : RowI w g n l) (ha : a < m) (hm : m < b) (hb : b ≤ n) (hn : n ≤ 1048576) :
    Calls Try.prog 166 #[.slice (some ⟨g, 0, none⟩) n cap, .int .i64 (a : Int), .int .i64 (m : Int), .int .i64 (b : Int), F] w fun e w' => e = .returned (.tuple #[]) ∧ RowI w' g n (rotF (b - a) l m (m - a) (b - m)) ∧ w.grownBy w' (some g) := by
  have HR := Lib.hid h
  clear h
  obtain ⟨i0, hi0⟩ : ∃ i0 : Nat, i0 = m - a := ⟨_, rfl⟩
  obtain ⟨j0, hj0⟩ : ∃ j0 : Nat, j0 = b - m := ⟨_, rfl⟩
  rw [← hi0, ← hj0]
  have w1 : (m : Int) - (a : Int) = (i0 : Int) := by omega
  have w2 : (b : Int) - (m : Int) = (j0 : Int) := by omega
  have HT := Lib.hid (show ∃ T, rotF (b - a) l m i0 j0 = T from ⟨_, rfl⟩)
  obtain ⟨T, hT⟩ := HT.out
  rw [hT]
  have HT := Lib.hid hT
  have b1 : i0 ≤ m := by omega
  have b2 : m + j0 ≤ n := by omega
  have b3 : 0 < i0 := by omega
  have b4 : 0 < j0 := by omega
  have b5 := Lib.hid (show i0 + j0 ≤ b - a by omega)
  clear hT hi0 hj0
  go_enter Try.func166, Try.ntmps166
  go_wp2
  clear w1 w2
  go_loopw [10, 11] (fun i_ j_ wr => ∃ (i j f : Nat) (l' : List Int), i_ = .int .i64 (i : Int) ∧ j_ = .int .i64 (j : Int) ∧ 0 < i ∧ 0 < j ∧ i ≤ m ∧ m + j ≤ n ∧ i + j ≤ f ∧ rotF f l' m i j = T ∧ RowI wr g n l' ∧ w.grownBy wr (some g)) (fun i_ j_ _ => (intOf i_).toNat + (intOf j_).toNat)
  case atStart => exact ⟨i0, j0, b - a, l, rfl, rfl, b3, b4, b1, b2, b5.out, HT.out, HR.out, World.grownBy.refl w _⟩
  case round =>
    obtain ⟨i, j, f, l', rfl, rfl, hi, hj, him, hjn, hf, hT, hr, hg⟩ := hrel
    have HG := Lib.hid hg
    have HW := Lib.hid hr
    obtain ⟨f', hf'⟩ : ∃ f', f = f' + 1 := ⟨f - 1, by omega⟩
    subst hf'
    have HT := Lib.hid hT
    have HF := Lib.hid hf
    clear hg hr hT
    obtain ⟨p, hp⟩ : ∃ p : Nat, p = m - i := ⟨_, rfl⟩
    have w1 : (m : Int) - (i : Int) = (p : Int) := by omega
    by_cases e : i = j
    · subst e
      have d0 : ((i : Int) != (i : Int)) = false := by simp
      have E := Lib.hid (show swR l' p m i = T by rw [← HT.out, rotF, if_pos rfl, hp])
      have CS := Lib.hid (fun W hR => swapRange_any g n cap p m i F l' W hR (by omega) hjn (by omega) hn)
      clear hp hf
      go_wp2_with fail
      refine (CS.out _ HW.out).mono ?_
      rintro e w1 ⟨rfl, h1, k1⟩
      rw [E.out] at h1
      have H1 := Lib.hid h1
      have K1 := Lib.hid k1
      clear h1 k1
      go_wp2
      go_returns
      exact ⟨rfl, H1.out, HG.out.trans K1.out⟩
    · have d0 : ((i : Int) != (j : Int)) = true := by rw [bne_iff_ne]; omega
      by_cases hgt : j < i
      · have hgt' : (j : Int) < (i : Int) := by omega
        obtain ⟨i', hi'⟩ : ∃ i' : Nat, i' = i - j := ⟨_, rfl⟩
        have w2 : (i : Int) - (j : Int) = (i' : Int) := by omega
        have E := Lib.hid (show rotF f' (swR l' p m j) m i' j = T by rw [← HT.out, rotF, if_neg e, if_pos hgt, hp, hi'])
        have CS := Lib.hid (fun W hR => swapRange_any g n cap p m j F l' W hR (by omega) hjn (by omega) hn)
        have B := Lib.hid (show 0 < i' ∧ i' ≤ m ∧ i' + j ≤ f' ∧ i' < i by omega)
        clear hp hi' hf
        go_wp2_with fail
        refine (CS.out _ HW.out).mono ?_
        rintro e w1 ⟨rfl, h1, k1⟩
        have H1 := Lib.hid h1
        have K1 := Lib.hid k1
        clear h1 k1
        go_wp2
        go_roundw
        case rel => exact ⟨i', j, f', _, rfl, rfl, B.out.1, hj, B.out.2.1, hjn, B.out.2.2.1, E.out, H1.out, HG.out.trans K1.out⟩
        case measure => have := B.out; simp [intOf]; omega
      · have hgt' : ¬ ((j : Int) < (i : Int)) := by omega
        obtain ⟨j', hj'⟩ : ∃ j' : Nat, j' = j - i := ⟨_, rfl⟩
        obtain ⟨q, hq⟩ : ∃ q : Nat, q = m + j - i := ⟨_, rfl⟩
        have w2 : (j : Int) - (i : Int) = (j' : Int) := by omega
        have w3 : (m : Int) + (j : Int) - (i : Int) = (q : Int) := by omega
        have E := Lib.hid (show rotF f' (swR l' p q i) m i j' = T by rw [← HT.out, rotF, if_neg e, if_neg hgt, hp, hj', hq])
        have CS := Lib.hid (fun W hR => swapRange_any g n cap p q i F l' W hR (by omega) (by omega) (by omega) hn)
        have B := Lib.hid (show 0 < j' ∧ m + j' ≤ n ∧ i + j' ≤ f' ∧ j' < j by omega)
        clear hp hj' hq hf
        go_wp2_with fail
        refine (CS.out _ HW.out).mono ?_
        rintro e w1 ⟨rfl, h1, k1⟩
        have H1 := Lib.hid h1
        have K1 := Lib.hid k1
        clear h1 k1
        go_wp2
        go_roundw
        case rel => exact ⟨i, j', f', _, rfl, rfl, hi, B.out.1, him, B.out.2.1, B.out.2.2.1, E.out, H1.out, HG.out.trans K1.out⟩
        case measure => have := B.out; simp [intOf]; omega
end Go.Proofs.Ytjfhpgomaahgoab
