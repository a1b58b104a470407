/- leastTable's fill: contracts. Condition: few books. -/
import Derived.Test.YtpamflkefgpdpaaLtI
import Derived.BigRegion
import Derived.Deep.RegionHeld3
namespace Go.Proofs.Ytpamflkefgpdpaa
set_option linter.unusedSimpArgs false
set_option linter.unusedVariables false
set_option maxRecDepth 100000
open Go.RowKit

def fillTo (val : Nat → Int) (n k : Nat) : List Int := (List.range n).map fun i => if i < k then val i else 0
theorem fillTo_length (val : Nat → Int) (n k : Nat) : (fillTo val n k).length = n := by simp [fillTo]
theorem fillTo_zero (val : Nat → Int) (n : Nat) : List.replicate n 0 = fillTo val n 0 := by
  refine List.ext_getElem (by simp [fillTo]) fun i h1 h2 => ?_
  simp [fillTo]
theorem fillTo_succ (val : Nat → Int) (n k : Nat) : (fillTo val n k).set k (val k) = fillTo val n (k + 1) := by
  refine List.ext_getElem (by simp [fillTo]) fun i h1 h2 => ?_
  rw [List.getElem_set]
  simp only [fillTo, List.getElem_map, List.getElem_range]
  by_cases e : k = i
  · subst e; simp
  · rw [if_neg e]
    by_cases h : i < k
    · rw [if_pos h, if_pos (by omega)]
    · rw [if_neg h, if_neg (by omega)]
theorem fillTo_all (val : Nat → Int) (n : Nat) : fillTo val n n = (List.range n).map val := by
  refine List.ext_getElem (by simp [fillTo]) fun i h1 h2 => ?_
  simp only [fillTo, List.getElem_map, List.getElem_range]
  rw [if_pos (by simpa using h2)]
theorem setR_same {rows : Nat → Option (List Int)} {s : Nat} {a : List Int} : setR rows s a s = some a := by unfold setR; rw [if_pos rfl]
theorem setR_twice {rows : Nat → Option (List Int)} {s : Nat} {a b : List Int} : setR (setR rows s a) s b = setR rows s b := by
  funext j
  unfold setR
  by_cases h : j = s
  · rw [if_pos h, if_pos h]
  · rw [if_neg h, if_neg h, if_neg h]
theorem infoInt64L : (Try.prog.info? 2).map (fun i => (i.zero, i.size, i.bytes)) = some (some (.int .i64 0), 1, 8) := by kernel_rfl
theorem setc_far {W : World} {a : Addr} {b i : Nat} {u v : Value} (h : W.cell? a = some v) (hne : a.block ≠ b) : (W.setCell ⟨b, i, none⟩ u).cell? a = some v := by
  rw [World.cell?_of_block (Below.heap_setCell W ⟨b, i, none⟩ u a.block hne)]
  exact h

set_option maxHeartbeats 16000000 in
theorem fill2_any (val : Nat → Int) (A : Option Addr) (n m s S g lo p4 p8  : Nat) (rows : Nat → Option (List Int)) (w : World) (q4 : w.cell? ⟨p4, 0, none⟩ = some (.slice A n m)) (q8 : w.cell? ⟨p8, 0, none⟩ = some (.slice (some ⟨g, 0, none⟩) S S)) (tp : TP w (fun _ => lo) g S (n + 1) rows) (hlo : lo ≤ w.heap.size) (hs : s < S) (hn : n ≤ 60) (n8 : p8 ≠ g)
    (F : ∀ (W : World) (zs : List Int), w.grownBy W (some g) → TP W (fun _ => lo) g S (n + 1) (setR rows s zs) → ∀ i, i < n + 1 → Calls Try.prog 84 #[.int .i64 (i : Int), .pointer (some ⟨p4, 0, none⟩)] W fun e w' => e = .returned (.int .i64 (val i)) ∧ Below W.heap.size W w') :
    Calls Try.prog 83 #[.int .i64 (s : Int), .func (.func 84) #[] #[.pointer (some ⟨p4, 0, none⟩)], .pointer (some ⟨p4, 0, none⟩), .pointer (some ⟨p8, 0, none⟩)] w fun e w' => e = .returned (.tuple #[]) ∧ TP w' (fun _ => lo) g S (n + 1) (setR rows s ((List.range (n + 1)).map val)) ∧ w.grownBy w' (some g) := by
  obtain ⟨i0, hi, hz0, hz1, hz2⟩ := info_parts infoInt64L
  have hmk := fun W => run_make_rowN (P := Try.prog) 22 2 i0 _ Try.underlying22 hi hz0 .i64 .i64 (n + 1) (n + 1) (Nat.le_refl _) (by rw [hz2]; omega) (by omega) W
  rw [hz1, Nat.mul_one] at hmk
  have hc1 : (((n + 1 : Nat)) : Int) = (n : Int) + 1 := by omega
  simp only [hc1] at hmk
  have l4 := block_lt_of_cell q4
  have l8 := block_lt_of_cell q8
  simp only at l4 l8
  have lg := tp.lt
  have r4 := ((Below.alloc (Below.refl w.heap.size w) (Nat.le_refl _) (.cells (madeCells (Value.int .i64 0).cells (n + 1)) 2)).cell (p := ⟨p4, 0, none⟩) l4).trans q4
  have r8 := ((Below.alloc (Below.refl w.heap.size w) (Nat.le_refl _) (.cells (madeCells (Value.int .i64 0).cells (n + 1)) 2)).cell (p := ⟨p8, 0, none⟩) l8).trans q8
  have TP0 := Lib.hid tp
  have ML := Lib.hid (show ∀ j, j < S → (fun _ => lo) j ≤ (fun j => if j = s then w.heap.size else lo) j from fun j _ => by show lo ≤ (if j = s then w.heap.size else lo); split <;> omega)
  have Q8 := Lib.hid q8
  have FF := Lib.hid F
  obtain ⟨us, sl0⟩ := tp.slot hs
  have fz0 := tp.frozen s
  have sl1 := ((Below.alloc (Below.refl w.heap.size w) (Nat.le_refl _) (.cells (madeCells (Value.int .i64 0).cells (n + 1)) 2)).cell (p := ⟨g, s, none⟩) lg).trans sl0
  have fz1 := (tp.below (Below.alloc (Below.refl w.heap.size w) (Nat.le_refl _) (.cells (madeCells (Value.int .i64 0).cells (n + 1)) 2))).frozen s
  clear hi hz0 hz1 hz2 F tp
  go_enter Try.func83, Try.ntmps83
  go_wp2
  go_region
  have T1 := Lib.hid (((World.setCell_alloc_past (.cells (madeCells (Value.int .i64 0).cells (n + 1)) 2) g s (.slice (some ⟨w.heap.size, 0, none⟩) (n + 1) (n + 1)) lg) ▸ TP0.out.row hs : TP ((w.setCell ⟨g, s, none⟩ (.slice (some ⟨w.heap.size, 0, none⟩) (n + 1) (n + 1))).alloc (.cells (madeCells (Value.int .i64 0).cells (n + 1)) 2)) (fun j => if j = s then w.heap.size else lo) g S (n + 1) _).below (Below.refl _ _).drew)
  have GW := Lib.hid (show w.grownBy (((w.setCell ⟨g, s, none⟩ (.slice (some ⟨w.heap.size, 0, none⟩) (n + 1) (n + 1))).alloc (.cells (madeCells (Value.int .i64 0).cells (n + 1)) 2)).drew) (some g) from gw_drew ((World.setCell_alloc_past (.cells (madeCells (Value.int .i64 0).cells (n + 1)) 2) g s (.slice (some ⟨w.heap.size, 0, none⟩) (n + 1) (n + 1)) lg) ▸ gw_set (World.grownBy_alloc w _ _) s _ (.inr rfl)))
  rw [fillTo_zero val (n + 1)] at T1
  rw [show (Value.int IntKind.i64 0).cells = #[Value.int .i64 0] from rfl] at T1 GW
  have hc2 : (((n + 1 : Nat)) : Int) = (n : Int) + 1 := by omega
  have HQ8 := Lib.hid (fun (W : World) (h : w.grownBy W (some g)) => h.cell Q8.out (by intro e; injection e with e; exact n8 e))
  clear q4 r4 r8 sl0 fz0 sl1 fz1 hmk
  generalize World.drew _ = W1 at T1 GW ⊢
  have q8 := HQ8.out _ GW.out
  obtain ⟨b, t0, -, -, -, -, -⟩ := T1.out.at_ hs setR_same
  go_wp2
  clear q8 t0
  go_loopw [19] (fun k_ wr => ∃ k : Nat, k ≤ n + 1 ∧ k_ = .int .i64 (k : Int) ∧ TP wr (fun j => if j = s then w.heap.size else lo) g S (n + 1) (setR rows s (fillTo val (n + 1) k)) ∧ w.grownBy wr (some g)) (fun k_ _ => n + 1 - (intOf k_).toNat)
  case atStart => exact ⟨0, by omega, rfl, T1.out, GW.out⟩
  case round =>
    obtain ⟨k, hk, rfl, ht, hg⟩ := hrel
    have TT := Lib.hid ht
    have GG := Lib.hid hg
    clear ht hg
    by_cases hlt : k < n + 1
    · have hlt' : (k : Int) < (n : Int) + 1 := by omega
      have q8 := HQ8.out _ GG.out
      obtain ⟨b, t0, tlo, bg0, tb, tl, tn⟩ := TT.out.at_ hs setR_same
      obtain ⟨y0, y1, y2⟩ := tn k hlt
      have Y2 := Lib.hid y2
      have z8 : p8 < wr.heap.size := Nat.lt_of_lt_of_le l8 GG.out.size
      have zg : g < wr.heap.size := TT.out.lt
      have HK := Lib.hid (show ∀ W, Below wr.heap.size wr W → W.cell? ⟨p8, 0, none⟩ = some (.slice (some ⟨g, 0, none⟩) S S) ∧ W.cell? ⟨g, s, none⟩ = some (.slice (some ⟨b, 0, none⟩) (n + 1) (n + 1)) from fun W hb => ⟨(hb.cell (p := ⟨p8, 0, none⟩) z8).trans q8, (hb.cell (p := ⟨g, s, none⟩) zg).trans t0⟩)
      have tlo2 : w.heap.size ≤ b := by simp only [↓reduceIte] at tlo; exact tlo
      have b8 : p8 ≠ b := by omega
      have bg : g ≠ b := fun e => bg0 e.symm
      have FZ := Lib.hid (fun (W : World) (hb : Below wr.heap.size wr W) => (World.frozen?_of_block (a := ⟨b, k, none⟩) (hb.block b tb)).trans y1)
      clear tn y2 q8 t0 y1
      have b0 : Below wr.heap.size wr wr.drew := (Below.refl _ _).drew
      go_wp2
      go_region_held3 (fun (X : World) => X.cell? ⟨p8, 0, none⟩ = some (.slice (some ⟨g, 0, none⟩) S S) ∧ X.cell? ⟨g, s, none⟩ = some (.slice (some ⟨b, 0, none⟩) (n + 1) (n + 1))) (first | exact HK.out _ b0 | exact HK.out _ H9.out | exact FA.out) (first
        | (go_at_call 84; refine (FF.out _ _ (gw_drew GG.out) ((TT.out.mono ML.out).below b0) k hlt).mono ?_; rintro e w9 ⟨rfl, hq⟩; have H9 := Lib.hid (bnext b0 hq); have u0 := (H9.out.cell (p := ⟨b, k, none⟩) tb).trans y0; have uf := Y2.out _ H9.out (val k); have ff := FZ.out _ H9.out; have FA := Lib.hid (show (w9.setCell ⟨b, k, none⟩ (.int .i64 (val k))).cell? ⟨p8, 0, none⟩ = some (.slice (some ⟨g, 0, none⟩) S S) ∧ (w9.setCell ⟨b, k, none⟩ (.int .i64 (val k))).cell? ⟨g, s, none⟩ = some (.slice (some ⟨b, 0, none⟩) (n + 1) (n + 1)) from ⟨setc_far (HK.out _ H9.out).1 b8, setc_far (HK.out _ H9.out).2 bg⟩)))
      rename_i hheld
      clear hheld
      rw [setR_twice, fillTo_succ] at uf
      have UF := Lib.hid uf
      have GF := Lib.hid (gw_set (gw_below (gw_drew GG.out) hq) k (.int .i64 (val k)) (.inl tlo2) : w.grownBy (w9.setCell ⟨b, k, none⟩ (.int .i64 (val k))) (some g))
      clear uf u0 ff hq tlo tlo2 y0
      generalize World.setCell w9 _ _ = W5 at UF GF ⊢
      clear FA
      go_wp2
      go_roundw
      case rel => exact ⟨k + 1, by omega, by go_num, UF.out, GF.out⟩
      case measure => simp [intOf]; omega
    · obtain rfl : k = n + 1 := by omega
      have FE := Lib.hid (show TP wr (fun _ => lo) g S (n + 1) (setR rows s ((List.range (n + 1)).map val)) by rw [← fillTo_all]; exact TT.out.mono ML.out)
      clear hlt
      go_wp2
      exact ⟨rfl, .tuple #[], by simp [results, Try.results83, go_sem], rfl, FE.out, GG.out⟩

set_option maxHeartbeats 16000000 in
theorem fill3_any (val : Nat → Int) (A : Option Addr) (n m s S g lo p4 p8 p3 p10 p5 : Nat) (rows : Nat → Option (List Int)) (w : World) (q4 : w.cell? ⟨p4, 0, none⟩ = some (.slice A n m)) (q8 : w.cell? ⟨p8, 0, none⟩ = some (.slice (some ⟨g, 0, none⟩) S S)) (tp : TP w (fun _ => lo) g S (n + 1) rows) (hlo : lo ≤ w.heap.size) (hs : s < S) (hn : n ≤ 60) (n8 : p8 ≠ g)
    (F : ∀ (W : World) (zs : List Int), w.grownBy W (some g) → TP W (fun _ => lo) g S (n + 1) (setR rows s zs) → ∀ i, i < n + 1 → Calls Try.prog 86 #[.int .i64 (i : Int), .pointer (some ⟨p3, 0, none⟩), .pointer (some ⟨p10, 0, none⟩), .pointer (some ⟨p4, 0, none⟩), .pointer (some ⟨p8, 0, none⟩), .pointer (some ⟨p5, 0, none⟩)] W fun e w' => e = .returned (.int .i64 (val i)) ∧ Below W.heap.size W w') :
    Calls Try.prog 83 #[.int .i64 (s : Int), .func (.func 86) #[] #[.pointer (some ⟨p3, 0, none⟩), .pointer (some ⟨p10, 0, none⟩), .pointer (some ⟨p4, 0, none⟩), .pointer (some ⟨p8, 0, none⟩), .pointer (some ⟨p5, 0, none⟩)], .pointer (some ⟨p4, 0, none⟩), .pointer (some ⟨p8, 0, none⟩)] w fun e w' => e = .returned (.tuple #[]) ∧ TP w' (fun _ => lo) g S (n + 1) (setR rows s ((List.range (n + 1)).map val)) ∧ w.grownBy w' (some g) := by
  obtain ⟨i0, hi, hz0, hz1, hz2⟩ := info_parts infoInt64L
  have hmk := fun W => run_make_rowN (P := Try.prog) 22 2 i0 _ Try.underlying22 hi hz0 .i64 .i64 (n + 1) (n + 1) (Nat.le_refl _) (by rw [hz2]; omega) (by omega) W
  rw [hz1, Nat.mul_one] at hmk
  have hc1 : (((n + 1 : Nat)) : Int) = (n : Int) + 1 := by omega
  simp only [hc1] at hmk
  have l4 := block_lt_of_cell q4
  have l8 := block_lt_of_cell q8
  simp only at l4 l8
  have lg := tp.lt
  have r4 := ((Below.alloc (Below.refl w.heap.size w) (Nat.le_refl _) (.cells (madeCells (Value.int .i64 0).cells (n + 1)) 2)).cell (p := ⟨p4, 0, none⟩) l4).trans q4
  have r8 := ((Below.alloc (Below.refl w.heap.size w) (Nat.le_refl _) (.cells (madeCells (Value.int .i64 0).cells (n + 1)) 2)).cell (p := ⟨p8, 0, none⟩) l8).trans q8
  have TP0 := Lib.hid tp
  have ML := Lib.hid (show ∀ j, j < S → (fun _ => lo) j ≤ (fun j => if j = s then w.heap.size else lo) j from fun j _ => by show lo ≤ (if j = s then w.heap.size else lo); split <;> omega)
  have Q8 := Lib.hid q8
  have FF := Lib.hid F
  obtain ⟨us, sl0⟩ := tp.slot hs
  have fz0 := tp.frozen s
  have sl1 := ((Below.alloc (Below.refl w.heap.size w) (Nat.le_refl _) (.cells (madeCells (Value.int .i64 0).cells (n + 1)) 2)).cell (p := ⟨g, s, none⟩) lg).trans sl0
  have fz1 := (tp.below (Below.alloc (Below.refl w.heap.size w) (Nat.le_refl _) (.cells (madeCells (Value.int .i64 0).cells (n + 1)) 2))).frozen s
  clear hi hz0 hz1 hz2 F tp
  go_enter Try.func83, Try.ntmps83
  go_wp2
  go_region
  have T1 := Lib.hid (((World.setCell_alloc_past (.cells (madeCells (Value.int .i64 0).cells (n + 1)) 2) g s (.slice (some ⟨w.heap.size, 0, none⟩) (n + 1) (n + 1)) lg) ▸ TP0.out.row hs : TP ((w.setCell ⟨g, s, none⟩ (.slice (some ⟨w.heap.size, 0, none⟩) (n + 1) (n + 1))).alloc (.cells (madeCells (Value.int .i64 0).cells (n + 1)) 2)) (fun j => if j = s then w.heap.size else lo) g S (n + 1) _).below (Below.refl _ _).drew)
  have GW := Lib.hid (show w.grownBy (((w.setCell ⟨g, s, none⟩ (.slice (some ⟨w.heap.size, 0, none⟩) (n + 1) (n + 1))).alloc (.cells (madeCells (Value.int .i64 0).cells (n + 1)) 2)).drew) (some g) from gw_drew ((World.setCell_alloc_past (.cells (madeCells (Value.int .i64 0).cells (n + 1)) 2) g s (.slice (some ⟨w.heap.size, 0, none⟩) (n + 1) (n + 1)) lg) ▸ gw_set (World.grownBy_alloc w _ _) s _ (.inr rfl)))
  rw [fillTo_zero val (n + 1)] at T1
  rw [show (Value.int IntKind.i64 0).cells = #[Value.int .i64 0] from rfl] at T1 GW
  have hc2 : (((n + 1 : Nat)) : Int) = (n : Int) + 1 := by omega
  have HQ8 := Lib.hid (fun (W : World) (h : w.grownBy W (some g)) => h.cell Q8.out (by intro e; injection e with e; exact n8 e))
  clear q4 r4 r8 sl0 fz0 sl1 fz1 hmk
  generalize World.drew _ = W1 at T1 GW ⊢
  have q8 := HQ8.out _ GW.out
  obtain ⟨b, t0, -, -, -, -, -⟩ := T1.out.at_ hs setR_same
  go_wp2
  clear q8 t0
  go_loopw [19] (fun k_ wr => ∃ k : Nat, k ≤ n + 1 ∧ k_ = .int .i64 (k : Int) ∧ TP wr (fun j => if j = s then w.heap.size else lo) g S (n + 1) (setR rows s (fillTo val (n + 1) k)) ∧ w.grownBy wr (some g)) (fun k_ _ => n + 1 - (intOf k_).toNat)
  case atStart => exact ⟨0, by omega, rfl, T1.out, GW.out⟩
  case round =>
    obtain ⟨k, hk, rfl, ht, hg⟩ := hrel
    have TT := Lib.hid ht
    have GG := Lib.hid hg
    clear ht hg
    by_cases hlt : k < n + 1
    · have hlt' : (k : Int) < (n : Int) + 1 := by omega
      have q8 := HQ8.out _ GG.out
      obtain ⟨b, t0, tlo, bg0, tb, tl, tn⟩ := TT.out.at_ hs setR_same
      obtain ⟨y0, y1, y2⟩ := tn k hlt
      have Y2 := Lib.hid y2
      have z8 : p8 < wr.heap.size := Nat.lt_of_lt_of_le l8 GG.out.size
      have zg : g < wr.heap.size := TT.out.lt
      have HK := Lib.hid (show ∀ W, Below wr.heap.size wr W → W.cell? ⟨p8, 0, none⟩ = some (.slice (some ⟨g, 0, none⟩) S S) ∧ W.cell? ⟨g, s, none⟩ = some (.slice (some ⟨b, 0, none⟩) (n + 1) (n + 1)) from fun W hb => ⟨(hb.cell (p := ⟨p8, 0, none⟩) z8).trans q8, (hb.cell (p := ⟨g, s, none⟩) zg).trans t0⟩)
      have tlo2 : w.heap.size ≤ b := by simp only [↓reduceIte] at tlo; exact tlo
      have b8 : p8 ≠ b := by omega
      have bg : g ≠ b := fun e => bg0 e.symm
      have FZ := Lib.hid (fun (W : World) (hb : Below wr.heap.size wr W) => (World.frozen?_of_block (a := ⟨b, k, none⟩) (hb.block b tb)).trans y1)
      clear tn y2 q8 t0 y1
      have b0 : Below wr.heap.size wr wr.drew := (Below.refl _ _).drew
      go_wp2
      go_region_held3 (fun (X : World) => X.cell? ⟨p8, 0, none⟩ = some (.slice (some ⟨g, 0, none⟩) S S) ∧ X.cell? ⟨g, s, none⟩ = some (.slice (some ⟨b, 0, none⟩) (n + 1) (n + 1))) (first | exact HK.out _ b0 | exact HK.out _ H9.out | exact FA.out) (first
        | (go_at_call 86; refine (FF.out _ _ (gw_drew GG.out) ((TT.out.mono ML.out).below b0) k hlt).mono ?_; rintro e w9 ⟨rfl, hq⟩; have H9 := Lib.hid (bnext b0 hq); have u0 := (H9.out.cell (p := ⟨b, k, none⟩) tb).trans y0; have uf := Y2.out _ H9.out (val k); have ff := FZ.out _ H9.out; have FA := Lib.hid (show (w9.setCell ⟨b, k, none⟩ (.int .i64 (val k))).cell? ⟨p8, 0, none⟩ = some (.slice (some ⟨g, 0, none⟩) S S) ∧ (w9.setCell ⟨b, k, none⟩ (.int .i64 (val k))).cell? ⟨g, s, none⟩ = some (.slice (some ⟨b, 0, none⟩) (n + 1) (n + 1)) from ⟨setc_far (HK.out _ H9.out).1 b8, setc_far (HK.out _ H9.out).2 bg⟩)))
      rename_i hheld
      clear hheld
      rw [setR_twice, fillTo_succ] at uf
      have UF := Lib.hid uf
      have GF := Lib.hid (gw_set (gw_below (gw_drew GG.out) hq) k (.int .i64 (val k)) (.inl tlo2) : w.grownBy (w9.setCell ⟨b, k, none⟩ (.int .i64 (val k))) (some g))
      clear uf u0 ff hq tlo tlo2 y0
      generalize World.setCell w9 _ _ = W5 at UF GF ⊢
      clear FA
      go_wp2
      go_roundw
      case rel => exact ⟨k + 1, by omega, by go_num, UF.out, GF.out⟩
      case measure => simp [intOf]; omega
    · obtain rfl : k = n + 1 := by omega
      have FE := Lib.hid (show TP wr (fun _ => lo) g S (n + 1) (setR rows s ((List.range (n + 1)).map val)) by rw [← fillTo_all]; exact TT.out.mono ML.out)
      clear hlt
      go_wp2
      exact ⟨rfl, .tuple #[], by simp [results, Try.results83, go_sem], rfl, FE.out, GG.out⟩

end Go.Proofs.Ytpamflkefgpdpaa
