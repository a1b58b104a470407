/- A list spread over places, by the model: a contract. Condition: 1 to 60 places, no more books than places. -/
import Derived.Test.YtlphpajpjpohmaaDoorRkK
import Derived.Deep.Cut
namespace Go.Proofs.YtlphpajpjpohmaaDoor
set_option linter.unusedSimpArgs false
set_option linter.unusedVariables false
set_option maxRecDepth 100000
open Go.RowKit Go.Sort

theorem sprTo_succ {n : Nat} {xs : List Bk} {k : Nat} (h : k < xs.length) : sprTo n xs (k + 1) = sprTo n xs k ++ [⟨(sprP n xs.length k : Nat), xs[k]⟩] := by
  rw [sprTo]
  congr 3
  rw [List.getD_eq_getElem?_getD, List.getElem?_eq_getElem h]
  rfl
theorem sprP_int {n len k : Nat} (h : 0 < len) : (((2 * (k : Int) + 1) * (n : Int)).tdiv (2 * (len : Int))) = (sprP n len k : Int) := by
  unfold sprP
  rw [Int.tdiv_eq_ediv_of_nonneg (Int.mul_nonneg (by omega) (by omega))]
  push_cast
  rfl
set_option maxHeartbeats 16000000 in
theorem l05Spread_any (n : Nat) (v0 : Value) (xs : List Bk) (wf : ∀ b ∈ xs, b.Wf) (w : World) (hs : SliceOf w v0 xs) (hn1 : 1 ≤ n) (hn2 : n ≤ 60) (hl : xs.length ≤ n) :
    Calls Tryd.prog 79 #[.int .i64 (n : Int), v0] w fun e w' => ∃ u, e = .returned (.agg #[.int .i16 (n : Int), u]) ∧ ResN Pl.cells 99 w' w.heap.size u (sprL n xs) ∧ Below w.heap.size w w' := by
  have HSV := Lib.hid hs
  obtain ⟨A, c, rfl, hs⟩ := hs
  have HS := Lib.hid hs
  obtain ⟨i0, hi0, hz0, hz1, hz2⟩ := info_parts infoPlaced
  have B0 := Lib.hid (show Below w.heap.size w ((w.alloc (.cells #[.int .i16 0, .slice none 0 0] 30)).alloc (.cells #[.int .i16 (n : Int), .slice none 0 0] 30)) by go_grown)
  have K0 := Lib.hid (show ((w.alloc (.cells #[.int .i16 0, .slice none 0 0] 30)).alloc (.cells #[.int .i16 (n : Int), .slice none 0 0] 30)).heap[w.heap.size]? = some (.cells #[.int .i16 0, .slice none 0 0] 30 (0, 0)) from (Below.heap_alloc _ _ _ (by simp)).trans (heap_alloc_new w _))
  have K1 := Lib.hid (show ((w.alloc (.cells #[.int .i16 0, .slice none 0 0] 30)).alloc (.cells #[.int .i16 (n : Int), .slice none 0 0] 30)).heap[w.heap.size + 1]? = some (.cells #[.int .i16 (n : Int), .slice none 0 0] 30 (0, 0)) from by
    have := heap_alloc_new (w.alloc (.cells #[.int .i16 0, .slice none 0 0] 30)) (.cells #[.int .i16 (n : Int), .slice none 0 0] 30)
    rwa [World.size_alloc] at this)
  clear hs wf
  go_enter Tryd.func79, Tryd.ntmps79
  go_upto_region 2 with (fail)
  generalize (w.alloc _).alloc _ = w0 at B0 K0 K1 ⊢
  have zz0 : w.heap.size + 1 < w0.heap.size := (Array.getElem?_eq_some_iff.1 K1.out).1
  have O0 := Lib.hid (show w0.ownsRow w0.heap.size 99 9 (.slice none 0 0) (sprTo n xs 0).length (flN Pl.cells (sprTo n xs 0)) from ResN.own0 w0 w0.heap.size)
  have hlm : (xs.length : Int) ≤ 60 := by omega
  go_wp2
  go_loopw [7] (fun i_ wr => ∃ (v : Value) (k : Nat), k ≤ xs.length ∧ i_ = .int .i64 (k : Int) ∧ wr.heap[w.heap.size]? = some (.cells #[.int .i16 0, .slice none 0 0] 30 (0, 0)) ∧ wr.heap[w.heap.size + 1]? = some (.cells #[.int .i16 (n : Int), v] 30 (0, 0)) ∧ wr.ownsRow w0.heap.size 99 9 v (sprTo n xs k).length (flN Pl.cells (sprTo n xs k)) ∧ w0.heap.size ≤ wr.heap.size ∧ Below w.heap.size w wr) (fun i_ _ => xs.length - (intOf i_).toNat)
  case atStart => exact ⟨_, 0, Nat.zero_le _, rfl, K0.out, K1.out, O0.out, Nat.le_refl _, B0.out⟩
  case round =>
    obtain ⟨v, k, hk, rfl, hk0, hk1, ho, hzw, hb⟩ := hrel
    have R0 := Lib.hid hk0
    have R1 := Lib.hid hk1
    have OW := Lib.hid ho
    have HB := Lib.hid hb
    clear hk0 hk1 ho hb
    by_cases hlt : k < xs.length
    · have hlt' := hlt
      obtain ⟨ga, oa, rfl, hga, hat⟩ := HS.out (by omega)
      obtain ⟨p0, p1, p2, p3, p4, p5, p6, p7⟩ := booksAt_some (hat.below HB.out hga) hlt
      have FE := Lib.hid (sprTo_succ (n := n) hlt)
      have kl := sprTo_length n xs k
      have KL := Lib.hid kl
      have sl := sprP_lt (n := n) (i := k) hlt (by omega)
      have SI := Lib.hid (sprP_int (n := n) (len := xs.length) (k := k) (by omega))
      obtain ⟨j, hj⟩ : ∃ j, sprP n xs.length k = j := ⟨_, rfl⟩
      rw [hj] at FE sl SI
      clear hat hj kl
      generalize xs[k] = b at FE p0 p1 p2 p3 p4 p5 p6 p7
      have nk : (k : Int) ≤ 60 := by omega
      have k0 : (0 : Int) ≤ (k : Int) := by omega
      have kx : (k : Int) < (xs.length : Int) := by omega
      have nn : (n : Int) ≤ 60 := by omega
      have nn0 : (0 : Int) ≤ (n : Int) := by omega
      have mu : 0 ≤ (2 * (k : Int) + 1) * (n : Int) ∧ (2 * (k : Int) + 1) * (n : Int) ≤ 7260 := by
        constructor
        · exact Int.mul_nonneg (by omega) (by omega)
        · have : (2 * (k : Int) + 1) * (n : Int) ≤ 121 * 60 := Int.mul_le_mul (by omega) nn nn0 (by omega)
          omega
      have wa1 : IntKind.i64.wrap (2 * (k : Int)) = 2 * (k : Int) := IntWalk.i64_in _ (by omega)
      have wa2 : IntKind.i64.wrap (2 * (k : Int) + 1) = 2 * (k : Int) + 1 := IntWalk.i64_in _ (by omega)
      have wa3 : IntKind.i64.wrap ((2 * (k : Int) + 1) * (n : Int)) = (2 * (k : Int) + 1) * (n : Int) := IntWalk.i64_in _ (by omega)
      have wa4 : IntKind.i64.wrap (2 * (xs.length : Int)) = 2 * (xs.length : Int) := IntWalk.i64_in _ (by omega)
      have wa5 : IntKind.i64.wrap (j : Int) = (j : Int) := IntWalk.i64_in _ (by omega)
      have wa6 : IntKind.i16.wrap (j : Int) = (j : Int) := IntWalk.i16_in _ (by omega)
      have q1 := SI.out
      have nz : ¬ (2 * (xs.length : Int) = 0) := by omega
      have hvl := Lib.hid (fun p hp => OW.out.lt p hp)
      have zR : w.heap.size + 1 < wr.heap.size := by omega
      have cR : wr.cell? ⟨w.heap.size + 1, 1, none⟩ = some v := cell_of_row wr _ 1 _ _ _ R1.out
      have fR := frozen_of_row wr _ 1 _ _ R1.out
      have d9 : Below wr.heap.size wr (wr.drew.alloc (.cells #[.int .i16 (j : Int), .int .i16 b.c, .int .u8 b.m0, .int .u8 b.m1, .int .u8 b.m2, .int .i16 b.v, .int .i16 b.wi, .int .i16 b.hi, .int .i16 b.we] 99)) := ((Below.refl _ _).drew).alloc (Nat.le_refl _) _
      have c9 : (wr.alloc (.cells #[.int .i16 (j : Int), .int .i16 b.c, .int .u8 b.m0, .int .u8 b.m1, .int .u8 b.m2, .int .i16 b.v, .int .i16 b.wi, .int .i16 b.hi, .int .i16 b.we] 99)).cell? ⟨w.heap.size + 1, 1, none⟩ = some v := (((Below.refl wr.heap.size wr).alloc (Nat.le_refl _) _).cell (p := ⟨w.heap.size + 1, 1, none⟩) zR).trans cR
      have c10 : (wr.alloc (.cells #[.int .i16 (j : Int), .int .i16 b.c, .int .u8 b.m0, .int .u8 b.m1, .int .u8 b.m2, .int .i16 b.v, .int .i16 b.wi, .int .i16 b.hi, .int .i16 b.we] 99)).drew.cell? ⟨w.heap.size + 1, 1, none⟩ = some v := c9
      have OD := Lib.hid (ownBelow OW.out ((Below.refl _ wr).drew))
      have R09 := Lib.hid ((d9.block _ (by omega)).trans R0.out)
      have R19 := Lib.hid ((d9.block _ zR).trans R1.out)
      have HB9 := Lib.hid (bnext HB.out d9)
      have kl60 : (sprTo n xs k).length ≤ 60 := by rw [KL.out]; omega
      clear d9
      go_wp2
      go_region_law (
        refine step_append_lies _ (by rfl) _ _ _ (by rfl) w0.heap.size 99 i0 (.agg #[.int .i16 0, .int .i16 0, .int .u8 0, .int .u8 0, .int .u8 0, .int .i16 0, .int .i16 0, .int .i16 0, .int .i16 0]) 9 16 Tryd.underlying28 hi0 hz0 hz1 hz2 rfl (by decide) v _ _ (by rfl) (OD.out.alloc _) ⟨wr.heap.size, 0, none⟩ 1 1 [.int .i16 (j : Int), .int .i16 b.c, .int .u8 b.m0, .int .u8 b.m1, .int .u8 b.m2, .int .i16 b.v, .int .i16 b.wi, .int .i16 b.hi, .int .i16 b.we] (by rfl) rfl (cell9_new _ _ _ _ _ _ _ _ _ _ _) (one9 ⟨(j : Int), b⟩) (by decide) (by unfold maxLen; omega) (by omega) (by simp; omega) _ rfl ?_
        intro g4 cap w4 ho4 hg4 ha4 hl4
        have hne0 : some w.heap.size ≠ v.ownBlock := fun e => by have := (hvl.out _ e.symm).1; omega
        have hne1 : some (w.heap.size + 1) ≠ v.ownBlock := fun e => by have := (hvl.out _ e.symm).1; omega
        have R04 := (hg4.block _ (by simp; omega) hne0).trans R09.out
        have R14 := (hg4.block _ (by simp; omega) hne1).trans R19.out
        have c4 : w4.cell? ⟨w.heap.size + 1, 1, none⟩ = some v := cell_of_row w4 _ 1 _ _ _ R14
        have f4 := frozen_of_row w4 _ 1 _ _ R14
        have S0 := Lib.hid ((Below.heap_setCell w4 ⟨w.heap.size + 1, 1, none⟩ (.slice (some ⟨g4, 0, none⟩) ((sprTo n xs k).length + 1) cap) _ (by simp)).trans R04)
        have S1 := Lib.hid (heap_setCell_same w4 (w.heap.size + 1) 1 _ _ (.slice (some ⟨g4, 0, none⟩) ((sprTo n xs k).length + 1) cap) R14)
        have hc4 : w4.ownsRow w0.heap.size 99 9 (.slice (some ⟨g4, 0, none⟩) ((sprTo n xs k).length + 1) cap) (sprTo n xs (k + 1)).length (flN Pl.cells (sprTo n xs (k + 1))) := by
          rw [FE.out, plN_snoc, List.length_append]
          exact ho4
        have hg4' : w0.heap.size ≤ g4 := (hc4.lt g4 rfl).1
        have S3 := Lib.hid (ownOther hc4 (only_set2 (World.grownBy.refl w4 (some (w.heap.size + 1))) 1 (.slice (some ⟨g4, 0, none⟩) ((sprTo n xs k).length + 1) cap)) (fun p hp e => by
          have h1 : g4 = p := by injection hp
          have h2 : p = w.heap.size + 1 := by injection e
          omega))
        have S4 : w0.heap.size ≤ w4.heap.size := by have := hg4.size; simp at this; omega
        have S5 := Lib.hid (show Below w.heap.size w (w4.setCell ⟨w.heap.size + 1, 1, none⟩ (.slice (some ⟨g4, 0, none⟩) ((sprTo n xs k).length + 1) cap)) from (HB9.out.grown hg4 HB9.out.size (fun p hp => by have := (hvl.out p hp).1; omega)).setCell (p := ⟨w.heap.size + 1, 1, none⟩) (by simp) _)
        clear ho4 hg4 ha4 hl4 hne0 hne1 R04 R14 hc4)
      all_goals
        clear wa1 wa2 wa3 wa4 wa5 wa6 q1 nz
        go_wp2
        go_roundw
        case rel => exact ⟨_, k + 1, by omega, by go_num, S0.out, S1.out, S3.out, by simpa using S4, S5.out⟩
        case measure => simp [intOf]; omega
    · obtain rfl : k = xs.length := by omega
      have OE := Lib.hid (show wr.ownsRow w0.heap.size 99 9 v (sprL n xs).length (flN Pl.cells (sprL n xs)) from OW.out)
      obtain ⟨Av, kv, rfl⟩ := ownForm OE.out
      have a0 := cell_of_row wr _ 0 _ _ _ R0.out
      have a1 := cell_of_row wr _ 1 _ _ _ R0.out
      have b0 := cell_of_row wr _ 0 _ _ _ R1.out
      have b1 := cell_of_row wr _ 1 _ _ _ R1.out
      have fz := fun j => frozen_of_row wr _ j _ _ R0.out
      simp only [List.getElem?_toArray, List.getElem?_cons_zero, List.getElem?_cons_succ] at a0 a1 b0 b1
      have zlo : w.heap.size ≤ w0.heap.size := by omega
      have E1 := Lib.hid (only_set2 (only_set2 (World.grownBy.refl wr (some w.heap.size)) 0 (.int .i16 (n : Int))) 1 (.slice Av (sprL n xs).length kv))
      have E2 := Lib.hid (ownOther OE.out E1.out (fun p hp e => by
        have := (OE.out.lt p hp).1
        have h2 : p = w.heap.size := by injection e
        omega))
      go_wp2
      refine bodyPost_ret (v := .agg #[.int .i16 (n : Int), .slice Av (sprL n xs).length kv]) (by simp [results, Tryd.results79, go_sem, a0, a1]) rfl ?_
      refine ⟨_, rfl, (ResN.of Pl.nine E2.out rfl).mono zlo, ?_⟩
      repeat (refine Below.setCell ?_ (by first | (simp; done) | (simp; omega) | omega) _)
      exact HB.out
end Go.Proofs.YtlphpajpjpohmaaDoor
