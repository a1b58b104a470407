/- TakeBook, by the model and by the program: contracts. Condition: at most 1048576 books, whose numbers lie within their kinds; the two error variables hold errors of errors.New's make. -/
import Derived.Test.YtlphpajpjpohmaaDoorRkF
import Derived.Test.YtlphpajpjpohmaaDoorRkP3
import Derived.Test.YtlphpajpjpohmaaDoorResN
import Derived.Deep.CutBlock
namespace Go.Proofs.YtlphpajpjpohmaaDoor
set_option linter.unusedSimpArgs false
set_option linter.unusedVariables false
set_option maxRecDepth 100000
open Go.RowKit Go.Sort

noncomputable def tbC (r : Rk) (a : Int) : Int := if rkB r then (if inB a 0 (r.n - 1) then (if tkB r.ps a.toNat then 0 else 6) else 2) else 1
noncomputable def tbN (r : Rk) (a : Int) : Int := if tbC r a = 0 then r.n else 0
noncomputable def tbL (r : Rk) (a : Int) : List Pl := if tbC r a = 0 then outL r.ps a else []
theorem tbL_len (r : Rk) (a : Int) : (tbL r a).length ≤ r.ps.length := by
  unfold tbL
  split
  · exact outL_len _ _
  · simp
theorem tb_cases (r : Rk) (a : Int) : (rkB r = false ∧ tbN r a = 0 ∧ tbL r a = [] ∧ tbC r a = 1) ∨ (rkB r = true ∧ inB a 0 (r.n - 1) = false ∧ tbN r a = 0 ∧ tbL r a = [] ∧ tbC r a = 2) ∨
    (rkB r = true ∧ inB a 0 (r.n - 1) = true ∧ tkB r.ps a.toNat = false ∧ tbN r a = 0 ∧ tbL r a = [] ∧ tbC r a = 6) ∨ (rkB r = true ∧ inB a 0 (r.n - 1) = true ∧ tkB r.ps a.toNat = true ∧ tbN r a = r.n ∧ tbL r a = outL r.ps a ∧ tbC r a = 0) := by
  unfold tbN tbL
  cases h1 : rkB r
  · have e : tbC r a = 1 := by unfold tbC; rw [h1]; rfl
    exact .inl ⟨rfl, by rw [e]; rfl, by rw [e]; rfl, e⟩
  · cases h2 : inB a 0 (r.n - 1)
    · have e : tbC r a = 2 := by unfold tbC; rw [h1, h2]; rfl
      exact .inr (.inl ⟨rfl, rfl, by rw [e]; rfl, by rw [e]; rfl, e⟩)
    · cases h3 : tkB r.ps a.toNat
      · have e : tbC r a = 6 := by unfold tbC; rw [h1, h2, h3]; rfl
        exact .inr (.inr (.inl ⟨rfl, rfl, rfl, by rw [e]; rfl, by rw [e]; rfl, e⟩))
      · have e : tbC r a = 0 := by unfold tbC; rw [h1, h2, h3]; rfl
        exact .inr (.inr (.inr ⟨rfl, rfl, rfl, by rw [e]; rfl, by rw [e]; rfl, e⟩))
/-- The first k books without the one in a place. -/
def outT (ps : List Pl) (a : Int) (k : Nat) : List Pl := outL (ps.take k) a
theorem outT_zero (ps : List Pl) (a : Int) : outT ps a 0 = [] := by unfold outT; rw [List.take_zero]; rfl
theorem outT_yes {ps : List Pl} {a : Int} {k : Nat} (h : k < ps.length) (e : ps[k].p ≠ a) : outT ps a (k + 1) = outT ps a k ++ [ps[k]] := by
  unfold outT outL
  rw [List.take_succ_eq_append_getElem h, List.filter_append, List.filter_cons, if_pos (by simpa using e), List.filter_nil]
theorem outT_no {ps : List Pl} {a : Int} {k : Nat} (h : k < ps.length) (e : ps[k].p = a) : outT ps a (k + 1) = outT ps a k := by
  unfold outT outL
  rw [List.take_succ_eq_append_getElem h, List.filter_append, List.filter_cons, if_neg (by simp [e]), List.filter_nil, List.append_nil]
theorem outT_all (ps : List Pl) (a : Int) : outT ps a ps.length = outL ps a := by unfold outT; rw [List.take_length]
theorem outT_len (ps : List Pl) (a : Int) (k : Nat) : (outT ps a k).length ≤ k := Nat.le_trans (List.length_filter_le _ _) (by rw [List.length_take]; omega)

set_option maxHeartbeats 16000000 in
theorem specTakeBook_any (r : Rk) (hv : Value) (wf : r.Wf) (a : Int) (w : World) (hs : PlsOf w hv r.ps) (ml : r.ps.length ≤ maxLen) :
    Calls Tryd.prog 38 #[.agg #[.int .i16 r.n, hv], .int .i64 a] w fun e w' => ∃ u, e = .returned (.tuple #[.agg #[.int .i16 (tbN r a), u], .int .i64 (tbC r a)]) ∧ ResN Pl.cells 99 w' w.heap.size u (tbL r a) ∧ Below w.heap.size w w' := by
  have ra := RackAt.new 30 hs
  have RA := Lib.hid (ra.below ((Below.refl _ _).alloc (Nat.le_refl _) (.cells #[.int .i16 0, .slice none 0 0] 30)))
  have WF := Lib.hid wf
  obtain ⟨A, c, rfl, hat⟩ := hs
  have HT := Lib.hid hat
  obtain ⟨bn1, bn2⟩ := wf.n
  have G0 := Lib.hid (show Below w.heap.size w ((w.alloc (.cells #[.int .i16 r.n, .slice A r.ps.length c] 30)).alloc (.cells #[.int .i16 0, .slice none 0 0] 30)) by go_grown)
  have K0 := Lib.hid (show ((w.alloc (.cells #[.int .i16 r.n, .slice A r.ps.length c] 30)).alloc (.cells #[.int .i16 0, .slice none 0 0] 30)).heap[w.heap.size]? = some (.cells #[.int .i16 r.n, .slice A r.ps.length c] 30 (0, 0)) from (Below.heap_alloc _ _ _ (by simp)).trans (heap_alloc_new w _))
  have K1 := Lib.hid (show ((w.alloc (.cells #[.int .i16 r.n, .slice A r.ps.length c] 30)).alloc (.cells #[.int .i16 0, .slice none 0 0] 30)).heap[w.heap.size + 1]? = some (.cells #[.int .i16 0, .slice none 0 0] 30 (0, 0)) from by
    have := heap_alloc_new (w.alloc (.cells #[.int .i16 r.n, .slice A r.ps.length c] 30)) (.cells #[.int .i16 0, .slice none 0 0] 30)
    rwa [World.size_alloc] at this)
  clear wf ra hat
  have TC := Lib.hid (tb_cases r a)
  go_enter Tryd.func38, Tryd.ntmps38
  go_wp2_with fail
  generalize (w.alloc _).alloc _ = w0 at RA G0 K0 K1 ⊢
  refine (l05Ok_any r _ WF.out _ _ _ RA.out ml).mono ?_
  rintro e w1 ⟨rfl, h1⟩
  have zz0 : w.heap.size + 1 < w0.heap.size := (Array.getElem?_eq_some_iff.1 K1.out).1
  have B1 := Lib.hid (bnext G0.out h1)
  have R0 := Lib.hid ((h1.block _ (by omega)).trans K0.out)
  have R1 := Lib.hid ((h1.block _ zz0).trans K1.out)
  have zz1 := h1.size
  clear h1 RA K0 K1
  rcases TC.out with ⟨hk, e1, e2, e3⟩ | ⟨hk, hin, e1, e2, e3⟩ | ⟨hk, hin, ht, e1, e2, e3⟩ | ⟨hk, hin, ht, e1, e2, e3⟩
  · have E := Lib.hid (And.intro e1 (And.intro e2 e3))
    rw [hk]
    clear e1 e2 e3 hk
    have b0 := cell_of_row w1 _ 0 _ _ _ R1.out
    have b1 := cell_of_row w1 _ 1 _ _ _ R1.out
    have fz := fun j => frozen_of_row w1 _ j _ _ R1.out
    simp only [List.getElem?_toArray, List.getElem?_cons_zero, List.getElem?_cons_succ] at b0 b1
    go_wp2
    refine bodyPost_ret (v := .tuple #[.agg #[.int .i16 0, .slice none 0 0], .int .i64 1]) (by simp [results, Tryd.results38, go_sem, b0, b1]) rfl ?_
    refine ⟨.slice none 0 0, by rw [E.out.1, E.out.2.2], by rw [E.out.2.1]; exact ResN.nil _ _ _, ?_⟩
    repeat (refine Below.setCell ?_ (by first | (simp; done) | (simp; omega) | omega) _)
    exact B1.out
  · have E := Lib.hid (And.intro e1 (And.intro e2 e3))
    have c0 := cell_of_row w1 _ 0 _ _ _ R0.out
    simp only [List.getElem?_toArray, List.getElem?_cons_zero] at c0
    rw [hk]
    clear e1 e2 e3 hk
    go_wp2_with fail
    refine (l00In_any _ _ _ _).mono ?_
    rintro e w' ⟨rfl, rfl⟩
    rw [hin]
    clear hin
    have b0 := cell_of_row w1 _ 0 _ _ _ R1.out
    have b1 := cell_of_row w1 _ 1 _ _ _ R1.out
    have fz := fun j => frozen_of_row w1 _ j _ _ R1.out
    simp only [List.getElem?_toArray, List.getElem?_cons_zero, List.getElem?_cons_succ] at b0 b1
    go_wp2
    refine bodyPost_ret (v := .tuple #[.agg #[.int .i16 0, .slice none 0 0], .int .i64 2]) (by simp [results, Tryd.results38, go_sem, b0, b1]) rfl ?_
    refine ⟨.slice none 0 0, by rw [E.out.1, E.out.2.2], by rw [E.out.2.1]; exact ResN.nil _ _ _, ?_⟩
    repeat (refine Below.setCell ?_ (by first | (simp; done) | (simp; omega) | omega) _)
    exact B1.out
  all_goals
    have E := Lib.hid (And.intro e1 (And.intro e2 e3))
    have c0 := cell_of_row w1 _ 0 _ _ _ R0.out
    simp only [List.getElem?_toArray, List.getElem?_cons_zero] at c0
    rw [hk]
    have h60 := rkB_len hk
    obtain ⟨m, rfl⟩ : ∃ m : Nat, a = (m : Int) := ⟨a.toNat, by unfold inB at hin; simp at hin; omega⟩
    rw [Int.toNat_natCast] at ht
    obtain ⟨i0, hi0, hz0, hz1, hz2⟩ := info_parts infoPlaced
    clear e1 e2 e3 hk
    go_wp2_with fail
    refine (l00In_any _ _ _ _).mono ?_
    rintro e w' ⟨rfl, rfl⟩
    rw [hin]
    clear hin
    have D2 := Lib.hid (show Below w1.heap.size w1 (w1.alloc (.cells #[.int .i16 r.n, .slice none 0 0] 30)) from (Below.refl _ _).alloc (Nat.le_refl _) _)
    have R2 := Lib.hid (heap_alloc_new w1 (.cells #[.int .i16 r.n, .slice none 0 0] 30))
    go_upto_block 0 with (fail)
    generalize World.alloc w1 _ = w2 at D2 R2 ⊢
    have R0 := Lib.hid ((D2.out.block _ (by omega)).trans R0.out)
    have R1 := Lib.hid ((D2.out.block _ (by omega)).trans R1.out)
    have B2 := Lib.hid (bnext B1.out D2.out)
    have zz2 := D2.out.size
    have z12 : w1.heap.size < w2.heap.size := (Array.getElem?_eq_some_iff.1 R2.out).1
    have O0 := Lib.hid (show w2.ownsRow w2.heap.size 99 9 (.slice none 0 0) (outT r.ps m 0).length (flN Pl.cells (outT r.ps m 0)) from by rw [outT_zero]; exact ResN.own0 w2 w2.heap.size)
    clear c0
    go_wp2
    go_loopw [7] (fun i_ wr => ∃ (v : Value) (k : Nat), k ≤ r.ps.length ∧ i_ = .int .i64 (k : Int) ∧ wr.heap[w.heap.size]? = some (.cells #[.int .i16 r.n, .slice A r.ps.length c] 30 (0, 0)) ∧ wr.heap[w.heap.size + 1]? = some (.cells #[.int .i16 0, .slice none 0 0] 30 (0, 0)) ∧ wr.heap[w1.heap.size]? = some (.cells #[.int .i16 r.n, v] 30 (0, 0)) ∧ wr.ownsRow w2.heap.size 99 9 v (outT r.ps m k).length (flN Pl.cells (outT r.ps m k)) ∧ w2.heap.size ≤ wr.heap.size ∧ Below w.heap.size w wr) (fun i_ _ => r.ps.length - (intOf i_).toNat)
    case atStart => exact ⟨_, 0, Nat.zero_le _, rfl, R0.out, R1.out, R2.out, O0.out, Nat.le_refl _, B2.out⟩
    case round =>
      obtain ⟨v, k, hk, rfl, hk0, hk1, hk2, ho, hzw, hb⟩ := hrel
      have R0 := Lib.hid hk0
      have R1 := Lib.hid hk1
      have R2 := Lib.hid hk2
      have OW := Lib.hid ho
      have HB := Lib.hid hb
      have c1 := cell_of_row wr _ 1 _ _ _ R0.out
      simp only [List.getElem?_toArray, List.getElem?_cons_zero, List.getElem?_cons_succ] at c1
      clear hk0 hk1 hk2 ho hb
      by_cases hlt : k < r.ps.length
      · have hlt' := hlt
        obtain ⟨ga, oa, rfl, hga, hat⟩ := HT.out (by omega)
        obtain ⟨p0, p1, p2, p3, p4, p5, p6, p7, p8⟩ := plAt_some (hat.below HB.out hga) hlt
        obtain ⟨wp1, wp2⟩ := (WF.out.ps _ (List.getElem_mem hlt)).p
        have OY := Lib.hid (fun h => outT_yes (a := (m : Int)) hlt h)
        have ON := Lib.hid (fun h => outT_no (a := (m : Int)) hlt h)
        clear hat
        generalize r.ps[k] = x at OY ON p0 p1 p2 p3 p4 p5 p6 p7 p8 wp1 wp2
        by_cases hx : x.p = (m : Int)
        · have FE := Lib.hid (ON.out hx)
          have hx2 : (x.p == (m : Int)) = true := by simpa using hx
          rw [hx] at p0
          go_wp2
          go_roundw
          case rel => exact ⟨v, k + 1, by omega, by go_num, R0.out, R1.out, R2.out, by rw [FE.out]; exact OW.out, hzw, HB.out⟩
          case measure => simp [intOf]; omega
        · have FE := Lib.hid (OY.out hx)
          have hx2 : (x.p == (m : Int)) = false := by simpa using hx
          have hvl := Lib.hid (fun p hp => OW.out.lt p hp)
          have zR : w1.heap.size < wr.heap.size := by omega
          have cR : wr.cell? ⟨w1.heap.size, 1, none⟩ = some v := cell_of_row wr _ 1 _ _ _ R2.out
          have fR := frozen_of_row wr _ 1 _ _ R2.out
          have d9 : Below wr.heap.size wr (wr.drew.alloc (.cells #[.int .i16 x.p, .int .i16 x.b.c, .int .u8 x.b.m0, .int .u8 x.b.m1, .int .u8 x.b.m2, .int .i16 x.b.v, .int .i16 x.b.wi, .int .i16 x.b.hi, .int .i16 x.b.we] 99)) := ((Below.refl _ _).drew).alloc (Nat.le_refl _) _
          have c9 : (wr.alloc (.cells #[.int .i16 x.p, .int .i16 x.b.c, .int .u8 x.b.m0, .int .u8 x.b.m1, .int .u8 x.b.m2, .int .i16 x.b.v, .int .i16 x.b.wi, .int .i16 x.b.hi, .int .i16 x.b.we] 99)).cell? ⟨w1.heap.size, 1, none⟩ = some v := (((Below.refl wr.heap.size wr).alloc (Nat.le_refl _) _).cell (p := ⟨w1.heap.size, 1, none⟩) zR).trans cR
          have c10 : (wr.alloc (.cells #[.int .i16 x.p, .int .i16 x.b.c, .int .u8 x.b.m0, .int .u8 x.b.m1, .int .u8 x.b.m2, .int .i16 x.b.v, .int .i16 x.b.wi, .int .i16 x.b.hi, .int .i16 x.b.we] 99)).drew.cell? ⟨w1.heap.size, 1, none⟩ = some v := c9
          have OD := Lib.hid (ownBelow OW.out ((Below.refl _ wr).drew))
          have R09 := Lib.hid ((d9.block _ (by omega)).trans R0.out)
          have R19 := Lib.hid ((d9.block _ (by omega)).trans R1.out)
          have R29 := Lib.hid ((d9.block _ zR).trans R2.out)
          have HB9 := Lib.hid (bnext HB.out d9)
          have kl := outT_len r.ps m k
          clear d9
          go_wp2
          go_region_law (
            refine step_append_lies _ (by rfl) _ _ _ (by rfl) w2.heap.size 99 i0 (.agg #[.int .i16 0, .int .i16 0, .int .u8 0, .int .u8 0, .int .u8 0, .int .i16 0, .int .i16 0, .int .i16 0, .int .i16 0]) 9 16 Tryd.underlying28 hi0 hz0 hz1 hz2 rfl (by decide) v _ _ (by rfl) (OD.out.alloc _) ⟨wr.heap.size, 0, none⟩ 1 1 [.int .i16 x.p, .int .i16 x.b.c, .int .u8 x.b.m0, .int .u8 x.b.m1, .int .u8 x.b.m2, .int .i16 x.b.v, .int .i16 x.b.wi, .int .i16 x.b.hi, .int .i16 x.b.we] (by rfl) rfl (cell9_new _ _ _ _ _ _ _ _ _ _ _) (one9 x) (by decide) (by unfold maxLen; omega) (by omega) (by simp; omega) _ rfl ?_
            intro g4 cap w4 ho4 hg4 ha4 hl4
            have hne0 : some w.heap.size ≠ v.ownBlock := fun e => by have := (hvl.out _ e.symm).1; omega
            have hne1 : some (w.heap.size + 1) ≠ v.ownBlock := fun e => by have := (hvl.out _ e.symm).1; omega
            have hne2 : some w1.heap.size ≠ v.ownBlock := fun e => by have := (hvl.out _ e.symm).1; omega
            have R04 := (hg4.block _ (by simp; omega) hne0).trans R09.out
            have R14 := (hg4.block _ (by simp; omega) hne1).trans R19.out
            have R24 := (hg4.block _ (by simp; omega) hne2).trans R29.out
            have c4 : w4.cell? ⟨w1.heap.size, 1, none⟩ = some v := cell_of_row w4 _ 1 _ _ _ R24
            have f4 := frozen_of_row w4 _ 1 _ _ R24
            have S0 := Lib.hid ((Below.heap_setCell w4 ⟨w1.heap.size, 1, none⟩ (.slice (some ⟨g4, 0, none⟩) ((outT r.ps m k).length + 1) cap) _ (by simp; omega)).trans R04)
            have S1 := Lib.hid ((Below.heap_setCell w4 ⟨w1.heap.size, 1, none⟩ (.slice (some ⟨g4, 0, none⟩) ((outT r.ps m k).length + 1) cap) _ (by simp; omega)).trans R14)
            have S2 := Lib.hid (heap_setCell_same w4 w1.heap.size 1 _ _ (.slice (some ⟨g4, 0, none⟩) ((outT r.ps m k).length + 1) cap) R24)
            have hc4 : w4.ownsRow w2.heap.size 99 9 (.slice (some ⟨g4, 0, none⟩) ((outT r.ps m k).length + 1) cap) (outT r.ps m (k + 1)).length (flN Pl.cells (outT r.ps m (k + 1))) := by
              rw [FE.out, plN_snoc, List.length_append]
              exact ho4
            have hg4' : w2.heap.size ≤ g4 := (hc4.lt g4 rfl).1
            have S3 := Lib.hid (ownOther hc4 (only_set2 (World.grownBy.refl w4 (some w1.heap.size)) 1 (.slice (some ⟨g4, 0, none⟩) ((outT r.ps m k).length + 1) cap)) (fun p hp e => by
              have h1 : g4 = p := by injection hp
              have h2 : p = w1.heap.size := by injection e
              omega))
            have S4 : w2.heap.size ≤ w4.heap.size := by have := hg4.size; simp at this; omega
            have S5 := Lib.hid (show Below w.heap.size w (w4.setCell ⟨w1.heap.size, 1, none⟩ (.slice (some ⟨g4, 0, none⟩) ((outT r.ps m k).length + 1) cap)) from (HB9.out.grown hg4 HB9.out.size (fun p hp => by have := (hvl.out p hp).1; omega)).setCell (p := ⟨w1.heap.size, 1, none⟩) (by simp; omega) _)
            clear ho4 hg4 ha4 hl4 hne0 hne1 hne2 R04 R14 R24 hc4)
          all_goals
            go_wp2
            go_roundw
            case rel => exact ⟨_, k + 1, by omega, by go_num, S0.out, S1.out, S2.out, S3.out, by simpa using S4, S5.out⟩
            case measure => simp [intOf]; omega
      · obtain rfl : k = r.ps.length := by omega
        have OE := Lib.hid (show wr.ownsRow w2.heap.size 99 9 v (outL r.ps m).length (flN Pl.cells (outL r.ps m)) by have := OW.out; rwa [outT_all] at this)
        obtain ⟨Av, kv, rfl⟩ := ownForm OE.out
        have a0 := cell_of_row wr _ 0 _ _ _ R1.out
        have a1 := cell_of_row wr _ 1 _ _ _ R1.out
        have b0 := cell_of_row wr _ 0 _ _ _ R2.out
        have b1 := cell_of_row wr _ 1 _ _ _ R2.out
        have fz := fun j => frozen_of_row wr _ j _ _ R1.out
        simp only [List.getElem?_toArray, List.getElem?_cons_zero, List.getElem?_cons_succ] at a0 a1 b0 b1
        have zlo : w.heap.size ≤ w2.heap.size := by omega
        have c1 := cell_of_row wr _ 1 _ _ _ R0.out
        simp only [List.getElem?_toArray, List.getElem?_cons_zero, List.getElem?_cons_succ] at c1
        have E1 := Lib.hid (only_set2 (only_set2 (World.grownBy.refl wr (some (w.heap.size + 1))) 0 (.int .i16 r.n)) 1 (.slice Av (outL r.ps m).length kv))
        have E2 := Lib.hid (ownOther OE.out E1.out (fun p hp e => by
          have := (OE.out.lt p hp).1
          have h2 : p = w.heap.size + 1 := by injection e
          omega))
        by_cases hL : (outL r.ps m).length = r.ps.length
        · have hf := outL_same.1 hL
          have q1 : (((outL r.ps m).length : Int) == (r.ps.length : Int)) = true := by rw [hL]; simp
          have q2 : ((outL r.ps m).length == r.ps.length) = true := by rw [hL]; simp
          have HL := Lib.hid hL
          first
            | (exfalso; rw [hf] at ht; cases ht; done)
            | (clear hL hf ht
               go_wp2
               refine bodyPost_ret (v := .tuple #[.agg #[.int .i16 0, .slice none 0 0], .int .i64 6]) (by simp [results, Tryd.results38, go_sem, a0, a1]) rfl ?_
               refine ⟨.slice none 0 0, by rw [E.out.1, E.out.2.2], by rw [E.out.2.1]; exact ResN.nil _ _ _, ?_⟩
               repeat (refine Below.setCell ?_ (by first | (simp; done) | (simp; omega) | omega) _)
               exact HB.out)
        · have hf : tkB r.ps m = true := by
            cases h : tkB r.ps m
            · exact absurd (outL_same.2 h) hL
            · rfl
          have q1 : (((outL r.ps m).length : Int) == (r.ps.length : Int)) = false := by simp; omega
          have q2 : ((outL r.ps m).length == r.ps.length) = false := by simp; omega
          have q3 : ¬ (outL r.ps m).length = r.ps.length := hL
          first
            | (exfalso; rw [hf] at ht; cases ht; done)
            | (clear hf ht
               go_wp2
               refine bodyPost_ret (v := .tuple #[.agg #[.int .i16 r.n, .slice Av (outL r.ps m).length kv], .int .i64 0]) (by simp [results, Tryd.results38, go_sem, a0, a1]) rfl ?_
               refine ⟨_, by rw [E.out.1, E.out.2.2], by rw [E.out.2.1]; exact (ResN.of Pl.nine E2.out rfl).mono zlo, ?_⟩
               repeat (refine Below.setCell ?_ (by first | (simp; done) | (simp; omega) | omega) _)
               exact HB.out)
end Go.Proofs.YtlphpajpjpohmaaDoor
