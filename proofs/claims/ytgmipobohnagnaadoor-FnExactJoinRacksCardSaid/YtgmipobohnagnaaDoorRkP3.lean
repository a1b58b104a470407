/- The program's places: the rack of them: a contract. Condition: at most 60 places. -/
import Derived.Test.YtgmipobohnagnaaDoorRkP2
import Derived.Test.YtgmipobohnagnaaDoorRk
import Derived.Deep.AppendLies
import Derived.Deep.RegionWith
import Derived.Deep.RegionHeldLaw
import Derived.Deep.RegionLaw
import Derived.IntWalk
namespace Go.Proofs.YtgmipobohnagnaaDoor
set_option linter.unusedSimpArgs false
set_option linter.unusedVariables false
set_option maxRecDepth 100000
open Go.RowKit Go.Sort

theorem cell9_new (w : World) (a b c d e f g h i : Value) (t : TypeId) : ∀ (j : Nat) (u : Value), [a, b, c, d, e, f, g, h, i][j]? = some u → (w.alloc (.cells #[a, b, c, d, e, f, g, h, i] t)).cell? (Addr.add ⟨w.heap.size, 0, none⟩ j) = some u := by
  intro j u hu
  rw [Addr.add_lit, Nat.zero_add, cell_of_row _ _ j _ _ _ (heap_alloc_new w _)]
  match j, hu with
  | 0, hu => simpa using hu
  | 1, hu => simpa using hu
  | 2, hu => simpa using hu
  | 3, hu => simpa using hu
  | 4, hu => simpa using hu
  | 5, hu => simpa using hu
  | 6, hu => simpa using hu
  | 7, hu => simpa using hu
  | 8, hu => simpa using hu
theorem one9 (x : Pl) : ∀ u ∈ [Value.int .i16 x.p, .int .i16 x.b.c, .int .u8 x.b.m0, .int .u8 x.b.m1, .int .u8 x.b.m2, .int .i16 x.b.v, .int .i16 x.b.wi, .int .i16 x.b.hi, .int .i16 x.b.we], u.oneCell' = true := by
  intro u hu
  simp at hu
  rcases hu with rfl | rfl | rfl | rfl | rfl | rfl | rfl | rfl | rfl <;> rfl
theorem plN_snoc (L : List Pl) (x : Pl) : flN Pl.cells (L ++ [x]) = flN Pl.cells L ++ [.int .i16 x.p, .int .i16 x.b.c, .int .u8 x.b.m0, .int .u8 x.b.m1, .int .u8 x.b.m2, .int .i16 x.b.v, .int .i16 x.b.wi, .int .i16 x.b.hi, .int .i16 x.b.we] := flN_snoc L x
theorem ResN.own0 (w : World) (base : Nat) : w.ownsRow base 45 9 (.slice none 0 0) ([] : List Pl).length (flN Pl.cells []) := ⟨rfl, .inl ⟨rfl, rfl⟩⟩

def plT (q : List Pc) (k : Nat) : List Pl := (plq q).take k
theorem plT_succ {q : List Pc} {k j : Nat} (h : k < (whr true q).length) (e : (whr true q)[k] = (j : Int)) (hj : j < q.length) : plT q (k + 1) = plT q k ++ [⟨(j : Int), q[j].b⟩] := plq_take h e hj
theorem plT_len {q : List Pc} {k : Nat} (h : k ≤ (whr true q).length) : (plT q k).length = k := by unfold plT; rw [List.length_take, plq_length]; omega
theorem plT_all (q : List Pc) : plT q (whr true q).length = plq q := by unfold plT; rw [← plq_length, List.take_length]
set_option maxHeartbeats 16000000 in
theorem rackM_any (v0 : Value) (q : List Pc) (w : World) (hs : PcsOf w v0 q) (hn : q.length ≤ 200) :
    Calls Tryd.prog 19 #[v0] w fun e w' => ∃ u, e = .returned (.agg #[.int .i16 (q.length : Int), u]) ∧ ResN Pl.cells 45 w' w.heap.size u (plq q) ∧ Below w.heap.size w w' := by
  have HQ := Lib.hid hs
  obtain ⟨A, c, rfl, hs⟩ := hs
  have HS := Lib.hid hs
  obtain ⟨i0, hi0, hz0, hz1, hz2⟩ := info_parts infoPlaced
  have BZ := Lib.hid (show Below w.heap.size w ((w.alloc (.cells #[.int .i16 0, .slice none 0 0] 29)).alloc (.cells #[.int .i16 (q.length : Int), .slice none 0 0] 29)) by go_grown)
  have K0 := Lib.hid (show ((w.alloc (.cells #[.int .i16 0, .slice none 0 0] 29)).alloc (.cells #[.int .i16 (q.length : Int), .slice none 0 0] 29)).heap[w.heap.size]? = some (.cells #[.int .i16 0, .slice none 0 0] 29 (0, 0)) from (Below.heap_alloc _ _ _ (by simp)).trans (heap_alloc_new w _))
  have K1 := Lib.hid (show ((w.alloc (.cells #[.int .i16 0, .slice none 0 0] 29)).alloc (.cells #[.int .i16 (q.length : Int), .slice none 0 0] 29)).heap[w.heap.size + 1]? = some (.cells #[.int .i16 (q.length : Int), .slice none 0 0] 29 (0, 0)) from by
    have := heap_alloc_new (w.alloc (.cells #[.int .i16 0, .slice none 0 0] 29)) (.cells #[.int .i16 (q.length : Int), .slice none 0 0] 29)
    rwa [World.size_alloc] at this)
  clear hs
  go_enter Tryd.func19, Tryd.ntmps19
  go_wp2_with fail
  generalize (w.alloc _).alloc _ = w0 at BZ K0 K1 ⊢
  refine (whereM_any _ q true _ (HQ.out.below BZ.out) hn).mono ?_
  rintro e w1 ⟨v1, rfl, ho1, h1⟩
  have hwl := whr_length true q
  have WM := Lib.hid (fun z hz => whr_mem (t := true) (q := q) (z := z) hz)
  have PL := Lib.hid (plq_length q)
  have z1 := h1.size
  have zz0 : w.heap.size + 1 < w0.heap.size := (Array.getElem?_eq_some_iff.1 K1.out).1
  obtain ⟨A1, c1, rfl, -⟩ := ownsInts ho1
  have OI := Lib.hid ho1
  have LB := Lib.hid (fun p hp => (ho1.lt p hp).2)
  have B1 := Lib.hid (bnext BZ.out h1)
  have K0 := Lib.hid ((h1.block _ (by omega)).trans K0.out)
  have K1 := Lib.hid ((h1.block _ zz0).trans K1.out)
  have O0 := Lib.hid (show w1.ownsRow w1.heap.size 45 9 (.slice none 0 0) (plT q 0).length (flN Pl.cells (plT q 0)) from ResN.own0 w1 w1.heap.size)
  clear ho1 h1
  go_wp2
  go_loopw [13] (fun i_ wr => ∃ (v : Value) (k : Nat), k ≤ (whr true q).length ∧ i_ = .int .i64 (k : Int) ∧ wr.heap[w.heap.size]? = some (.cells #[.int .i16 0, .slice none 0 0] 29 (0, 0)) ∧ wr.heap[w.heap.size + 1]? = some (.cells #[.int .i16 (q.length : Int), v] 29 (0, 0)) ∧ wr.ownsRow w1.heap.size 45 9 v (plT q k).length (flN Pl.cells (plT q k)) ∧ wr.ownsRow w0.heap.size 2 1 (.slice A1 (whr true q).length c1) (whr true q).length ((whr true q).map (Value.int .i64)) ∧ w1.heap.size ≤ wr.heap.size ∧ Below w.heap.size w wr) (fun i_ _ => (whr true q).length - (intOf i_).toNat)
  case atStart => exact ⟨_, 0, Nat.zero_le _, rfl, K0.out, K1.out, O0.out, OI.out, Nat.le_refl _, B1.out⟩
  case round =>
    obtain ⟨v, k, hk, rfl, hk0, hk1, ho, hoi, hzw, hb⟩ := hrel
    have R0 := Lib.hid hk0
    have R1 := Lib.hid hk1
    have OW := Lib.hid ho
    have OI := Lib.hid hoi
    have HB := Lib.hid hb
    have KL := Lib.hid (plT_len hk)
    clear hk0 hk1 ho hoi hb
    by_cases hlt : k < (whr true q).length
    · have hlt' := hlt
      obtain ⟨A1', c1', e1, hi1⟩ := ownsInts OI.out
      obtain ⟨gl, ol, hgl0, hgl, hat⟩ := hi1 (by omega)
      have hA : A1 = some ⟨gl, ol, none⟩ := by injection e1 with a b d; rw [a]; exact hgl0
      subst hA
      have cl := hat k hlt
      obtain ⟨m1, m2⟩ := WM.out _ (List.getElem_mem hlt)
      obtain ⟨j, hj⟩ : ∃ j : Nat, (whr true q)[k] = (j : Int) := ⟨((whr true q)[k]).toNat, by omega⟩
      have hjq : j < q.length := by omega
      have PT := Lib.hid (plT_succ hlt hj hjq)
      rw [hj] at cl
      obtain ⟨ga, oa, rfl, hga, hqa⟩ := HS.out (by omega)
      obtain ⟨-, p1, p2, p3, p4, p5, p6, p7, p8⟩ := pcAt_some (hqa.below HB.out hga) hjq
      have hj1 : (0 : Int) ≤ (j : Int) := by omega
      have hj2 : (j : Int) < (q.length : Int) := by omega
      have hj3 : (j : Int) ≤ 200 := by omega
      clear hat hqa hj m1 m2 e1 hi1 hgl0
      generalize q[j].b = b at PT p1 p2 p3 p4 p5 p6 p7 p8
      have hvl := Lib.hid (fun p hp => OW.out.lt p hp)
      have zR : w.heap.size + 1 < wr.heap.size := by omega
      have cR : wr.cell? ⟨w.heap.size + 1, 1, none⟩ = some v := cell_of_row wr _ 1 _ _ _ R1.out
      have fR := frozen_of_row wr _ 1 _ _ R1.out
      have d9 : Below wr.heap.size wr (wr.drew.alloc (.cells #[.int .i16 (j : Int), .int .i16 b.c, .int .u8 b.m0, .int .u8 b.m1, .int .u8 b.m2, .int .i16 b.v, .int .i16 b.wi, .int .i16 b.hi, .int .i16 b.we] 45)) := ((Below.refl _ _).drew).alloc (Nat.le_refl _) _
      have c9 : (wr.alloc (.cells #[.int .i16 (j : Int), .int .i16 b.c, .int .u8 b.m0, .int .u8 b.m1, .int .u8 b.m2, .int .i16 b.v, .int .i16 b.wi, .int .i16 b.hi, .int .i16 b.we] 45)).cell? ⟨w.heap.size + 1, 1, none⟩ = some v := (((Below.refl wr.heap.size wr).alloc (Nat.le_refl _) _).cell (p := ⟨w.heap.size + 1, 1, none⟩) zR).trans cR
      have c10 : (wr.alloc (.cells #[.int .i16 (j : Int), .int .i16 b.c, .int .u8 b.m0, .int .u8 b.m1, .int .u8 b.m2, .int .i16 b.v, .int .i16 b.wi, .int .i16 b.hi, .int .i16 b.we] 45)).drew.cell? ⟨w.heap.size + 1, 1, none⟩ = some v := c9
      have OD := Lib.hid (ownBelow OW.out ((Below.refl _ wr).drew))
      have OI9 := Lib.hid (ownBelow OI.out d9)
      have R09 := Lib.hid ((d9.block _ (by omega)).trans R0.out)
      have R19 := Lib.hid ((d9.block _ zR).trans R1.out)
      have HB9 := Lib.hid (bnext HB.out d9)
      have kl : (plT q k).length ≤ 200 := by rw [KL.out]; omega
      have n16 : IntKind.i16.wrap (j : Int) = (j : Int) := IntWalk.i16_in _ (by omega)
      clear d9
      go_wp2
      go_region_law (
        refine step_append_lies _ (by rfl) (.tmp 18) (.tmp 27) _ (by rfl) w1.heap.size 45 i0 (.agg #[.int .i16 0, .int .i16 0, .int .u8 0, .int .u8 0, .int .u8 0, .int .i16 0, .int .i16 0, .int .i16 0, .int .i16 0]) 9 16 Tryd.underlying27 hi0 hz0 hz1 hz2 rfl (by decide) v _ _ (by rfl) (OD.out.alloc _) ⟨wr.heap.size, 0, none⟩ 1 1 [.int .i16 (j : Int), .int .i16 b.c, .int .u8 b.m0, .int .u8 b.m1, .int .u8 b.m2, .int .i16 b.v, .int .i16 b.wi, .int .i16 b.hi, .int .i16 b.we] (by rfl) rfl (cell9_new _ _ _ _ _ _ _ _ _ _ _) (one9 ⟨(j : Int), b⟩) (by decide) (by unfold maxLen; omega) (by omega) (by simp; omega) _ rfl ?_
        intro g4 cap w4 ho4 hg4 ha4 hl4
        have hne0 : some w.heap.size ≠ v.ownBlock := fun e => by have := (hvl.out _ e.symm).1; omega
        have hne1 : some (w.heap.size + 1) ≠ v.ownBlock := fun e => by have := (hvl.out _ e.symm).1; omega
        have R04 := (hg4.block _ (by simp; omega) hne0).trans R09.out
        have R14 := (hg4.block _ (by simp; omega) hne1).trans R19.out
        have c4 : w4.cell? ⟨w.heap.size + 1, 1, none⟩ = some v := cell_of_row w4 _ 1 _ _ _ R14
        have f4 := frozen_of_row w4 _ 1 _ _ R14
        have S0 := Lib.hid ((Below.heap_setCell w4 ⟨w.heap.size + 1, 1, none⟩ (.slice (some ⟨g4, 0, none⟩) ((plT q k).length + 1) cap) _ (by simp)).trans R04)
        have S1 := Lib.hid (heap_setCell_same w4 (w.heap.size + 1) 1 _ _ (.slice (some ⟨g4, 0, none⟩) ((plT q k).length + 1) cap) R14)
        have hc4 : w4.ownsRow w1.heap.size 45 9 (.slice (some ⟨g4, 0, none⟩) ((plT q k).length + 1) cap) (plT q (k + 1)).length (flN Pl.cells (plT q (k + 1))) := by
          rw [PT.out, plN_snoc, List.length_append]
          exact ho4
        have hg4' : w1.heap.size ≤ g4 := (hc4.lt g4 rfl).1
        have S2 := Lib.hid (ownOther hc4 (only_set2 (World.grownBy.refl w4 (some (w.heap.size + 1))) 1 (.slice (some ⟨g4, 0, none⟩) ((plT q k).length + 1) cap)) (fun p hp e => by
          have h1 : g4 = p := by injection hp
          have h2 : p = w.heap.size + 1 := by injection e
          omega))
        have hgl1 := (OI.out.lt gl rfl).1
        have hgl2 := LB.out gl rfl
        have S3 := Lib.hid (ownOther (ownOther OI9.out hg4 (fun p hp e => by
          have h1 : gl = p := by injection hp
          subst h1
          have := (hvl.out _ e.symm).1
          omega)) (only_set2 (World.grownBy.refl w4 (some (w.heap.size + 1))) 1 (.slice (some ⟨g4, 0, none⟩) ((plT q k).length + 1) cap)) (fun p hp e => by
          have h1 : gl = p := by injection hp
          have h2 : p = w.heap.size + 1 := by injection e
          omega))
        have S4 : w1.heap.size ≤ w4.heap.size := by have := hg4.size; simp at this; omega
        have S5 := Lib.hid (show Below w.heap.size w (w4.setCell ⟨w.heap.size + 1, 1, none⟩ (.slice (some ⟨g4, 0, none⟩) ((plT q k).length + 1) cap)) from (HB9.out.grown hg4 HB9.out.size (fun p hp => by have := (hvl.out p hp).1; omega)).setCell (p := ⟨w.heap.size + 1, 1, none⟩) (by simp) _)
        clear ho4 hg4 ha4 hl4 hne0 hne1 R04 R14 hc4)
      all_goals
        go_wp2
        go_roundw
        case rel => exact ⟨_, k + 1, by omega, by go_num, S0.out, S1.out, S2.out, S3.out, by simpa using S4, S5.out⟩
        case measure => simp [intOf]; omega
    · obtain rfl : k = (whr true q).length := by omega
      obtain ⟨Av, nv, kv, rfl⟩ : ∃ A n c, v = .slice A n c := by rcases OW.out.2 with ⟨h, _⟩ | ⟨g, cap, cur, h, _⟩ <;> exact ⟨_, _, _, h⟩
      generalize hv : Value.slice Av nv kv = v at *
      have OE := Lib.hid (show wr.ownsRow w1.heap.size 45 9 v (plq q).length (flN Pl.cells (plq q)) by have := OW.out; rwa [plT_all] at this)
      have a0 := cell_of_row wr _ 0 _ _ _ R0.out
      have a1 := cell_of_row wr _ 1 _ _ _ R0.out
      have b0 := cell_of_row wr _ 0 _ _ _ R1.out
      have b1 := cell_of_row wr _ 1 _ _ _ R1.out
      have fz := fun j => frozen_of_row wr _ j _ _ R0.out
      simp only [List.getElem?_toArray, List.getElem?_cons_zero, List.getElem?_cons_succ] at a0 a1 b0 b1
      have hz1 : w.heap.size ≤ w1.heap.size := by omega
      have E1 := Lib.hid (only_set2 (only_set2 (World.grownBy.refl wr (some w.heap.size)) 0 (.int .i16 (q.length : Int))) 1 v)
      have E2 := Lib.hid (ownOther OE.out E1.out (fun p hp e => by
        have := (OE.out.lt p hp).1
        have h2 : p = w.heap.size := by injection e
        omega))
      subst hv
      go_wp2
      refine bodyPost_ret (v := .agg #[.int .i16 (q.length : Int), .slice Av nv kv]) (by simp [results, Tryd.results19, go_sem, a0, a1]) rfl ?_
      refine ⟨_, rfl, (ResN.of Pl.nine E2.out rfl).mono hz1, ?_⟩
      repeat (refine Below.setCell ?_ (by first | (simp; done) | (simp; omega) | omega) _)
      exact HB.out
theorem rack_any (v0 : Value) (q : List Pc) (w : World) (hs : PcsOf w v0 q) (hn : q.length ≤ 60) :
    Calls Tryd.prog 19 #[v0] w fun e w' => ∃ u, e = .returned (.agg #[.int .i16 (q.length : Int), u]) ∧ ResN Pl.cells 45 w' w.heap.size u (plq q) ∧ Below w.heap.size w w' :=
  rackM_any v0 q w hs (by omega)
end Go.Proofs.YtgmipobohnagnaaDoor
