/- Two books compared by an order, by the model: contract. Condition: the order is no longer than a slice can be, its numbers are int8s. -/
import Derived.Test.YtecpddkbbfpeeaaNumbers
import Derived.Test.YtecpddkbbfpeeaaOrd2
namespace Go.Proofs.Ytecpddkbbfpeeaa
set_option linter.unusedSimpArgs false
set_option linter.unusedVariables false
set_option maxRecDepth 100000
open Go.RowKit

/-- A book lies from cell o of block g on. -/
def BkAt (w : World) (g o : Nat) (b : Bk) : Prop :=
  g < w.heap.size ∧ w.cell? ⟨g, o, none⟩ = some (.int .i16 b.c) ∧ w.cell? ⟨g, o + 1, none⟩ = some (.int .u8 b.m0) ∧ w.cell? ⟨g, o + 2, none⟩ = some (.int .u8 b.m1) ∧ w.cell? ⟨g, o + 3, none⟩ = some (.int .u8 b.m2) ∧
  w.cell? ⟨g, o + 4, none⟩ = some (.int .i16 b.v) ∧ w.cell? ⟨g, o + 5, none⟩ = some (.int .i16 b.wi) ∧ w.cell? ⟨g, o + 6, none⟩ = some (.int .i16 b.hi) ∧ w.cell? ⟨g, o + 7, none⟩ = some (.int .i16 b.we)

theorem BkAt.below {w w' : World} {B g o : Nat} {b : Bk} (h : BkAt w g o b) (hb : Below B w w') (hg : g < B) : BkAt w' g o b := by
  obtain ⟨h0, h1, h2, h3, h4, h5, h6, h7, h8⟩ := h
  have f : ∀ i v, w.cell? ⟨g, i, none⟩ = some v → w'.cell? ⟨g, i, none⟩ = some v := fun i v hv => (hb.cell (p := ⟨g, i, none⟩) hg).trans hv
  exact ⟨Nat.lt_of_lt_of_le h0 hb.size, f _ _ h1, f _ _ h2, f _ _ h3, f _ _ h4, f _ _ h5, f _ _ h6, f _ _ h7, f _ _ h8⟩

theorem BkAt.next {w w' : World} {g o : Nat} {b : Bk} (h : BkAt w g o b) (hb : Below w.heap.size w w') : BkAt w' g o b := h.below hb h.1

theorem BooksAt.at_ {w : World} {g o : Nat} {xs : List Bk} (h : BooksAt w g o xs) (hg : g < w.heap.size) {i : Nat} (hi : i < xs.length) : BkAt w g (o + i * 8) xs[i] := by
  obtain ⟨p0, p1, p2, p3, p4, p5, p6, p7⟩ := booksAt_some h hi
  exact ⟨hg, p0, p1, p2, p3, p4, p5, p6, p7⟩

theorem bkAt_new (w : World) (b : Bk) (t : TypeId) : BkAt (w.alloc (.cells #[.int .i16 b.c, .int .u8 b.m0, .int .u8 b.m1, .int .u8 b.m2, .int .i16 b.v, .int .i16 b.wi, .int .i16 b.hi, .int .i16 b.we] t)) w.heap.size 0 b := by
  have h := heap_alloc_new w (.cells #[.int .i16 b.c, .int .u8 b.m0, .int .u8 b.m1, .int .u8 b.m2, .int .i16 b.v, .int .i16 b.wi, .int .i16 b.hi, .int .i16 b.we] t)
  refine ⟨by simp, ?_, ?_, ?_, ?_, ?_, ?_, ?_, ?_⟩ <;> (rw [cell_of_row _ _ _ _ _ _ h]; rfl)

theorem numbers_at (b : Bk) (hb : b.Wf) (g o : Nat) (f : Int) (w : World) (h : BkAt w g o b) :
    Calls Try.prog 67 #[.pointer (some ⟨g, o, none⟩), .int .i8 f] w fun e w' => e = .returned (.agg #[.int .i64 (n0 f b), .int .i64 (n1 f b), .int .i64 (n2 f b)]) ∧ Below w.heap.size w w' := by
  obtain ⟨h0, h1, h2, h3, h4, h5, h6, h7, h8⟩ := h
  exact l01Numbers_any b hb g o f w h1 h2 h3 h4 h5 h6 h7 h8 h0

theorem bool_cases (b : Bool) : b = true ∨ b = false := by cases b <;> simp

def RestTo (zs : List Int) (a b : Bk) (k : Nat) : Prop := cmpL zs a b = cmpL (zs.drop k) a b

theorem RestTo.succ {zs : List Int} {a b : Bk} {k : Nat} (h : RestTo zs a b k) (hk : k < zs.length) (hc : cmp1 zs[k] a b = 0) : RestTo zs a b (k + 1) := by
  unfold RestTo at *
  rw [h, cmpL_drop zs k hk a b, if_neg (by rw [hc]; simp)]

theorem RestTo.stop {zs : List Int} {a b : Bk} {k : Nat} (h : RestTo zs a b k) (hk : k < zs.length) {r : Int} (hc : cmp1 zs[k] a b = r) (hr : r ≠ 0) : cmpL zs a b = r := by
  unfold RestTo at *
  rw [h, cmpL_drop zs k hk a b, if_pos (by rw [hc]; exact hr), hc]

set_option maxHeartbeats 4000000 in
theorem l01Compare_any (v : Value) (zs : List Int) (hz : ∀ z ∈ zs, -128 ≤ z ∧ z ≤ 127) (a b : Bk) (wa : a.Wf) (wb : b.Wf) (ga oa gb ob : Nat) (w : World) (hs : IntsOf .i8 w v zs) (hn : zs.length ≤ maxLen) (ha : BkAt w ga oa a) (hb : BkAt w gb ob b) :
    Calls Try.prog 55 #[v, .pointer (some ⟨ga, oa, none⟩), .pointer (some ⟨gb, ob, none⟩)] w fun e w' => e = .returned (.int .i64 (cmpL zs a b)) ∧ Below w.heap.size w w' := by
  obtain ⟨A, c, rfl, hs⟩ := hs
  unfold maxLen at hn
  have HS := Lib.hid hs
  have HZ := Lib.hid hz
  have HA := Lib.hid ha
  have HB := Lib.hid hb
  have WA := Lib.hid wa
  have WB := Lib.hid wb
  clear hs hz ha hb wa wb
  go_enter Try.func55, Try.ntmps55
  go_wp2
  go_loopw [7] (fun i wr => ∃ k : Nat, k ≤ zs.length ∧ i = .int .i64 k ∧ RestTo zs a b k ∧ Below w.heap.size w wr) (fun i _ => zs.length - (intOf i).toNat)
  case atStart => exact ⟨0, Nat.zero_le _, rfl, rfl, Below.refl _ _⟩
  case round =>
    obtain ⟨k, hk, rfl, hrest, hb⟩ := hrel
    have HR := Lib.hid hrest
    clear hrest
    by_cases hlt : k < zs.length
    · obtain ⟨gs, os, rfl, hgs, hat⟩ := HS.out (by omega)
      have p0 := hat.below hb hgs k hlt
      have PP := Lib.hid p0
      have zs' := Nat.lt_of_lt_of_le hgs hb.size
      obtain ⟨z0, z1⟩ := HZ.out zs[k] (List.getElem_mem hlt)
      clear hat
      go_wp2_with fail
      refine (l01Field_any zs[k] _ z0 z1).mono ?_
      rintro e w' ⟨rfl, rfl⟩
      clear z0 z1
      go_wp2_with fail
      refine (numbers_at a WA.out _ _ _ _ (HA.out.below hb HA.out.1)).mono ?_
      rintro e w1 ⟨rfl, h1⟩
      go_wp2_with fail
      refine (numbers_at b WB.out _ _ _ _ (((HB.out.below hb HB.out.1).next h1).next ((Below.refl _ _).alloc (Nat.le_refl _) _))).mono ?_
      rintro e w2 ⟨rfl, h2⟩
      have P2 := (h2.cell (p := ⟨gs, os + k, none⟩) (by have := h1.size; simp; omega)).trans ((World.cell?_alloc_lt w1 _ _ (by have := h1.size; simp; omega)).trans ((h1.cell (p := ⟨gs, os + k, none⟩) zs').trans PP.out))
      have X := heap_alloc_new w1 (.cells #[.int .i64 (n0 (fieldOf zs[k]) a), .int .i64 (n1 (fieldOf zs[k]) a), .int .i64 (n2 (fieldOf zs[k]) a)] 36)
      have X2 := (h2.block w1.heap.size (by simp)).trans X
      have z12 : w1.heap.size < w2.heap.size := by have := h2.size; simp at this; omega
      have zg2 : gs < w2.heap.size := by have := h1.size; omega
      have g2 : Below w.heap.size w w2 := hb.trans ((h1.mono hb.size).trans ((((Below.refl _ _).alloc (Nat.le_refl _) _).trans (h2.mono (by simp))).mono (by have := h1.size; have := hb.size; omega)))
      have G := Lib.hid (g2.alloc (g2.size) (.cells #[.int .i64 (n0 (fieldOf zs[k]) b), .int .i64 (n1 (fieldOf zs[k]) b), .int .i64 (n2 (fieldOf zs[k]) b)] 36))
      have XX := Lib.hid ((Below.heap_alloc w2 (.cells #[.int .i64 (n0 (fieldOf zs[k]) b), .int .i64 (n1 (fieldOf zs[k]) b), .int .i64 (n2 (fieldOf zs[k]) b)] 36) _ z12).trans X2)
      have YY := Lib.hid (heap_alloc_new w2 (.cells #[.int .i64 (n0 (fieldOf zs[k]) b), .int .i64 (n1 (fieldOf zs[k]) b), .int .i64 (n2 (fieldOf zs[k]) b)] 36))
      have OO := Lib.hid ((World.cell?_alloc_lt w2 (.cells #[.int .i64 (n0 (fieldOf zs[k]) b), .int .i64 (n1 (fieldOf zs[k]) b), .int .i64 (n2 (fieldOf zs[k]) b)] 36) ⟨gs, os + k, none⟩ zg2).trans P2)
      have FST := Lib.hid (fun r hc hr => HR.out.stop hlt (r := r) hc hr)
      have FSU := Lib.hid (fun hc => HR.out.succ hlt hc)
      clear P2 X X2 g2 PP p0 HR h1 h2
      have hcases := cmp1_cases zs[k] a b
      go_wp2
      generalize hW : w2.alloc _ = W at G XX YY OO ⊢
      clear hW
      generalize cmp1 zs[k] a b = cc at hcases FST FSU
      generalize n0 (fieldOf zs[k]) a = x0 at hcases XX ⊢
      generalize n1 (fieldOf zs[k]) a = x1 at hcases XX ⊢
      generalize n2 (fieldOf zs[k]) a = x2 at hcases XX ⊢
      generalize n0 (fieldOf zs[k]) b = y0 at hcases YY ⊢
      generalize n1 (fieldOf zs[k]) b = y1 at hcases YY ⊢
      generalize n2 (fieldOf zs[k]) b = y2 at hcases YY ⊢
      generalize fieldOf zs[k] = f
      generalize zs[k] = z at hcases OO ⊢
      have X0 := cell_of_row W _ 0 _ _ _ XX.out
      have X1 := cell_of_row W _ 1 _ _ _ XX.out
      have X2 := cell_of_row W _ 2 _ _ _ XX.out
      have Y0 := cell_of_row W _ 0 _ _ _ YY.out
      have Y1 := cell_of_row W _ 1 _ _ _ YY.out
      have Y2 := cell_of_row W _ 2 _ _ _ YY.out
      have O := OO.out
      simp only [List.getElem?_toArray, List.getElem?_cons_zero, List.getElem?_cons_succ] at X0 X1 X2 Y0 Y1 Y2
      rcases bool_cases (decide (0 < z)) with hz | hz
      all_goals
        rcases hcases with ⟨e0, hc⟩ | ⟨e0, e1, hc⟩ | ⟨e0, e1, e2, hc⟩ | ⟨e0, e1, e2, hc⟩
        · have HC := Lib.hid hc
          have d0 : (x0 == y0) = false := by simpa using e0
          clear hc e0
          rcases bool_cases (decide (x0 < y0)) with hl | hl
          all_goals
            refine wp_loop_rounds 4 ?_
            rw [rounds_succ]; go_wp2; go_quiet (fail); go_wp2; go_quiet (fail); go_wp2
            go_ret
            refine ⟨?_, by repeat (first | exact G.out | refine below_drewN ?_ _)⟩
            first
              | (rw [FST.out (-1) (by rw [HC.out]; simp [side, hz, hl]) (by omega)]; rfl)
              | (rw [FST.out 1 (by rw [HC.out]; simp [side, hz, hl]) (by omega)]; rfl)
        · have HC := Lib.hid hc
          have d0 : (x0 == y0) = true := by simpa using e0
          have d1 : (x1 == y1) = false := by simpa using e1
          clear hc e0 e1
          rcases bool_cases (decide (x1 < y1)) with hl | hl
          all_goals
            refine wp_loop_rounds 4 ?_
            rw [rounds_succ]; go_wp2; go_quiet (fail); go_wp2
            rw [rounds_succ]; go_wp2; go_quiet (fail); go_wp2; go_quiet (fail); go_wp2
            go_ret
            refine ⟨?_, by repeat (first | exact G.out | refine below_drewN ?_ _)⟩
            first
              | (rw [FST.out (-1) (by rw [HC.out]; simp [side, hz, hl]) (by omega)]; rfl)
              | (rw [FST.out 1 (by rw [HC.out]; simp [side, hz, hl]) (by omega)]; rfl)
        · have HC := Lib.hid hc
          have d0 : (x0 == y0) = true := by simpa using e0
          have d1 : (x1 == y1) = true := by simpa using e1
          have d2 : (x2 == y2) = false := by simpa using e2
          clear hc e0 e1 e2
          rcases bool_cases (decide (x2 < y2)) with hl | hl
          all_goals
            refine wp_loop_rounds 4 ?_
            rw [rounds_succ]; go_wp2; go_quiet (fail); go_wp2
            rw [rounds_succ]; go_wp2; go_quiet (fail); go_wp2
            rw [rounds_succ]; go_wp2; go_quiet (fail); go_wp2; go_quiet (fail); go_wp2
            go_ret
            refine ⟨?_, by repeat (first | exact G.out | refine below_drewN ?_ _)⟩
            first
              | (rw [FST.out (-1) (by rw [HC.out]; simp [side, hz, hl]) (by omega)]; rfl)
              | (rw [FST.out 1 (by rw [HC.out]; simp [side, hz, hl]) (by omega)]; rfl)
        · have HC := Lib.hid hc
          have d0 : (x0 == y0) = true := by simpa using e0
          have d1 : (x1 == y1) = true := by simpa using e1
          have d2 : (x2 == y2) = true := by simpa using e2
          clear hc e0 e1 e2
          refine wp_loop_rounds 4 ?_
          rw [rounds_succ]; go_wp2; go_quiet (fail); go_wp2
          rw [rounds_succ]; go_wp2; go_quiet (fail); go_wp2
          rw [rounds_succ]; go_wp2; go_quiet (fail); go_wp2
          rw [rounds_succ]; go_wp2
          go_roundw
          case rel => exact ⟨k + 1, by omega, by go_num, FSU.out HC.out, by repeat (first | exact G.out | refine below_drewN ?_ _)⟩
          case measure => simp [intOf]; omega
    · obtain rfl : k = zs.length := by omega
      go_wp2
      go_ret
      refine ⟨?_, hb⟩
      have e := HR.out
      unfold RestTo at e
      rw [e, cmpL_end]
      rfl

end Go.Proofs.Ytecpddkbbfpeeaa
