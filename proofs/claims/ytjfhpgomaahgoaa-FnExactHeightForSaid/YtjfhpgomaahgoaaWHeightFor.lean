/- The law of HeightFor, walked. No condition. -/
import Derived.Test.YtjfhpgomaahgoaaHFor
namespace Go.Proofs.Ytjfhpgomaahgoaa
set_option linter.unusedSimpArgs false
set_option linter.unusedVariables false
set_option maxRecDepth 100000
open Go.RowKit

set_option maxHeartbeats 8000000 in
theorem walkHeightFor (p0 : Pg) (wf0 : p0.Wf) (v1 : Value) (zs1 : List Int) (wf1 : ∀ z ∈ zs1, (Lit.int .i64 z).wf = true) (b2 : Bk) (wf2 : b2.Wf) (w : World) (sl1 : IntsOf .i64 w v1 zs1) (ml1 : zs1.length ≤ maxLen) :
    Calls Try.prog 9 #[.agg #[.int .i16 p0.lo, .int .i16 p0.st, .int .i16 p0.bo], v1, .agg #[.int .i16 b2.c, .int .u8 b2.m0, .int .u8 b2.m1, .int .u8 b2.m2, .int .i16 b2.v, .int .i16 b2.wi, .int .i16 b2.hi, .int .i16 b2.we]] w fun e w' => e = .returned (.bool true) ∧ Below w.heap.size w w' := by
  have WF0 := Lib.hid wf0
  have WF2 := Lib.hid wf2
  have mx1 : zs1.length ≤ 9223372036854775807 := by unfold maxLen at ml1; omega
  have SL1 := Lib.hid sl1
  have WF1 := Lib.hid wf1
  have ML1 := Lib.hid ml1
  obtain ⟨A1, k1, rfl, -⟩ := sl1
  clear wf0 wf1 wf2 ml1
  obtain ⟨PO, hPO⟩ : ∃ o : Obj, o = .cells #[.int .i16 p0.lo, .int .i16 p0.st, .int .i16 p0.bo] 24 := ⟨_, rfl⟩
  obtain ⟨BO, hBO⟩ : ∃ o : Obj, o = .cells #[.int .i16 b2.c, .int .u8 b2.m0, .int .u8 b2.m1, .int .u8 b2.m2, .int .i16 b2.v, .int .i16 b2.wi, .int .i16 b2.hi, .int .i16 b2.we] 59 := ⟨_, rfl⟩
  have h1 : Below w.heap.size w ((w.alloc PO).alloc BO) := by go_grown
  have A0 := Lib.hid (show PegIn ((w.alloc PO).alloc BO) w.heap.size p0 by rw [hPO]; have h := PegIn.new w p0 24; exact h.below ((Below.refl _ _).alloc (Nat.le_refl _) _) (by simp))
  have B0 := Lib.hid (show BkBox ((w.alloc PO).alloc BO) (w.heap.size + 1) b2 by rw [hBO]; have h := BkBox.new (w.alloc PO) b2 59; rw [World.size_alloc] at h; exact h)
  have Z0 := Lib.hid (show w.heap.size < ((w.alloc PO).alloc BO).heap.size by simp; omega)
  by_cases hn1 : (zs1.length : Int) ≤ 1048576
  · have e1 : ¬ ((1048576 : Int) < (zs1.length : Int)) := by omega
    go_enter Try.func9, Try.ntmps9
    go_wp2
    rw [← hPO, ← hBO]
    generalize (w.alloc PO).alloc BO = w1 at A0 B0 Z0 h1 ⊢
    replace hn1 : zs1.length ≤ 1048576 := by omega
    have b0 : Below w1.heap.size w1 w1.drew := (Below.refl _ _).drew
    have HK := Lib.hid (show ∀ W1, Below w1.heap.size w1 W1 → (fun W1 => Below w1.heap.size w1 W1 ∧ W1.cell? ⟨w.heap.size, 0, none⟩ = some (.int .i16 p0.lo) ∧ W1.cell? ⟨w.heap.size, 1, none⟩ = some (.int .i16 p0.st) ∧ W1.cell? ⟨w.heap.size, 2, none⟩ = some (.int .i16 p0.bo) ∧ W1.cell? ⟨w.heap.size + 1, 0, none⟩ = some (.int .i16 b2.c) ∧ W1.cell? ⟨w.heap.size + 1, 1, none⟩ = some (.int .u8 b2.m0) ∧ W1.cell? ⟨w.heap.size + 1, 2, none⟩ = some (.int .u8 b2.m1) ∧ W1.cell? ⟨w.heap.size + 1, 3, none⟩ = some (.int .u8 b2.m2) ∧ W1.cell? ⟨w.heap.size + 1, 4, none⟩ = some (.int .i16 b2.v) ∧ W1.cell? ⟨w.heap.size + 1, 5, none⟩ = some (.int .i16 b2.wi) ∧ W1.cell? ⟨w.heap.size + 1, 6, none⟩ = some (.int .i16 b2.hi) ∧ W1.cell? ⟨w.heap.size + 1, 7, none⟩ = some (.int .i16 b2.we)) W1 from fun W1 hB => by
      have h := A0.out.below hB Z0.out
      have k := B0.out.below hB
      exact ⟨hB, h.c0, h.c1, h.c2, k.c0, k.c1, k.c2, k.c3, k.c4, k.c5, k.c6, k.c7⟩)
    go_region_held3 (fun W1 => Below w1.heap.size w1 W1 ∧ W1.cell? ⟨w.heap.size, 0, none⟩ = some (.int .i16 p0.lo) ∧ W1.cell? ⟨w.heap.size, 1, none⟩ = some (.int .i16 p0.st) ∧ W1.cell? ⟨w.heap.size, 2, none⟩ = some (.int .i16 p0.bo) ∧ W1.cell? ⟨w.heap.size + 1, 0, none⟩ = some (.int .i16 b2.c) ∧ W1.cell? ⟨w.heap.size + 1, 1, none⟩ = some (.int .u8 b2.m0) ∧ W1.cell? ⟨w.heap.size + 1, 2, none⟩ = some (.int .u8 b2.m1) ∧ W1.cell? ⟨w.heap.size + 1, 3, none⟩ = some (.int .u8 b2.m2) ∧ W1.cell? ⟨w.heap.size + 1, 4, none⟩ = some (.int .i16 b2.v) ∧ W1.cell? ⟨w.heap.size + 1, 5, none⟩ = some (.int .i16 b2.wi) ∧ W1.cell? ⟨w.heap.size + 1, 6, none⟩ = some (.int .i16 b2.hi) ∧ W1.cell? ⟨w.heap.size + 1, 7, none⟩ = some (.int .i16 b2.we)) (first | exact HK.out _ b0 | exact HK.out _ (And.left (by assumption)) | (refine HK.out _ (bnext ?_ hq); exact And.left (by assumption))) (first
      | (go_at_call 16; refine (toPegs_any p0 _).mono ?_; rintro e w' ⟨rfl, hq⟩)
      | (go_at_call 19; refine (toInt64S_any _ zs1 _ (SL1.out.below (bnext h1 (And.left (by assumption)))) hn1).mono ?_; rintro e w' ⟨g0, rfl, hg, hr, hq⟩; have R0 := Lib.hid (IRow.slice hr); clear hr hg)
      | (go_at_call 40; refine (toBook_any b2 _).mono ?_; rintro e w' ⟨rfl, hq⟩; have R0 := Lib.hid (R0.out.below hq))
      | (go_at_call 39; refine (specHeightFor_any p0 WF0.out _ zs1 b2 WF1.out WF2.out _ R0.out ML1.out).mono ?_; rintro e w2 ⟨rfl, hq⟩))
    all_goals
      have hf : Below w1.heap.size w1 _ := And.left (by assumption)
      have h2 := Lib.hid hf
      rename_i hheld
      clear hf hheld hq b0 HK R0
      go_wp2_with fail
      refine (toInt64S_any _ zs1 _ (SL1.out.below (bnext h1 h2.out)) hn1).mono ?_
      rintro e w3 ⟨g1, rfl, hg1, hr1, h3⟩
      have R1 := Lib.hid (IRow.slice hr1)
      clear hr1 hg1
      have CI := Lib.hid (fun W (q : IntsOf .i64 W (.slice (some ⟨g1, 0, none⟩) zs1.length zs1.length) zs1) => heightFor_any p0 WF0.out _ zs1 b2 WF1.out WF2.out W q ML1.out)
      have hA := A0.out.below (bnext h2.out h3) Z0.out
      have hB := B0.out.below (bnext h2.out h3)
      have zA : w.heap.size < w3.heap.size := Nat.lt_of_lt_of_le Z0.out (bnext h2.out h3).size
      have zB := hB.lt
      have a0 := belowBy_cell zA hA.c0; have a1 := belowBy_cell zA hA.c1; have a2 := belowBy_cell zA hA.c2
      have q0 := belowBy_cell zB hB.c0; have q1 := belowBy_cell zB hB.c1; have q2 := belowBy_cell zB hB.c2; have q3 := belowBy_cell zB hB.c3
      have q4 := belowBy_cell zB hB.c4; have q5 := belowBy_cell zB hB.c5; have q6 := belowBy_cell zB hB.c6; have q7 := belowBy_cell zB hB.c7
      clear hA hB
      go_wp2
      refine wp_region_below (by kernel_rfl) (by kernel_rfl) ?_
      repeat (quiet_step ((first | (go_at_call 16; with_reducible exact calls_below (toPegs_any p0 _)) | (go_at_call 40; with_reducible exact calls_below (toBook_any b2 _)) | (go_at_call 41; exact calls_below (CI.out _ (R1.out.below (BelowBy.h _)))))))
      refine wpQuiet_nil ?_
      rintro wq ⟨⟨_, h4⟩, rfl⟩
      clear a0 a1 a2 q0 q1 q2 q3 q4 q5 q6 q7
      generalize hfV p0 zs1 b2 = r0
      generalize hfC p0 zs1 b2 = r1
      go_wp2_with fail
      refine (toInt64S_any _ zs1 _ (SL1.out.below (bnext h1 (bnext (bnext h2.out h3) h4))) hn1).mono ?_
      rintro e w5 ⟨g2, rfl, hg2, hr2, h5⟩
      have R2 := Lib.hid (IRow.slice hr2)
      clear hr2 hg2
      go_wp2_with fail
      refine (eqInt64S_same' _ _ zs1 _ (R1.out.below (bnext h4 h5)) R2.out ML1.out).mono ?_
      rintro e w6 ⟨rfl, h6⟩
      go_wp2
      go_ret
      exact ⟨rfl, bnext h1 (bnext (bnext (bnext (bnext h2.out h3) h4) h5) h6)⟩
  · have e1 : (1048576 : Int) < (zs1.length : Int) := by omega
    go_enter Try.func9, Try.ntmps9
    go_wp2
    go_ret
    exact ⟨rfl, by go_grown⟩

end Go.Proofs.Ytjfhpgomaahgoaa
