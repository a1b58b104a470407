/- The text of a book, appended to bytes of one's own by the program: contracts. Condition: the table of powers of ten is as laid; no number of the book is below nought; the bytes are not too many. -/
import Derived.Test.YtaahfcdpgcfmhaaDoorApM
import Derived.Test.YtaahfcdpgcfmhaaDoorBkT
import Derived.Deep.Cut
import Derived.Deep.CutRange
namespace Go.Proofs.YtaahfcdpgcfmhaaDoor
set_option linter.unusedSimpArgs false
set_option linter.unusedVariables false
set_option maxRecDepth 100000
open Go.RowKit

set_option maxHeartbeats 400000 in
theorem classKeyT (b : Bk) (hb : -32768 ≤ b.c ∧ b.c ≤ 32767) (w : World) :
    Calls Tryd.prog 131 #[.agg #[.int .i16 b.c, .int .u8 b.m0, .int .u8 b.m1, .int .u8 b.m2, .int .i16 b.v, .int .i16 b.wi, .int .i16 b.hi, .int .i16 b.we]] w fun e w' => e = .returned (.int .i64 b.c) ∧ Below w.heap.size w w' := by
  obtain ⟨c1, c2⟩ := hb
  go_enter Tryd.func131, Tryd.ntmps131
  go_wp2
  go_ret
  exact ⟨rfl, by go_grown⟩
set_option maxHeartbeats 400000 in
theorem volumeKeyT (b : Bk) (hb : -32768 ≤ b.v ∧ b.v ≤ 32767) (w : World) :
    Calls Tryd.prog 132 #[.agg #[.int .i16 b.c, .int .u8 b.m0, .int .u8 b.m1, .int .u8 b.m2, .int .i16 b.v, .int .i16 b.wi, .int .i16 b.hi, .int .i16 b.we]] w fun e w' => e = .returned (.int .i64 b.v) ∧ Below w.heap.size w w' := by
  obtain ⟨c1, c2⟩ := hb
  go_enter Tryd.func132, Tryd.ntmps132
  go_wp2
  go_ret
  exact ⟨rfl, by go_grown⟩
set_option maxHeartbeats 400000 in
theorem wideKeyT (b : Bk) (hb : -32768 ≤ b.wi ∧ b.wi ≤ 32767) (w : World) :
    Calls Tryd.prog 133 #[.agg #[.int .i16 b.c, .int .u8 b.m0, .int .u8 b.m1, .int .u8 b.m2, .int .i16 b.v, .int .i16 b.wi, .int .i16 b.hi, .int .i16 b.we]] w fun e w' => e = .returned (.int .i64 b.wi) ∧ Below w.heap.size w w' := by
  obtain ⟨c1, c2⟩ := hb
  go_enter Tryd.func133, Tryd.ntmps133
  go_wp2
  go_ret
  exact ⟨rfl, by go_grown⟩
set_option maxHeartbeats 400000 in
theorem highKeyT (b : Bk) (hb : -32768 ≤ b.hi ∧ b.hi ≤ 32767) (w : World) :
    Calls Tryd.prog 134 #[.agg #[.int .i16 b.c, .int .u8 b.m0, .int .u8 b.m1, .int .u8 b.m2, .int .i16 b.v, .int .i16 b.wi, .int .i16 b.hi, .int .i16 b.we]] w fun e w' => e = .returned (.int .i64 b.hi) ∧ Below w.heap.size w w' := by
  obtain ⟨c1, c2⟩ := hb
  go_enter Tryd.func134, Tryd.ntmps134
  go_wp2
  go_ret
  exact ⟨rfl, by go_grown⟩
set_option maxHeartbeats 400000 in
theorem weightKeyT (b : Bk) (hb : -32768 ≤ b.we ∧ b.we ≤ 32767) (w : World) :
    Calls Tryd.prog 135 #[.agg #[.int .i16 b.c, .int .u8 b.m0, .int .u8 b.m1, .int .u8 b.m2, .int .i16 b.v, .int .i16 b.wi, .int .i16 b.hi, .int .i16 b.we]] w fun e w' => e = .returned (.int .i64 b.we) ∧ Below w.heap.size w w' := by
  obtain ⟨c1, c2⟩ := hb
  go_enter Tryd.func135, Tryd.ntmps135
  go_wp2
  go_ret
  exact ⟨rfl, by go_grown⟩
theorem Txt.of {w : World} {B n : Nat} {v : Value} {L : List UInt8} {cs : List Value} (h : w.ownsRow B 5 1 v n cs) (hn : n = L.length) (hc : cs = Lib.byteCells L) : Txt w B v L := by
  unfold Txt
  rw [← hn, ← hc]
  exact h
theorem cellOne (w : World) (u : Value) (t : TypeId) : ∀ (j : Nat) (x : Value), [u][j]? = some x → (w.alloc (.cells #[u] t)).cell? (Addr.add ⟨w.heap.size, 0, none⟩ j) = some x := by
  intro j x hj
  rw [Addr.add_lit, Nat.zero_add, cell_of_row _ _ j _ _ _ (heap_alloc_new w _)]
  simpa using hj
theorem tNe : (44 : Nat) ≠ 5 := by decide
set_option maxHeartbeats 8000000 in
theorem appendBook_any (b : Bk) (bd : b.Pos) (B : Nat) (L : List UInt8) (v : Value) (w : World) (ht : Txt w B v L) (hB : B ≤ w.heap.size) (hlim : L.length ≤ 100000000) (htab : Tab B w) :
    Calls Tryd.prog 80 #[v, .agg #[.int .i16 b.c, .int .u8 b.m0, .int .u8 b.m1, .int .u8 b.m2, .int .i16 b.v, .int .i16 b.wi, .int .i16 b.hi, .int .i16 b.we]] w fun e w' => ∃ v', e = .returned v' ∧ Txt w' B v' (L ++ bookT b) ∧ Kp B w w' := by
  obtain ⟨i0, hi0, hz0, hz1, hz2⟩ := info_parts infoByteT
  have lc := dec_len (z := b.c) (by have := bd.c; omega)
  have lv := dec_len (z := b.v) (by have := bd.v; omega)
  have lwi := dec_len (z := b.wi) (by have := bd.wi; omega)
  have lhi := dec_len (z := b.hi) (by have := bd.hi; omega)
  have K0 := Lib.hid (fun W => classKeyT b (by have := bd.c; omega) W)
  have K1 := Lib.hid (fun W => volumeKeyT b (by have := bd.v; omega) W)
  have K2 := Lib.hid (fun W => wideKeyT b (by have := bd.wi; omega) W)
  have K3 := Lib.hid (fun W => highKeyT b (by have := bd.hi; omega) W)
  have K4 := Lib.hid (fun W => weightKeyT b (by have := bd.we; omega) W)
  have BD := Lib.hid bd
  have HT := Lib.hid htab
  have GX := Lib.hid (show Kp B w (w.alloc (.cells #[.int .i16 b.c, .int .u8 b.m0, .int .u8 b.m1, .int .u8 b.m2, .int .i16 b.v, .int .i16 b.wi, .int .i16 b.hi, .int .i16 b.we] 44)) from (Kp.refl B w).alloc hB _)
  have BX := Lib.hid (heap_alloc_new w (.cells #[.int .i16 b.c, .int .u8 b.m0, .int .u8 b.m1, .int .u8 b.m2, .int .i16 b.v, .int .i16 b.wi, .int .i16 b.hi, .int .i16 b.we] 44))
  have TX := Lib.hid (show Txt (w.alloc (.cells #[.int .i16 b.c, .int .u8 b.m0, .int .u8 b.m1, .int .u8 b.m2, .int .i16 b.v, .int .i16 b.wi, .int .i16 b.hi, .int .i16 b.we] 44)) B v L from ht.below ((Below.refl _ _).alloc (Nat.le_refl _) _))
  have g0 : w.heap.size = w.heap.size := rfl
  clear ht htab bd
  go_enter Tryd.func80, Tryd.ntmps80
  go_upto_region 1 with (fail)
  generalize hW : World.alloc w _ = W1 at GX BX TX ⊢
  have zz := GX.out.size
  clear hW g0
  have q0 : W1.cell? ⟨w.heap.size, 0, none⟩ = some (.int .i16 b.c) := cell_of_row W1 _ 0 _ _ _ BX.out
  have q1 : W1.cell? ⟨w.heap.size, 1, none⟩ = some (.int .u8 b.m0) := cell_of_row W1 _ 1 _ _ _ BX.out
  have q2 : W1.cell? ⟨w.heap.size, 2, none⟩ = some (.int .u8 b.m1) := cell_of_row W1 _ 2 _ _ _ BX.out
  have q3 : W1.cell? ⟨w.heap.size, 3, none⟩ = some (.int .u8 b.m2) := cell_of_row W1 _ 3 _ _ _ BX.out
  have q4 : W1.cell? ⟨w.heap.size, 4, none⟩ = some (.int .i16 b.v) := cell_of_row W1 _ 4 _ _ _ BX.out
  have q5 : W1.cell? ⟨w.heap.size, 5, none⟩ = some (.int .i16 b.wi) := cell_of_row W1 _ 5 _ _ _ BX.out
  have q6 : W1.cell? ⟨w.heap.size, 6, none⟩ = some (.int .i16 b.hi) := cell_of_row W1 _ 6 _ _ _ BX.out
  have q7 : W1.cell? ⟨w.heap.size, 7, none⟩ = some (.int .i16 b.we) := cell_of_row W1 _ 7 _ _ _ BX.out
  go_wp2_with fail
  refine (K0.out _).mono ?_
  rintro e u1 ⟨rfl, h1⟩
  have gu1 := Lib.hid (GX.out.below (by omega) h1)
  have tu1 := Lib.hid (TX.out.below h1)
  have bu1 := Lib.hid ((h1.block _ (Array.getElem?_eq_some_iff.1 BX.out).1).trans BX.out)
  have zu1 := h1.size
  clear q0 q1 q2 q3 q4 q5 q6 q7 h1
  go_wp2_with fail
  refine (number_txt B b.c (by have := BD.out.c; omega) (by have := BD.out.c; omega) [32] (L) _ _ tu1.out (by omega) (by simp only [List.length_append, List.length_cons, List.length_nil]; have : (mrkT b).length = 3 := rfl; omega) (HT.out.on gu1.out.b)).mono ?_
  rintro e w2 ⟨v2, rfl, ht1, hk1⟩
  have G2 := Lib.hid (gu1.out.trans hk1)
  have B2 := Lib.hid (hk1.box bu1.out tNe)
  have T2 := Lib.hid ht1
  have zw2 := hk1.size
  clear gu1 tu1 bu1 ht1 hk1
  have q0 : w2.cell? ⟨w.heap.size, 0, none⟩ = some (.int .i16 b.c) := cell_of_row w2 _ 0 _ _ _ B2.out
  have q1 : w2.cell? ⟨w.heap.size, 1, none⟩ = some (.int .u8 b.m0) := cell_of_row w2 _ 1 _ _ _ B2.out
  have q2 : w2.cell? ⟨w.heap.size, 2, none⟩ = some (.int .u8 b.m1) := cell_of_row w2 _ 2 _ _ _ B2.out
  have q3 : w2.cell? ⟨w.heap.size, 3, none⟩ = some (.int .u8 b.m2) := cell_of_row w2 _ 3 _ _ _ B2.out
  have q4 : w2.cell? ⟨w.heap.size, 4, none⟩ = some (.int .i16 b.v) := cell_of_row w2 _ 4 _ _ _ B2.out
  have q5 : w2.cell? ⟨w.heap.size, 5, none⟩ = some (.int .i16 b.wi) := cell_of_row w2 _ 5 _ _ _ B2.out
  have q6 : w2.cell? ⟨w.heap.size, 6, none⟩ = some (.int .i16 b.hi) := cell_of_row w2 _ 6 _ _ _ B2.out
  have q7 : w2.cell? ⟨w.heap.size, 7, none⟩ = some (.int .i16 b.we) := cell_of_row w2 _ 7 _ _ _ B2.out
  have CM := Lib.hid (show ∀ (j : Nat) (u : Value), [Value.int .u8 b.m0, .int .u8 b.m1, .int .u8 b.m2][j]? = some u → w2.cell? (Addr.add ⟨w.heap.size, 1, none⟩ j) = some u by
    intro j u hu
    rw [Addr.add_lit]
    match j, hu with
    | 0, hu => simp at hu; subst hu; exact q1
    | 1, hu => simp at hu; subst hu; exact q2
    | 2, hu => simp at hu; subst hu; exact q3)
  have EM := Lib.hid (show [Value.int .u8 b.m0, .int .u8 b.m1, .int .u8 b.m2] = Lib.byteCells (mrkT b) by
    have e0 := utoN BD.out.m0
    have e1 := utoN BD.out.m1
    have e2 := utoN BD.out.m2
    unfold mrkT Lib.byteCells
    simp only [List.map_cons, List.map_nil]
    rw [e0, e1, e2])
  go_wp2_with (at_builtin; refine wpList_append_own _ rfl (.tmp 9) (.tmp 11) _ rfl B 5 i0 (.int .u8 0) 1 1 Tryd.underlying121 hi0 hz0 hz1 hz2 rfl (by decide) _ _ _ rfl T2.out ⟨w.heap.size, 1, none⟩ 3 3 [.int .u8 b.m0, .int .u8 b.m1, .int .u8 b.m2] rfl rfl CM.out ?c2a ?c3a ?c4a ?c5a ?_)
  case c2a => (intro u hu; simp at hu; rcases hu with rfl | rfl | rfl <;> rfl)
  case c3a => (simp only [List.length_append, List.length_cons, List.length_nil]; unfold maxLen; omega)
  case c4a => (simp only [List.length_append, List.length_cons, List.length_nil]; omega)
  case c5a => omega
  intro v9 w9 hown9 hgrow9 _
  have T9 := Lib.hid (show Txt w9 B v9 ((L ++ (dec b.c ++ [32])) ++ mrkT b) by
    refine Txt.of hown9 ?_ ?_
    · simp only [List.length_append, List.length_cons, List.length_nil]
      rfl
    · rw [EM.out, ← Lib.byteCells_append])
  have G9 := Lib.hid (G2.out.grown T2.out hgrow9 (by omega))
  have k9 := Lib.hid ((Kp.refl B w2).grown T2.out hgrow9 (by omega))
  have B9 := Lib.hid (k9.out.box B2.out tNe)
  have zw9 := k9.out.size
  clear hown9 hgrow9 q0 q1 q2 q3 q4 q5 q6 q7 CM
  go_upto_region 3 with (fail)
  go_wp2_with (at_builtin; refine wpList_append_own _ rfl (.tmp 13) (.tmp 14) _ rfl B 5 i0 (.int .u8 0) 1 1 Tryd.underlying121 hi0 hz0 hz1 hz2 rfl (by decide) _ _ _ rfl (show Txt (w9.alloc (.cells #[.int .u8 32] 5)) B v9 ((L ++ (dec b.c ++ [32])) ++ mrkT b) from T9.out.below ((Below.refl _ _).alloc (Nat.le_refl _) _)) ⟨w9.heap.size, 0, none⟩ 1 1 [.int .u8 32] rfl rfl (cellOne w9 _ _) ?d2a ?d3a ?d4a ?d5a ?_)
  case d2a => (intro u hu; simp at hu; subst hu; rfl)
  case d3a => (simp only [List.length_append, List.length_cons, List.length_nil]; have : (mrkT b).length = 3 := rfl; unfold maxLen; omega)
  case d4a => (simp only [List.length_append, List.length_cons, List.length_nil]; have : (mrkT b).length = 3 := rfl; omega)
  case d5a => (simp; omega)
  intro va wa howna hgrowa _
  have Ta := Lib.hid (show Txt wa B va (((L ++ (dec b.c ++ [32])) ++ mrkT b) ++ [32]) by
    refine Txt.of howna ?_ ?_
    · simp only [List.length_append, List.length_cons, List.length_nil]
      omega
    · rw [Lib.byteCells_append _ [32]]
      simp only [List.append_assoc, List.cons_append, List.nil_append]
      rfl)
  have ka := Lib.hid (((Kp.refl B w9).alloc (by omega) (.cells #[.int .u8 32] 5)).grown (show Txt (w9.alloc (.cells #[.int .u8 32] 5)) B v9 ((L ++ (dec b.c ++ [32])) ++ mrkT b) from T9.out.below ((Below.refl _ _).alloc (Nat.le_refl _) _)) hgrowa (by simp; omega))
  have Ga := Lib.hid (G9.out.trans ka.out)
  have Ba := Lib.hid (ka.out.box B9.out tNe)
  have zwa := ka.out.size
  clear howna hgrowa ka k9
  have q0 : wa.cell? ⟨w.heap.size, 0, none⟩ = some (.int .i16 b.c) := cell_of_row wa _ 0 _ _ _ Ba.out
  have q1 : wa.cell? ⟨w.heap.size, 1, none⟩ = some (.int .u8 b.m0) := cell_of_row wa _ 1 _ _ _ Ba.out
  have q2 : wa.cell? ⟨w.heap.size, 2, none⟩ = some (.int .u8 b.m1) := cell_of_row wa _ 2 _ _ _ Ba.out
  have q3 : wa.cell? ⟨w.heap.size, 3, none⟩ = some (.int .u8 b.m2) := cell_of_row wa _ 3 _ _ _ Ba.out
  have q4 : wa.cell? ⟨w.heap.size, 4, none⟩ = some (.int .i16 b.v) := cell_of_row wa _ 4 _ _ _ Ba.out
  have q5 : wa.cell? ⟨w.heap.size, 5, none⟩ = some (.int .i16 b.wi) := cell_of_row wa _ 5 _ _ _ Ba.out
  have q6 : wa.cell? ⟨w.heap.size, 6, none⟩ = some (.int .i16 b.hi) := cell_of_row wa _ 6 _ _ _ Ba.out
  have q7 : wa.cell? ⟨w.heap.size, 7, none⟩ = some (.int .i16 b.we) := cell_of_row wa _ 7 _ _ _ Ba.out
  go_wp2_with fail
  refine (K1.out _).mono ?_
  rintro e u11 ⟨rfl, h11⟩
  have gu11 := Lib.hid (Ga.out.below (by omega) h11)
  have tu11 := Lib.hid (Ta.out.below h11)
  have bu11 := Lib.hid ((h11.block _ (Array.getElem?_eq_some_iff.1 Ba.out).1).trans Ba.out)
  have zu11 := h11.size
  clear q0 q1 q2 q3 q4 q5 q6 q7 h11
  go_wp2_with fail
  refine (number_txt B b.v (by have := BD.out.v; omega) (by have := BD.out.v; omega) [32] (((L ++ (dec b.c ++ [32])) ++ mrkT b) ++ [32]) _ _ tu11.out (by omega) (by simp only [List.length_append, List.length_cons, List.length_nil]; have : (mrkT b).length = 3 := rfl; omega) (HT.out.on gu11.out.b)).mono ?_
  rintro e w12 ⟨v12, rfl, ht11, hk11⟩
  have G12 := Lib.hid (gu11.out.trans hk11)
  have B12 := Lib.hid (hk11.box bu11.out tNe)
  have T12 := Lib.hid ht11
  have zw12 := hk11.size
  clear gu11 tu11 bu11 ht11 hk11
  have q0 : w12.cell? ⟨w.heap.size, 0, none⟩ = some (.int .i16 b.c) := cell_of_row w12 _ 0 _ _ _ B12.out
  have q1 : w12.cell? ⟨w.heap.size, 1, none⟩ = some (.int .u8 b.m0) := cell_of_row w12 _ 1 _ _ _ B12.out
  have q2 : w12.cell? ⟨w.heap.size, 2, none⟩ = some (.int .u8 b.m1) := cell_of_row w12 _ 2 _ _ _ B12.out
  have q3 : w12.cell? ⟨w.heap.size, 3, none⟩ = some (.int .u8 b.m2) := cell_of_row w12 _ 3 _ _ _ B12.out
  have q4 : w12.cell? ⟨w.heap.size, 4, none⟩ = some (.int .i16 b.v) := cell_of_row w12 _ 4 _ _ _ B12.out
  have q5 : w12.cell? ⟨w.heap.size, 5, none⟩ = some (.int .i16 b.wi) := cell_of_row w12 _ 5 _ _ _ B12.out
  have q6 : w12.cell? ⟨w.heap.size, 6, none⟩ = some (.int .i16 b.hi) := cell_of_row w12 _ 6 _ _ _ B12.out
  have q7 : w12.cell? ⟨w.heap.size, 7, none⟩ = some (.int .i16 b.we) := cell_of_row w12 _ 7 _ _ _ B12.out
  go_wp2_with fail
  refine (K2.out _).mono ?_
  rintro e u13 ⟨rfl, h13⟩
  have gu13 := Lib.hid (G12.out.below (by omega) h13)
  have tu13 := Lib.hid (T12.out.below h13)
  have bu13 := Lib.hid ((h13.block _ (Array.getElem?_eq_some_iff.1 B12.out).1).trans B12.out)
  have zu13 := h13.size
  clear q0 q1 q2 q3 q4 q5 q6 q7 h13
  go_wp2_with fail
  refine (number_txt B b.wi (by have := BD.out.wi; omega) (by have := BD.out.wi; omega) [120] (((L ++ (dec b.c ++ [32])) ++ mrkT b) ++ [32] ++ (dec b.v ++ [32])) _ _ tu13.out (by omega) (by simp only [List.length_append, List.length_cons, List.length_nil]; have : (mrkT b).length = 3 := rfl; omega) (HT.out.on gu13.out.b)).mono ?_
  rintro e w14 ⟨v14, rfl, ht13, hk13⟩
  have G14 := Lib.hid (gu13.out.trans hk13)
  have B14 := Lib.hid (hk13.box bu13.out tNe)
  have T14 := Lib.hid ht13
  have zw14 := hk13.size
  clear gu13 tu13 bu13 ht13 hk13
  have q0 : w14.cell? ⟨w.heap.size, 0, none⟩ = some (.int .i16 b.c) := cell_of_row w14 _ 0 _ _ _ B14.out
  have q1 : w14.cell? ⟨w.heap.size, 1, none⟩ = some (.int .u8 b.m0) := cell_of_row w14 _ 1 _ _ _ B14.out
  have q2 : w14.cell? ⟨w.heap.size, 2, none⟩ = some (.int .u8 b.m1) := cell_of_row w14 _ 2 _ _ _ B14.out
  have q3 : w14.cell? ⟨w.heap.size, 3, none⟩ = some (.int .u8 b.m2) := cell_of_row w14 _ 3 _ _ _ B14.out
  have q4 : w14.cell? ⟨w.heap.size, 4, none⟩ = some (.int .i16 b.v) := cell_of_row w14 _ 4 _ _ _ B14.out
  have q5 : w14.cell? ⟨w.heap.size, 5, none⟩ = some (.int .i16 b.wi) := cell_of_row w14 _ 5 _ _ _ B14.out
  have q6 : w14.cell? ⟨w.heap.size, 6, none⟩ = some (.int .i16 b.hi) := cell_of_row w14 _ 6 _ _ _ B14.out
  have q7 : w14.cell? ⟨w.heap.size, 7, none⟩ = some (.int .i16 b.we) := cell_of_row w14 _ 7 _ _ _ B14.out
  go_wp2_with fail
  refine (K3.out _).mono ?_
  rintro e u15 ⟨rfl, h15⟩
  have gu15 := Lib.hid (G14.out.below (by omega) h15)
  have tu15 := Lib.hid (T14.out.below h15)
  have bu15 := Lib.hid ((h15.block _ (Array.getElem?_eq_some_iff.1 B14.out).1).trans B14.out)
  have zu15 := h15.size
  clear q0 q1 q2 q3 q4 q5 q6 q7 h15
  go_wp2_with fail
  refine (number_txt B b.hi (by have := BD.out.hi; omega) (by have := BD.out.hi; omega) [32] (((L ++ (dec b.c ++ [32])) ++ mrkT b) ++ [32] ++ (dec b.v ++ [32]) ++ (dec b.wi ++ [120])) _ _ tu15.out (by omega) (by simp only [List.length_append, List.length_cons, List.length_nil]; have : (mrkT b).length = 3 := rfl; omega) (HT.out.on gu15.out.b)).mono ?_
  rintro e w16 ⟨v16, rfl, ht15, hk15⟩
  have G16 := Lib.hid (gu15.out.trans hk15)
  have B16 := Lib.hid (hk15.box bu15.out tNe)
  have T16 := Lib.hid ht15
  have zw16 := hk15.size
  clear gu15 tu15 bu15 ht15 hk15
  have q0 : w16.cell? ⟨w.heap.size, 0, none⟩ = some (.int .i16 b.c) := cell_of_row w16 _ 0 _ _ _ B16.out
  have q1 : w16.cell? ⟨w.heap.size, 1, none⟩ = some (.int .u8 b.m0) := cell_of_row w16 _ 1 _ _ _ B16.out
  have q2 : w16.cell? ⟨w.heap.size, 2, none⟩ = some (.int .u8 b.m1) := cell_of_row w16 _ 2 _ _ _ B16.out
  have q3 : w16.cell? ⟨w.heap.size, 3, none⟩ = some (.int .u8 b.m2) := cell_of_row w16 _ 3 _ _ _ B16.out
  have q4 : w16.cell? ⟨w.heap.size, 4, none⟩ = some (.int .i16 b.v) := cell_of_row w16 _ 4 _ _ _ B16.out
  have q5 : w16.cell? ⟨w.heap.size, 5, none⟩ = some (.int .i16 b.wi) := cell_of_row w16 _ 5 _ _ _ B16.out
  have q6 : w16.cell? ⟨w.heap.size, 6, none⟩ = some (.int .i16 b.hi) := cell_of_row w16 _ 6 _ _ _ B16.out
  have q7 : w16.cell? ⟨w.heap.size, 7, none⟩ = some (.int .i16 b.we) := cell_of_row w16 _ 7 _ _ _ B16.out
  go_wp2_with fail
  refine (K4.out _).mono ?_
  rintro e u17 ⟨rfl, h17⟩
  have gu17 := Lib.hid (G16.out.below (by omega) h17)
  have tu17 := Lib.hid (T16.out.below h17)
  have bu17 := Lib.hid ((h17.block _ (Array.getElem?_eq_some_iff.1 B16.out).1).trans B16.out)
  have zu17 := h17.size
  clear q0 q1 q2 q3 q4 q5 q6 q7 h17
  go_wp2_with fail
  refine (number_txt B b.we (by have := BD.out.we; omega) (by have := BD.out.we; omega) [] (((L ++ (dec b.c ++ [32])) ++ mrkT b) ++ [32] ++ (dec b.v ++ [32]) ++ (dec b.wi ++ [120]) ++ (dec b.hi ++ [32])) _ _ tu17.out (by omega) (by simp only [List.length_append, List.length_cons, List.length_nil]; have : (mrkT b).length = 3 := rfl; omega) (HT.out.on gu17.out.b)).mono ?_
  rintro e w18 ⟨v18, rfl, ht17, hk17⟩
  have G18 := Lib.hid (gu17.out.trans hk17)
  have B18 := Lib.hid (hk17.box bu17.out tNe)
  have T18 := Lib.hid ht17
  have zw18 := hk17.size
  clear gu17 tu17 bu17 ht17 hk17
  go_wp2
  go_ret
  refine ⟨_, rfl, ?_, G18.out⟩
  have h := T18.out
  simp only [List.append_assoc, List.append_nil] at h
  exact h
end Go.Proofs.YtaahfcdpgcfmhaaDoor
