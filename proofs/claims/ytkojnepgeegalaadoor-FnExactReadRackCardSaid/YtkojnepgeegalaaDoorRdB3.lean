/- ReadBook, by the model: a contract. Condition: a text no longer than told. -/
import Derived.Test.YtkojnepgeegalaaDoorRdB2
import Derived.Deep.RegionHeld3
namespace Go.Proofs.YtkojnepgeegalaaDoor
set_option linter.unusedSimpArgs false
set_option linter.unusedVariables false
set_option maxRecDepth 100000
open Go.RowKit

theorem bk_split {L : List UInt8} {b : Bk} (h : BkP L b) : splitL 32 L = [dec b.c, mrkT b, dec b.v, dec b.wi ++ 120 :: dec b.hi, dec b.we] := by
  obtain ⟨i0, i1, i2, i3, i4, i5, i6, i7⟩ := bookB_in h.ok
  have e : L = joinL 32 [dec b.c, mrkT b, dec b.v, dec b.wi ++ 120 :: dec b.hi, dec b.we] := by
    rw [h.eq]
    have := bookT_form b []
    rw [List.append_nil] at this
    rw [this]
    simp only [joinL, mrkT, List.append_nil, List.append_assoc, List.cons_append, List.nil_append]
  rw [e]
  have hm : ∀ z : Int, 97 ≤ z ∧ z ≤ 122 → (32 : UInt8) ≠ UInt8.ofNat z.toNat := fun z hz e => by
    have := u8_back hz e
    have h2 : ((32 : UInt8).toNat : Int) = 32 := rfl
    omega
  refine split_join _ (by simp) (fun w hw => ?_)
  simp only [List.mem_cons, List.not_mem_nil, or_false] at hw
  rcases hw with rfl | rfl | rfl | rfl | rfl
  · exact dig_not (by decide)
  · unfold mrkT
    simp only [List.mem_cons, List.not_mem_nil, or_false, not_or]
    exact ⟨hm _ i1, hm _ i2, hm _ i3⟩
  · exact dig_not (by decide)
  · simp only [List.mem_append, List.mem_cons, not_or]
    exact ⟨dig_not (by decide), by decide, dig_not (by decide)⟩
  · exact dig_not (by decide)
theorem sz_split (a b : Int) : splitL 120 (dec a ++ 120 :: dec b) = [dec a, dec b] := by
  rw [split_word _ _ (dig_not (by decide)), split_last _ (dig_not (by decide))]
theorem num_fail {p : List UInt8} {n : Int} {ok : Bool} (h : NumS p n ok) (hf : ok = false ∨ 9999 < n) : ∀ z : Int, 0 ≤ z → z ≤ 9999 → p ≠ dec z := fun z h0 h1 e => by
  rcases h with ⟨k1, k2, k3, _⟩ | ⟨_, _, k3⟩
  · rcases hf with k | k
    · rw [k1] at k; cases k
    · have := dec_inj k2 h0 (k3.symm.trans e)
      omega
  · have := k3 z h0 e
    rw [e] at this
    have := dec_short (z := z) (by omega)
    omega
/-- The j-th number, where k are read. -/
def Nk (k j : Nat) (p : List UInt8) (n : Int) : Prop := if j < k then (p = dec n ∧ 0 ≤ n ∧ n ≤ 9999) else n = 0
theorem nk_old {k j : Nat} {p : List UInt8} {n : Int} (h : Nk k j p n) (hne : j ≠ k) : Nk (k + 1) j p n := by
  unfold Nk at *
  by_cases hj : j < k
  · rw [if_pos hj] at h
    rw [if_pos (by omega)]
    exact h
  · rw [if_neg hj] at h
    rw [if_neg (by omega)]
    exact h
theorem nk_new {k : Nat} {p : List UInt8} {n : Int} (h : NumS p n true) (h2 : ¬ (9999 < n)) : Nk (k + 1) k p n := by
  unfold Nk
  rw [if_pos (by omega)]
  rcases h with ⟨_, k2, k3, _⟩ | ⟨k, _⟩
  · exact ⟨k3, k2, by omega⟩
  · cases k
theorem nk_at {k j : Nat} {p : List UInt8} {n : Int} (h : Nk k j p n) (hj : j < k) : p = dec n ∧ 0 ≤ n ∧ n ≤ 9999 := by
  unfold Nk at h
  rwa [if_pos hj] at h
theorem nk_in {k j : Nat} {p : List UInt8} {n : Int} (h : Nk k j p n) : 0 ≤ n ∧ n ≤ 9999 := by
  unfold Nk at h
  split at h
  · exact h.2
  · omega
theorem nk_zero (j : Nat) (p : List UInt8) : Nk 0 j p 0 := by
  unfold Nk
  rw [if_neg (by omega)]
def SA (W : World) (g : Nat) (a b c d e : ByteArray) : Prop := W.heap[g]? = some (.cells #[.string a, .string b, .string c, .string d, .string e] 67 (0, 0))
def N5 (W : World) (g : Nat) (a b c d e : Int) : Prop := W.heap[g]? = some (.cells #[.int .i64 a, .int .i64 b, .int .i64 c, .int .i64 d, .int .i64 e] 68 (0, 0))
theorem SA.c0 {W : World} {g : Nat} {a b c d e : ByteArray} (h : SA W g a b c d e) : W.cell? ⟨g, 0, none⟩ = some (.string a) := cell_of_row W g 0 _ _ _ h
theorem N5.c0 {W : World} {g : Nat} {a b c d e : Int} (h : N5 W g a b c d e) : W.cell? ⟨g, 0, none⟩ = some (.int .i64 a) := cell_of_row W g 0 _ _ _ h
theorem N5.s0 {W : World} {g : Nat} {a b c d e : Int} (h : N5 W g a b c d e) (z : Int) : N5 (W.setCell ⟨g, 0, none⟩ (.int .i64 z)) g z b c d e := by
  unfold N5 at *
  rw [heap_setCell_same _ _ _ _ _ _ h]
  rfl
theorem SA.c1 {W : World} {g : Nat} {a b c d e : ByteArray} (h : SA W g a b c d e) : W.cell? ⟨g, 1, none⟩ = some (.string b) := cell_of_row W g 1 _ _ _ h
theorem N5.c1 {W : World} {g : Nat} {a b c d e : Int} (h : N5 W g a b c d e) : W.cell? ⟨g, 1, none⟩ = some (.int .i64 b) := cell_of_row W g 1 _ _ _ h
theorem N5.s1 {W : World} {g : Nat} {a b c d e : Int} (h : N5 W g a b c d e) (z : Int) : N5 (W.setCell ⟨g, 1, none⟩ (.int .i64 z)) g a z c d e := by
  unfold N5 at *
  rw [heap_setCell_same _ _ _ _ _ _ h]
  rfl
theorem SA.c2 {W : World} {g : Nat} {a b c d e : ByteArray} (h : SA W g a b c d e) : W.cell? ⟨g, 2, none⟩ = some (.string c) := cell_of_row W g 2 _ _ _ h
theorem N5.c2 {W : World} {g : Nat} {a b c d e : Int} (h : N5 W g a b c d e) : W.cell? ⟨g, 2, none⟩ = some (.int .i64 c) := cell_of_row W g 2 _ _ _ h
theorem N5.s2 {W : World} {g : Nat} {a b c d e : Int} (h : N5 W g a b c d e) (z : Int) : N5 (W.setCell ⟨g, 2, none⟩ (.int .i64 z)) g a b z d e := by
  unfold N5 at *
  rw [heap_setCell_same _ _ _ _ _ _ h]
  rfl
theorem SA.c3 {W : World} {g : Nat} {a b c d e : ByteArray} (h : SA W g a b c d e) : W.cell? ⟨g, 3, none⟩ = some (.string d) := cell_of_row W g 3 _ _ _ h
theorem N5.c3 {W : World} {g : Nat} {a b c d e : Int} (h : N5 W g a b c d e) : W.cell? ⟨g, 3, none⟩ = some (.int .i64 d) := cell_of_row W g 3 _ _ _ h
theorem N5.s3 {W : World} {g : Nat} {a b c d e : Int} (h : N5 W g a b c d e) (z : Int) : N5 (W.setCell ⟨g, 3, none⟩ (.int .i64 z)) g a b c z e := by
  unfold N5 at *
  rw [heap_setCell_same _ _ _ _ _ _ h]
  rfl
theorem SA.c4 {W : World} {g : Nat} {a b c d e : ByteArray} (h : SA W g a b c d e) : W.cell? ⟨g, 4, none⟩ = some (.string e) := cell_of_row W g 4 _ _ _ h
theorem N5.c4 {W : World} {g : Nat} {a b c d e : Int} (h : N5 W g a b c d e) : W.cell? ⟨g, 4, none⟩ = some (.int .i64 e) := cell_of_row W g 4 _ _ _ h
theorem N5.s4 {W : World} {g : Nat} {a b c d e : Int} (h : N5 W g a b c d e) (z : Int) : N5 (W.setCell ⟨g, 4, none⟩ (.int .i64 z)) g a b c d z := by
  unfold N5 at *
  rw [heap_setCell_same _ _ _ _ _ _ h]
  rfl
theorem N5.fz {W : World} {g : Nat} {a b c d e : Int} (h : N5 W g a b c d e) (i : Nat) : W.frozen? ⟨g, i, none⟩ = false := frozen_of_row W g i _ _ h
/-- Where the model stands: the result's box, the words' box, the numbers' box, the mark's word. -/
structure MSt (w W : World) (a nb ga o1 : Nat) (q : List UInt8) (S0 S1 S2 S3 S4 : ByteArray) (n0 n1 n2 n3 n4 : Int) : Prop where
  rb : BB W w.heap.size zeroBk
  bl : Below w.heap.size w W
  sa : SA W a S0 S1 S2 S3 S4
  na : N5 W nb n0 n1 n2 n3 n4
  wk : W.cell? ⟨ga, o1, none⟩ = some (.string (strOf q))
theorem MSt.s0 {w W : World} {a nb ga o1 : Nat} {q : List UInt8} {S0 S1 S2 S3 S4 : ByteArray} {n0 n1 n2 n3 n4 : Int} (h1 : w.heap.size < nb) (h2 : a ≠ nb) (h3 : ga ≠ nb) (h : MSt w W a nb ga o1 q S0 S1 S2 S3 S4 n0 n1 n2 n3 n4) (z : Int) : MSt w (W.setCell ⟨nb, 0, none⟩ (.int .i64 z)) a nb ga o1 q S0 S1 S2 S3 S4 z n1 n2 n3 n4 := by
  have k := (Gr.refl nb W).set 0 (.int .i64 z)
  have la := (Array.getElem?_eq_some_iff.1 h.sa).1
  have lg := World.block_lt_of_cell? _ _ h.wk
  exact ⟨h.rb.gr k (by omega), h.bl.setCell (p := ⟨nb, 0, none⟩) (by show w.heap.size ≤ nb; omega) _, (k.block a la (fun e => h2 (by injection e))).trans h.sa, h.na.s0 z, (World.cell?_of_block (k.block ga lg (fun e => h3 (by injection e)))).trans h.wk⟩
theorem MSt.s1 {w W : World} {a nb ga o1 : Nat} {q : List UInt8} {S0 S1 S2 S3 S4 : ByteArray} {n0 n1 n2 n3 n4 : Int} (h1 : w.heap.size < nb) (h2 : a ≠ nb) (h3 : ga ≠ nb) (h : MSt w W a nb ga o1 q S0 S1 S2 S3 S4 n0 n1 n2 n3 n4) (z : Int) : MSt w (W.setCell ⟨nb, 1, none⟩ (.int .i64 z)) a nb ga o1 q S0 S1 S2 S3 S4 n0 z n2 n3 n4 := by
  have k := (Gr.refl nb W).set 1 (.int .i64 z)
  have la := (Array.getElem?_eq_some_iff.1 h.sa).1
  have lg := World.block_lt_of_cell? _ _ h.wk
  exact ⟨h.rb.gr k (by omega), h.bl.setCell (p := ⟨nb, 1, none⟩) (by show w.heap.size ≤ nb; omega) _, (k.block a la (fun e => h2 (by injection e))).trans h.sa, h.na.s1 z, (World.cell?_of_block (k.block ga lg (fun e => h3 (by injection e)))).trans h.wk⟩
theorem MSt.s2 {w W : World} {a nb ga o1 : Nat} {q : List UInt8} {S0 S1 S2 S3 S4 : ByteArray} {n0 n1 n2 n3 n4 : Int} (h1 : w.heap.size < nb) (h2 : a ≠ nb) (h3 : ga ≠ nb) (h : MSt w W a nb ga o1 q S0 S1 S2 S3 S4 n0 n1 n2 n3 n4) (z : Int) : MSt w (W.setCell ⟨nb, 2, none⟩ (.int .i64 z)) a nb ga o1 q S0 S1 S2 S3 S4 n0 n1 z n3 n4 := by
  have k := (Gr.refl nb W).set 2 (.int .i64 z)
  have la := (Array.getElem?_eq_some_iff.1 h.sa).1
  have lg := World.block_lt_of_cell? _ _ h.wk
  exact ⟨h.rb.gr k (by omega), h.bl.setCell (p := ⟨nb, 2, none⟩) (by show w.heap.size ≤ nb; omega) _, (k.block a la (fun e => h2 (by injection e))).trans h.sa, h.na.s2 z, (World.cell?_of_block (k.block ga lg (fun e => h3 (by injection e)))).trans h.wk⟩
theorem MSt.s3 {w W : World} {a nb ga o1 : Nat} {q : List UInt8} {S0 S1 S2 S3 S4 : ByteArray} {n0 n1 n2 n3 n4 : Int} (h1 : w.heap.size < nb) (h2 : a ≠ nb) (h3 : ga ≠ nb) (h : MSt w W a nb ga o1 q S0 S1 S2 S3 S4 n0 n1 n2 n3 n4) (z : Int) : MSt w (W.setCell ⟨nb, 3, none⟩ (.int .i64 z)) a nb ga o1 q S0 S1 S2 S3 S4 n0 n1 n2 z n4 := by
  have k := (Gr.refl nb W).set 3 (.int .i64 z)
  have la := (Array.getElem?_eq_some_iff.1 h.sa).1
  have lg := World.block_lt_of_cell? _ _ h.wk
  exact ⟨h.rb.gr k (by omega), h.bl.setCell (p := ⟨nb, 3, none⟩) (by show w.heap.size ≤ nb; omega) _, (k.block a la (fun e => h2 (by injection e))).trans h.sa, h.na.s3 z, (World.cell?_of_block (k.block ga lg (fun e => h3 (by injection e)))).trans h.wk⟩
theorem MSt.s4 {w W : World} {a nb ga o1 : Nat} {q : List UInt8} {S0 S1 S2 S3 S4 : ByteArray} {n0 n1 n2 n3 n4 : Int} (h1 : w.heap.size < nb) (h2 : a ≠ nb) (h3 : ga ≠ nb) (h : MSt w W a nb ga o1 q S0 S1 S2 S3 S4 n0 n1 n2 n3 n4) (z : Int) : MSt w (W.setCell ⟨nb, 4, none⟩ (.int .i64 z)) a nb ga o1 q S0 S1 S2 S3 S4 n0 n1 n2 n3 z := by
  have k := (Gr.refl nb W).set 4 (.int .i64 z)
  have la := (Array.getElem?_eq_some_iff.1 h.sa).1
  have lg := World.block_lt_of_cell? _ _ h.wk
  exact ⟨h.rb.gr k (by omega), h.bl.setCell (p := ⟨nb, 4, none⟩) (by show w.heap.size ≤ nb; omega) _, (k.block a la (fun e => h2 (by injection e))).trans h.sa, h.na.s4 z, (World.cell?_of_block (k.block ga lg (fun e => h3 (by injection e)))).trans h.wk⟩
theorem MSt.bx {w W W' : World} {a nb ga o1 : Nat} {q : List UInt8} {S0 S1 S2 S3 S4 : ByteArray} {n0 n1 n2 n3 n4 : Int} (h : MSt w W a nb ga o1 q S0 S1 S2 S3 S4 n0 n1 n2 n3 n4) (hb : Below W.heap.size W W') : MSt w W' a nb ga o1 q S0 S1 S2 S3 S4 n0 n1 n2 n3 n4 := by
  have la := (Array.getElem?_eq_some_iff.1 h.sa).1
  have ln := (Array.getElem?_eq_some_iff.1 h.na).1
  have lg := World.block_lt_of_cell? _ _ h.wk
  have hr := h.rb.lt
  exact ⟨(hb.block _ hr).trans h.rb, bnext h.bl hb, (hb.block a la).trans h.sa, (hb.block nb ln).trans h.na, (hb.cell (p := ⟨ga, o1, none⟩) lg).trans h.wk⟩
/-- The result's box, the mark's word, the book's box. -/
structure KSt (w W : World) (gb ga o1 : Nat) (S : ByteArray) (b : Bk) : Prop where
  rb : BB W w.heap.size zeroBk
  bl : Below w.heap.size w W
  wk : W.cell? ⟨ga, o1, none⟩ = some (.string S)
  bx : BB W gb b
theorem KSt.gr {w W W' : World} {gb ga o1 : Nat} {S : ByteArray} {b b' : Bk} (h1 : w.heap.size < gb) (h2 : ga ≠ gb) (h : KSt w W gb ga o1 S b) (hg : Gr gb W W') (hb : BB W' gb b') : KSt w W' gb ga o1 S b' := by
  have lg := World.block_lt_of_cell? _ _ h.wk
  exact ⟨h.rb.gr hg (by omega), h.bl.grown hg h.bl.size (fun k hk => by injection hk with hk; omega), (World.cell?_of_block (hg.block ga lg (fun e => h2 (by injection e)))).trans h.wk, hb⟩
theorem KSt.bx' {w W W' : World} {gb ga o1 : Nat} {S : ByteArray} {b : Bk} (h : KSt w W gb ga o1 S b) (hb : Below W.heap.size W W') : KSt w W' gb ga o1 S b := by
  have lg := World.block_lt_of_cell? _ _ h.wk
  exact ⟨(hb.block _ h.rb.lt).trans h.rb, bnext h.bl hb, (hb.cell (p := ⟨ga, o1, none⟩) lg).trans h.wk, (hb.block _ h.bx.lt).trans h.bx⟩
theorem mark_bytes {p : List UInt8} {x0 x1 x2 : UInt8} (h : p = [x0, x1, x2]) : ∃ S : ByteArray, S = strOf p ∧ ∃ h : S.size = 3, S[0]'(by omega) = x0 ∧ S[1]'(by omega) = x1 ∧ S[2]'(by omega) = x2 := by
  subst h
  exact ⟨_, rfl, rfl, rfl, rfl, rfl⟩
theorem num_good5 {p : List UInt8} {n : Int} (h : NumS p n true) (h2 : ¬ (9999 < n)) : p = dec n ∧ 0 ≤ n ∧ n ≤ 9999 := by
  rcases h with ⟨_, k2, k3, _⟩ | ⟨k, _⟩
  · exact ⟨k3, k2, by omega⟩
  · cases k
/-- The book of five numbers and three bytes. -/
theorem bk_parts {L p0 p1 p2 p3 p4 v0 v1 : List UInt8} {x0 x1 x2 : UInt8} {n0 n1 n2 n3 n4 : Int} (hL : L = joinL 32 [p0, p1, p2, p3, p4]) (h3 : p3 = joinL 120 [v0, v1]) (hq : p1 = [x0, x1, x2])
    (k0 : p0 = dec n0 ∧ 0 ≤ n0 ∧ n0 ≤ 9999) (k1 : p2 = dec n1 ∧ 0 ≤ n1 ∧ n1 ≤ 9999) (k2 : v0 = dec n2 ∧ 0 ≤ n2 ∧ n2 ≤ 9999) (k3 : v1 = dec n3 ∧ 0 ≤ n3 ∧ n3 ≤ 9999) (k4 : p4 = dec n4 ∧ 0 ≤ n4 ∧ n4 ≤ 9999) : L = bookT (bkOf n0 x0 x1 x2 n1 n2 n3 n4) := by
  have := bookT_form (bkOf n0 x0 x1 x2 n1 n2 n3 n4) []
  rw [List.append_nil] at this
  rw [this, hL, h3, hq, k0.1, k1.1, k2.1, k3.1, k4.1]
  simp only [joinL, bkOf, u8_self, List.append_nil, List.append_assoc, List.cons_append, List.nil_append]
theorem bk_only {p0 p1 p2 p3 p4 v0 v1 : List UInt8} {x0 x1 x2 : UInt8} {n0 n1 n2 n3 n4 : Int} (hq : p1 = [x0, x1, x2])
    (k0 : p0 = dec n0 ∧ 0 ≤ n0 ∧ n0 ≤ 9999) (k1 : p2 = dec n1 ∧ 0 ≤ n1 ∧ n1 ≤ 9999) (k2 : v0 = dec n2 ∧ 0 ≤ n2 ∧ n2 ≤ 9999) (k3 : v1 = dec n3 ∧ 0 ≤ n3 ∧ n3 ≤ 9999) (k4 : p4 = dec n4 ∧ 0 ≤ n4 ∧ n4 ≤ 9999) {b : Bk} (hb : bookB b = true)
    (hw : [p0, p1, p2, p3, p4] = [dec b.c, mrkT b, dec b.v, dec b.wi ++ 120 :: dec b.hi, dec b.we]) (hv : v0 = dec b.wi ∧ v1 = dec b.hi) : b = bkOf n0 x0 x1 x2 n1 n2 n3 n4 := by
  obtain ⟨i0, i1, i2, i3, i4, i5, i6, i7⟩ := bookB_in hb
  simp only [List.cons.injEq, and_true] at hw
  obtain ⟨w0, w1, w2, -, w4⟩ := hw
  have e0 := dec_inj (by omega) k0.2.1 (w0.symm.trans k0.1)
  have e1 := dec_inj (by omega) k1.2.1 (w2.symm.trans k1.1)
  have e2 := dec_inj (by omega) k2.2.1 (hv.1.symm.trans k2.1)
  have e3 := dec_inj (by omega) k3.2.1 (hv.2.symm.trans k3.1)
  have e4 := dec_inj (by omega) k4.2.1 (w4.symm.trans k4.1)
  rw [hq] at w1
  unfold mrkT at w1
  simp only [List.cons.injEq, and_true] at w1
  obtain ⟨y0, y1, y2⟩ := w1
  have z0 := u8_back i1 y0
  have z1 := u8_back i2 y1
  have z2 := u8_back i3 y2
  cases b
  simp only at e0 e1 e2 e3 e4 z0 z1 z2
  subst e0 e1 e2 e3 e4 z0 z1 z2
  rfl
theorem bk_no {L p0 p1 p2 p3 p4 v0 v1 : List UInt8} {x0 x1 x2 : UInt8} {n0 n1 n2 n3 n4 : Int} (hq : p1 = [x0, x1, x2])
    (k0 : p0 = dec n0 ∧ 0 ≤ n0 ∧ n0 ≤ 9999) (k1 : p2 = dec n1 ∧ 0 ≤ n1 ∧ n1 ≤ 9999) (k2 : v0 = dec n2 ∧ 0 ≤ n2 ∧ n2 ≤ 9999) (k3 : v1 = dec n3 ∧ 0 ≤ n3 ∧ n3 ≤ 9999) (k4 : p4 = dec n4 ∧ 0 ≤ n4 ∧ n4 ≤ 9999) {bf : Bk} (hbf : bf = bkOf n0 x0 x1 x2 n1 n2 n3 n4) (hv : bookB bf = false)
    (hw : ∀ b, BkP L b → [p0, p1, p2, p3, p4] = [dec b.c, mrkT b, dec b.v, dec b.wi ++ 120 :: dec b.hi, dec b.we]) (hx : ∀ b, BkP L b → v0 = dec b.wi ∧ v1 = dec b.hi) : ∀ b, ¬ BkP L b := fun b e => by
  have h := bk_only hq k0 k1 k2 k3 k4 e.ok (hw b e) (hx b e)
  rw [← hbf] at h
  rw [← h, e.ok] at hv
  cases hv
set_option maxHeartbeats 8000000 in
theorem specReadBook_any (T : ByteArray) (hT : T.size ≤ 1048576) (w : World) :
    Calls Tryd.prog 10 #[.string T] w fun e w' => e = .returned (.tuple #[.agg #[.int .i16 (rbB T.data.toList).c, .int .u8 (rbB T.data.toList).m0, .int .u8 (rbB T.data.toList).m1, .int .u8 (rbB T.data.toList).m2, .int .i16 (rbB T.data.toList).v, .int .i16 (rbB T.data.toList).wi, .int .i16 (rbB T.data.toList).hi, .int .i16 (rbB T.data.toList).we], .int .i64 (rbC T.data.toList)]) ∧ Below w.heap.size w w' := by
  have b0 := (Below.refl w.heap.size w).alloc (Nat.le_refl _) (.cells #[.int .i16 0, .int .u8 0, .int .u8 0, .int .u8 0, .int .i16 0, .int .i16 0, .int .i16 0, .int .i16 0] 25)
  have B0 := Lib.hid b0
  have R0 := Lib.hid (show BB (w.alloc (.cells #[.int .i16 0, .int .u8 0, .int .u8 0, .int .u8 0, .int .i16 0, .int .i16 0, .int .i16 0, .int .i16 0] 25)) w.heap.size zeroBk from heap_alloc_new w _)
  clear b0
  go_enter Tryd.func10, Tryd.ntmps10
  go_upto_region 1 with (fail)
  generalize World.alloc _ _ = W0 at B0 R0 ⊢
  go_wp2_with fail
  refine (l01Split_any T hT 32 W0).mono ?_
  rintro e w1 ⟨u, rfl, ho1, h1⟩
  obtain ⟨ws, ews⟩ : ∃ ws, ws = splitL 32 T.data.toList := ⟨_, rfl⟩
  rw [← ews] at ho1
  have WS := Lib.hid ews
  have HWL := Lib.hid (show ∀ v ∈ ws, v.length ≤ 1048576 from fun v hv => by rw [ews] at hv; exact Nat.le_trans (split_word_len 32 _ v hv) (by rw [Array.length_toList]; exact hT))
  obtain ⟨As, cs, es, hsa⟩ := ownStrs ho1 rfl
  subst es
  have HSA := Lib.hid hsa
  have R1 := Lib.hid (R0.out.gr (Gr.of (g := w.heap.size + 1) h1) (by omega))
  have B1 := Lib.hid (bnext B0.out h1)
  clear ho1 h1 ews hsa
  by_cases h5 : ws.length = 5
  case neg =>
    have b5 : ((ws.length : Int) != 5) = true := by simp; omega
    have NO := Lib.hid (rb_no (L := T.data.toList) (fun b e => h5 (by rw [WS.out, bk_split e]; rfl)))
    clear h5
    go_upto_region 3 with (fail)
    rename_i aa
    have AA := Lib.hid aa
    clear aa
    have a0 := R1.out.c0
    have a1 := R1.out.c1
    have a2 := R1.out.c2
    have a3 := R1.out.c3
    have a4 := R1.out.c4
    have a5 := R1.out.c5
    have a6 := R1.out.c6
    have a7 := R1.out.c7
    have fz := R1.out.fz
    have PR := Lib.hid (R1.out.all0)
    have GR := Lib.hid (gr80 (Gr.of (g := w.heap.size) B1.out))
    go_wp2
    clear a0 a1 a2 a3 a4 a5 a6 a7 fz
    generalize World.setCell _ _ _ = U5 at PR GR ⊢
    refine AA.out _ _ (wp_ret ?_)
    have q0 := PR.out.c0
    have q1 := PR.out.c1
    have q2 := PR.out.c2
    have q3 := PR.out.c3
    have q4 := PR.out.c4
    have q5 := PR.out.c5
    have q6 := PR.out.c6
    have q7 := PR.out.c7
    exact bodyPost_ret (R := fun e w' => e = .returned (.tuple #[.agg #[.int .i16 (rbB T.data.toList).c, .int .u8 (rbB T.data.toList).m0, .int .u8 (rbB T.data.toList).m1, .int .u8 (rbB T.data.toList).m2, .int .i16 (rbB T.data.toList).v, .int .i16 (rbB T.data.toList).wi, .int .i16 (rbB T.data.toList).hi, .int .i16 (rbB T.data.toList).we], .int .i64 (rbC T.data.toList)]) ∧ Below w.heap.size w w') (v := .tuple #[.agg #[.int .i16 0, .int .u8 0, .int .u8 0, .int .u8 0, .int .i16 0, .int .i16 0, .int .i16 0, .int .i16 0], .int .i64 5]) (by simp [results, Tryd.results10, go_sem, zeroBk, q0, q1, q2, q3, q4, q5, q6, q7]) rfl ⟨by rw [NO.out.1, NO.out.2]; rfl, low_gr GR.out⟩
  obtain ⟨p0, p1, p2, p3, p4, ep⟩ : ∃ p0 p1 p2 p3 p4, ws = [p0, p1, p2, p3, p4] := by
    match ws, h5 with
    | [p0, p1, p2, p3, p4], _ => exact ⟨p0, p1, p2, p3, p4, rfl⟩
  obtain ⟨ga, oa, eA, hga, hat⟩ := HSA.out (by omega)
  subst eA
  have S0 := Lib.hid (hat 0 (by omega))
  have S1 := Lib.hid (hat 1 (by omega))
  have S2 := Lib.hid (hat 2 (by omega))
  have S3 := Lib.hid (hat 3 (by omega))
  have S4 := Lib.hid (hat 4 (by omega))
  simp only [ep, List.getElem_cons_zero, List.getElem_cons_succ, strV, Nat.add_zero] at S0 S1 S2 S3 S4
  rw [h5]
  have WB := Lib.hid (fun (b : Bk) (e : BkP T.data.toList b) => (show [p0, p1, p2, p3, p4] = _ from ep.symm.trans (WS.out.trans (bk_split e))))
  have JL := Lib.hid (show T.data.toList = joinL 32 [p0, p1, p2, p3, p4] by rw [← ep, WS.out, join_split])
  have LA := Lib.hid (show p0.length ≤ 1048576 ∧ p2.length ≤ 1048576 ∧ p4.length ≤ 1048576 from ⟨HWL.out p0 (by rw [ep]; simp), HWL.out p2 (by rw [ep]; simp), HWL.out p4 (by rw [ep]; simp)⟩)
  have L3 : p3.length ≤ 1048576 := HWL.out p3 (by rw [ep]; simp)
  clear hat h5 ep
  have s1 := S1.out
  by_cases h3 : p1.length = 3
  case neg =>
    have b3 : (((strOf p1).size : Int) != 3) = true := by rw [strOf_size]; simp; omega
    have NO := Lib.hid (rb_no (L := T.data.toList) (fun b e => h3 (by
      have h := WB.out b e
      simp only [List.cons.injEq] at h
      rw [h.2.1]
      rfl)))
    clear h3
    go_upto_region 3 with (fail)
    rename_i aa
    have AA := Lib.hid aa
    clear aa
    have a0 := R1.out.c0
    have a1 := R1.out.c1
    have a2 := R1.out.c2
    have a3 := R1.out.c3
    have a4 := R1.out.c4
    have a5 := R1.out.c5
    have a6 := R1.out.c6
    have a7 := R1.out.c7
    have fz := R1.out.fz
    have PR := Lib.hid (R1.out.all0)
    have GR := Lib.hid (gr80 (Gr.of (g := w.heap.size) B1.out))
    go_wp2
    clear a0 a1 a2 a3 a4 a5 a6 a7 fz
    generalize World.setCell _ _ _ = U5 at PR GR ⊢
    refine AA.out _ _ (wp_ret ?_)
    have q0 := PR.out.c0
    have q1 := PR.out.c1
    have q2 := PR.out.c2
    have q3 := PR.out.c3
    have q4 := PR.out.c4
    have q5 := PR.out.c5
    have q6 := PR.out.c6
    have q7 := PR.out.c7
    exact bodyPost_ret (R := fun e w' => e = .returned (.tuple #[.agg #[.int .i16 (rbB T.data.toList).c, .int .u8 (rbB T.data.toList).m0, .int .u8 (rbB T.data.toList).m1, .int .u8 (rbB T.data.toList).m2, .int .i16 (rbB T.data.toList).v, .int .i16 (rbB T.data.toList).wi, .int .i16 (rbB T.data.toList).hi, .int .i16 (rbB T.data.toList).we], .int .i64 (rbC T.data.toList)]) ∧ Below w.heap.size w w') (v := .tuple #[.agg #[.int .i16 0, .int .u8 0, .int .u8 0, .int .u8 0, .int .i16 0, .int .i16 0, .int .i16 0, .int .i16 0], .int .i64 5]) (by simp [results, Tryd.results10, go_sem, zeroBk, q0, q1, q2, q3, q4, q5, q6, q7]) rfl ⟨by rw [NO.out.1, NO.out.2]; rfl, low_gr GR.out⟩
  have b3 : (((strOf p1).size : Int) != 3) = false := by rw [strOf_size, h3]; rfl
  obtain ⟨x0, x1, x2, e1⟩ : ∃ x0 x1 x2, p1 = [x0, x1, x2] := by
    match p1, h3 with
    | [x0, x1, x2], _ => exact ⟨x0, x1, x2, rfl⟩
  have E1 := Lib.hid e1
  have s3 := S3.out
  clear h3 e1
  go_wp2_with fail
  refine (l01Split_any (strOf p3) (by rw [strOf_size]; exact L3) 120 w1).mono ?_
  rintro e w2 ⟨u2, rfl, ho2, h2⟩
  have sl : (strOf p3).data.toList = p3 := by simp [strOf]
  rw [sl] at ho2
  obtain ⟨vs, evs⟩ : ∃ vs, vs = splitL 120 p3 := ⟨_, rfl⟩
  rw [← evs] at ho2
  have VS := Lib.hid evs
  obtain ⟨Av, cv, es, hsv⟩ := ownStrs ho2 rfl
  subst es
  have HSV := Lib.hid hsv
  have R2 := Lib.hid (R1.out.gr (Gr.of (g := w.heap.size + 1) h2) (by omega))
  have B2 := Lib.hid (bnext B1.out h2)
  have S0 := Lib.hid ((h2.cell (p := ⟨ga, oa, none⟩) hga).trans S0.out)
  have S1 := Lib.hid ((h2.cell (p := ⟨ga, oa + 1, none⟩) hga).trans S1.out)
  have S2 := Lib.hid ((h2.cell (p := ⟨ga, oa + 2, none⟩) hga).trans S2.out)
  have S4 := Lib.hid ((h2.cell (p := ⟨ga, oa + 4, none⟩) hga).trans S4.out)
  have hga2 : ga < w2.heap.size := Nat.lt_of_lt_of_le hga h2.size
  clear ho2 h2 evs hsv sl s1 s3 b3
  by_cases h2 : vs.length = 2
  case neg =>
    have b2 : ((vs.length : Int) != 2) = true := by simp; omega
    have NO := Lib.hid (rb_no (L := T.data.toList) (fun b e => h2 (by
      have h := WB.out b e
      simp only [List.cons.injEq] at h
      rw [VS.out, h.2.2.2.1, sz_split]
      rfl)))
    clear h2
    go_upto_region 6 with (fail)
    rename_i aa
    have AA := Lib.hid aa
    clear aa
    have a0 := R2.out.c0
    have a1 := R2.out.c1
    have a2 := R2.out.c2
    have a3 := R2.out.c3
    have a4 := R2.out.c4
    have a5 := R2.out.c5
    have a6 := R2.out.c6
    have a7 := R2.out.c7
    have fz := R2.out.fz
    have PR := Lib.hid (R2.out.all0)
    have GR := Lib.hid (gr80 (Gr.of (g := w.heap.size) B2.out))
    go_wp2
    clear a0 a1 a2 a3 a4 a5 a6 a7 fz
    generalize World.setCell _ _ _ = U5 at PR GR ⊢
    refine AA.out _ _ (wp_ret ?_)
    have q0 := PR.out.c0
    have q1 := PR.out.c1
    have q2 := PR.out.c2
    have q3 := PR.out.c3
    have q4 := PR.out.c4
    have q5 := PR.out.c5
    have q6 := PR.out.c6
    have q7 := PR.out.c7
    exact bodyPost_ret (R := fun e w' => e = .returned (.tuple #[.agg #[.int .i16 (rbB T.data.toList).c, .int .u8 (rbB T.data.toList).m0, .int .u8 (rbB T.data.toList).m1, .int .u8 (rbB T.data.toList).m2, .int .i16 (rbB T.data.toList).v, .int .i16 (rbB T.data.toList).wi, .int .i16 (rbB T.data.toList).hi, .int .i16 (rbB T.data.toList).we], .int .i64 (rbC T.data.toList)]) ∧ Below w.heap.size w w') (v := .tuple #[.agg #[.int .i16 0, .int .u8 0, .int .u8 0, .int .u8 0, .int .i16 0, .int .i16 0, .int .i16 0, .int .i16 0], .int .i64 5]) (by simp [results, Tryd.results10, go_sem, zeroBk, q0, q1, q2, q3, q4, q5, q6, q7]) rfl ⟨by rw [NO.out.1, NO.out.2]; rfl, low_gr GR.out⟩
  obtain ⟨v0, v1, ev⟩ : ∃ v0 v1, vs = [v0, v1] := by
    match vs, h2 with
    | [v0, v1], _ => exact ⟨v0, v1, rfl⟩
  obtain ⟨gv, ov, eA, hgv, hat⟩ := HSV.out (by omega)
  subst eA
  have V0 := Lib.hid (hat 0 (by omega))
  have V1 := Lib.hid (hat 1 (by omega))
  simp only [ev, List.getElem_cons_zero, List.getElem_cons_succ, strV, Nat.add_zero] at V0 V1
  rw [h2]
  have J3 := Lib.hid (show p3 = joinL 120 [v0, v1] by rw [← ev, VS.out, join_split])
  have WV := Lib.hid (fun (b : Bk) (e : BkP T.data.toList b) => (show v0 = dec b.wi ∧ v1 = dec b.hi from by
    have h := WB.out b e
    simp only [List.cons.injEq] at h
    have h2 := VS.out
    rw [ev, h.2.2.2.1, sz_split] at h2
    simp only [List.cons.injEq] at h2
    exact ⟨h2.1, h2.2.1⟩))
  have LP := Lib.hid (show p0.length ≤ 1048576 ∧ p2.length ≤ 1048576 ∧ v0.length ≤ 1048576 ∧ v1.length ≤ 1048576 ∧ p4.length ≤ 1048576 from by
    have hl : ∀ v ∈ vs, v.length ≤ 1048576 := fun v hv => by rw [VS.out] at hv; exact Nat.le_trans (split_word_len 120 _ v hv) L3
    rw [ev] at hl
    have hw := HWL.out
    refine ⟨LA.out.1, LA.out.2.1, hl _ (by simp), hl _ (by simp), LA.out.2.2⟩)
  clear hat h2 ev
  have s0 := S0.out
  have s2 := S2.out
  have s4 := S4.out
  have t0 := V0.out
  have t1 := V1.out
  go_wp2
  go_region_held3 (fun w' => w'.cell? ⟨ga, oa, none⟩ = some (.string (strOf p0)) ∧ w'.cell? ⟨ga, oa + 2, none⟩ = some (.string (strOf p2)) ∧ w'.cell? ⟨gv, ov, none⟩ = some (.string (strOf v0)) ∧ w'.cell? ⟨gv, ov + 1, none⟩ = some (.string (strOf v1)) ∧ w'.cell? ⟨ga, oa + 4, none⟩ = some (.string (strOf p4))) (go_keep) (fail)
  all_goals
    rename_i hHeld
    clear hHeld
    have a7 := heap_alloc_new w2 (.cells #[.string (strOf p0), .string (strOf p2), .string (strOf v0), .string (strOf v1), .string (strOf p4)] 67)
    replace a7 : SA (w2.alloc (.cells #[.string (strOf p0), .string (strOf p2), .string (strOf v0), .string (strOf v1), .string (strOf p4)] 67)).drew w2.heap.size (strOf p0) (strOf p2) (strOf v0) (strOf v1) (strOf p4) := a7
    have bw : Below w2.heap.size w2 (w2.alloc (.cells #[.string (strOf p0), .string (strOf p2), .string (strOf v0), .string (strOf v1), .string (strOf p4)] 67)).drew := ((Below.refl _ _).alloc (Nat.le_refl _) _).drew
    generalize (w2.alloc (.cells #[.string (strOf p0), .string (strOf p2), .string (strOf v0), .string (strOf v1), .string (strOf p4)] 67)).drew = W7 at a7 bw ⊢
    have l7 : w2.heap.size < W7.heap.size := (Array.getElem?_eq_some_iff.1 a7).1
    have b8 := (Below.refl W7.heap.size W7).alloc (Nat.le_refl _) (.cells #[.int .i64 0, .int .i64 0, .int .i64 0, .int .i64 0, .int .i64 0] 68)
    have r0 := R2.out.lt
    have M0 := Lib.hid (show MSt w (W7.alloc (.cells #[.int .i64 0, .int .i64 0, .int .i64 0, .int .i64 0, .int .i64 0] 68)) w2.heap.size W7.heap.size ga (oa + 1) p1 (strOf p0) (strOf p2) (strOf v0) (strOf v1) (strOf p4) 0 0 0 0 0 from
      ⟨(R2.out.gr (Gr.of (g := w.heap.size + 1) bw) (by omega)).gr (Gr.of (g := w.heap.size + 1) b8) (by omega), bnext (bnext B2.out bw) b8, (b8.block _ l7).trans a7, heap_alloc_new W7 _, (b8.cell (p := ⟨ga, oa + 1, none⟩) (Nat.lt_of_lt_of_le hga2 bw.size)).trans ((bw.cell (p := ⟨ga, oa + 1, none⟩) hga2).trans S1.out)⟩)
    have HA := Lib.hid (show w.heap.size < W7.heap.size ∧ w2.heap.size ≠ W7.heap.size ∧ ga ≠ W7.heap.size from ⟨by omega, by omega, by omega⟩)
    clear s0 s2 s4 t0 t1 a7 bw b8
    go_upto_region 9 with (fail)
    generalize W7.alloc _ = V0 at M0 ⊢
    go_wp2
    refine wp_loop_rounds 6 ?_
    rw [rounds_succ]
    have cw := M0.out.sa.c0
    go_wp2_with fail
    refine (l01Number_any (strOf p0) (by rw [strOf_size]; exact LP.out.1) V0).mono ?_
    rintro e w' ⟨n0, ok, rfl, hn, rfl⟩
    have HN := Lib.hid (show NumS p0 n0 ok by have h := hn; rwa [show (strOf p0).data.toList = p0 by simp [strOf]] at h)
    clear hn cw
    cases ok
    · have NO := Lib.hid (rb_no (L := T.data.toList) (fun b e => by
        have h := WB.out b e
        simp only [List.cons.injEq] at h
        have bi := bookB_in e.ok
        exact num_fail HN.out (.inl rfl) b.c (by omega) (by omega) h.1))
      go_upto_region 14 with (fail)
      rename_i aa
      have AA := Lib.hid aa
      clear aa
      have a0 := M0.out.rb.c0
      have a1 := M0.out.rb.c1
      have a2 := M0.out.rb.c2
      have a3 := M0.out.rb.c3
      have a4 := M0.out.rb.c4
      have a5 := M0.out.rb.c5
      have a6 := M0.out.rb.c6
      have a7 := M0.out.rb.c7
      have fz := M0.out.rb.fz
      have PR := Lib.hid (M0.out.rb.all0)
      have GR := Lib.hid (gr80 (Gr.of (g := w.heap.size) M0.out.bl))
      go_wp2
      clear a0 a1 a2 a3 a4 a5 a6 a7 fz
      generalize World.setCell _ _ _ = U5 at PR GR ⊢
      refine AA.out _ _ (wp_ret ?_)
      have q0 := PR.out.c0
      have q1 := PR.out.c1
      have q2 := PR.out.c2
      have q3 := PR.out.c3
      have q4 := PR.out.c4
      have q5 := PR.out.c5
      have q6 := PR.out.c6
      have q7 := PR.out.c7
      exact bodyPost_ret (R := fun e w' => e = .returned (.tuple #[.agg #[.int .i16 (rbB T.data.toList).c, .int .u8 (rbB T.data.toList).m0, .int .u8 (rbB T.data.toList).m1, .int .u8 (rbB T.data.toList).m2, .int .i16 (rbB T.data.toList).v, .int .i16 (rbB T.data.toList).wi, .int .i16 (rbB T.data.toList).hi, .int .i16 (rbB T.data.toList).we], .int .i64 (rbC T.data.toList)]) ∧ Below w.heap.size w w') (v := .tuple #[.agg #[.int .i16 0, .int .u8 0, .int .u8 0, .int .u8 0, .int .i16 0, .int .i16 0, .int .i16 0, .int .i16 0], .int .i64 5]) (by simp [results, Tryd.results10, go_sem, zeroBk, q0, q1, q2, q3, q4, q5, q6, q7]) rfl ⟨by rw [NO.out.1, NO.out.2]; rfl, low_gr GR.out⟩
    by_cases hbig : 9999 < n0
    · have gb : decide (9999 < n0) = true := decide_eq_true hbig
      have NO := Lib.hid (rb_no (L := T.data.toList) (fun b e => by
        have h := WB.out b e
        simp only [List.cons.injEq] at h
        have bi := bookB_in e.ok
        exact num_fail HN.out (.inr hbig) b.c (by omega) (by omega) h.1))
      clear hbig
      go_upto_region 14 with (fail)
      rename_i aa
      have AA := Lib.hid aa
      clear aa
      have a0 := M0.out.rb.c0
      have a1 := M0.out.rb.c1
      have a2 := M0.out.rb.c2
      have a3 := M0.out.rb.c3
      have a4 := M0.out.rb.c4
      have a5 := M0.out.rb.c5
      have a6 := M0.out.rb.c6
      have a7 := M0.out.rb.c7
      have fz := M0.out.rb.fz
      have PR := Lib.hid (M0.out.rb.all0)
      have GR := Lib.hid (gr80 (Gr.of (g := w.heap.size) M0.out.bl))
      go_wp2
      clear a0 a1 a2 a3 a4 a5 a6 a7 fz
      generalize World.setCell _ _ _ = U5 at PR GR ⊢
      refine AA.out _ _ (wp_ret ?_)
      have q0 := PR.out.c0
      have q1 := PR.out.c1
      have q2 := PR.out.c2
      have q3 := PR.out.c3
      have q4 := PR.out.c4
      have q5 := PR.out.c5
      have q6 := PR.out.c6
      have q7 := PR.out.c7
      exact bodyPost_ret (R := fun e w' => e = .returned (.tuple #[.agg #[.int .i16 (rbB T.data.toList).c, .int .u8 (rbB T.data.toList).m0, .int .u8 (rbB T.data.toList).m1, .int .u8 (rbB T.data.toList).m2, .int .i16 (rbB T.data.toList).v, .int .i16 (rbB T.data.toList).wi, .int .i16 (rbB T.data.toList).hi, .int .i16 (rbB T.data.toList).we], .int .i64 (rbC T.data.toList)]) ∧ Below w.heap.size w w') (v := .tuple #[.agg #[.int .i16 0, .int .u8 0, .int .u8 0, .int .u8 0, .int .i16 0, .int .i16 0, .int .i16 0, .int .i16 0], .int .i64 5]) (by simp [results, Tryd.results10, go_sem, zeroBk, q0, q1, q2, q3, q4, q5, q6, q7]) rfl ⟨by rw [NO.out.1, NO.out.2]; rfl, low_gr GR.out⟩
    have gb : decide (9999 < n0) = false := decide_eq_false hbig
    have K0 := Lib.hid (num_good5 HN.out hbig)
    have c1 := M0.out.na.c0
    have fz := M0.out.na.fz 0
    have M1 := Lib.hid (M0.out.s0 HA.out.1 HA.out.2.1 HA.out.2.2 n0)
    clear hbig HN
    go_upto_region 11 with (fail)
    generalize World.setCell _ _ _ = V1 at M1 ⊢
    clear c1 fz gb
    go_wp2
    rw [rounds_succ]
    have cw := M1.out.sa.c1
    go_wp2_with fail
    refine (l01Number_any (strOf p2) (by rw [strOf_size]; exact LP.out.2.1) V1).mono ?_
    rintro e w' ⟨n1, ok, rfl, hn, rfl⟩
    have HN := Lib.hid (show NumS p2 n1 ok by have h := hn; rwa [show (strOf p2).data.toList = p2 by simp [strOf]] at h)
    clear hn cw
    cases ok
    · have NO := Lib.hid (rb_no (L := T.data.toList) (fun b e => by
        have h := WB.out b e
        simp only [List.cons.injEq] at h
        have bi := bookB_in e.ok
        exact num_fail HN.out (.inl rfl) b.v (by omega) (by omega) h.2.2.1))
      go_upto_region 14 with (fail)
      rename_i aa
      have AA := Lib.hid aa
      clear aa
      have a0 := M1.out.rb.c0
      have a1 := M1.out.rb.c1
      have a2 := M1.out.rb.c2
      have a3 := M1.out.rb.c3
      have a4 := M1.out.rb.c4
      have a5 := M1.out.rb.c5
      have a6 := M1.out.rb.c6
      have a7 := M1.out.rb.c7
      have fz := M1.out.rb.fz
      have PR := Lib.hid (M1.out.rb.all0)
      have GR := Lib.hid (gr80 (Gr.of (g := w.heap.size) M1.out.bl))
      go_wp2
      clear a0 a1 a2 a3 a4 a5 a6 a7 fz
      generalize World.setCell _ _ _ = U5 at PR GR ⊢
      refine AA.out _ _ (wp_ret ?_)
      have q0 := PR.out.c0
      have q1 := PR.out.c1
      have q2 := PR.out.c2
      have q3 := PR.out.c3
      have q4 := PR.out.c4
      have q5 := PR.out.c5
      have q6 := PR.out.c6
      have q7 := PR.out.c7
      exact bodyPost_ret (R := fun e w' => e = .returned (.tuple #[.agg #[.int .i16 (rbB T.data.toList).c, .int .u8 (rbB T.data.toList).m0, .int .u8 (rbB T.data.toList).m1, .int .u8 (rbB T.data.toList).m2, .int .i16 (rbB T.data.toList).v, .int .i16 (rbB T.data.toList).wi, .int .i16 (rbB T.data.toList).hi, .int .i16 (rbB T.data.toList).we], .int .i64 (rbC T.data.toList)]) ∧ Below w.heap.size w w') (v := .tuple #[.agg #[.int .i16 0, .int .u8 0, .int .u8 0, .int .u8 0, .int .i16 0, .int .i16 0, .int .i16 0, .int .i16 0], .int .i64 5]) (by simp [results, Tryd.results10, go_sem, zeroBk, q0, q1, q2, q3, q4, q5, q6, q7]) rfl ⟨by rw [NO.out.1, NO.out.2]; rfl, low_gr GR.out⟩
    by_cases hbig : 9999 < n1
    · have gb : decide (9999 < n1) = true := decide_eq_true hbig
      have NO := Lib.hid (rb_no (L := T.data.toList) (fun b e => by
        have h := WB.out b e
        simp only [List.cons.injEq] at h
        have bi := bookB_in e.ok
        exact num_fail HN.out (.inr hbig) b.v (by omega) (by omega) h.2.2.1))
      clear hbig
      go_upto_region 14 with (fail)
      rename_i aa
      have AA := Lib.hid aa
      clear aa
      have a0 := M1.out.rb.c0
      have a1 := M1.out.rb.c1
      have a2 := M1.out.rb.c2
      have a3 := M1.out.rb.c3
      have a4 := M1.out.rb.c4
      have a5 := M1.out.rb.c5
      have a6 := M1.out.rb.c6
      have a7 := M1.out.rb.c7
      have fz := M1.out.rb.fz
      have PR := Lib.hid (M1.out.rb.all0)
      have GR := Lib.hid (gr80 (Gr.of (g := w.heap.size) M1.out.bl))
      go_wp2
      clear a0 a1 a2 a3 a4 a5 a6 a7 fz
      generalize World.setCell _ _ _ = U5 at PR GR ⊢
      refine AA.out _ _ (wp_ret ?_)
      have q0 := PR.out.c0
      have q1 := PR.out.c1
      have q2 := PR.out.c2
      have q3 := PR.out.c3
      have q4 := PR.out.c4
      have q5 := PR.out.c5
      have q6 := PR.out.c6
      have q7 := PR.out.c7
      exact bodyPost_ret (R := fun e w' => e = .returned (.tuple #[.agg #[.int .i16 (rbB T.data.toList).c, .int .u8 (rbB T.data.toList).m0, .int .u8 (rbB T.data.toList).m1, .int .u8 (rbB T.data.toList).m2, .int .i16 (rbB T.data.toList).v, .int .i16 (rbB T.data.toList).wi, .int .i16 (rbB T.data.toList).hi, .int .i16 (rbB T.data.toList).we], .int .i64 (rbC T.data.toList)]) ∧ Below w.heap.size w w') (v := .tuple #[.agg #[.int .i16 0, .int .u8 0, .int .u8 0, .int .u8 0, .int .i16 0, .int .i16 0, .int .i16 0, .int .i16 0], .int .i64 5]) (by simp [results, Tryd.results10, go_sem, zeroBk, q0, q1, q2, q3, q4, q5, q6, q7]) rfl ⟨by rw [NO.out.1, NO.out.2]; rfl, low_gr GR.out⟩
    have gb : decide (9999 < n1) = false := decide_eq_false hbig
    have K1 := Lib.hid (num_good5 HN.out hbig)
    have c1 := M1.out.na.c1
    have fz := M1.out.na.fz 1
    have M2 := Lib.hid (M1.out.s1 HA.out.1 HA.out.2.1 HA.out.2.2 n1)
    clear hbig HN
    go_upto_region 11 with (fail)
    generalize World.setCell _ _ _ = V2 at M2 ⊢
    clear c1 fz gb
    go_wp2
    rw [rounds_succ]
    have cw := M2.out.sa.c2
    go_wp2_with fail
    refine (l01Number_any (strOf v0) (by rw [strOf_size]; exact LP.out.2.2.1) V2).mono ?_
    rintro e w' ⟨n2, ok, rfl, hn, rfl⟩
    have HN := Lib.hid (show NumS v0 n2 ok by have h := hn; rwa [show (strOf v0).data.toList = v0 by simp [strOf]] at h)
    clear hn cw
    cases ok
    · have NO := Lib.hid (rb_no (L := T.data.toList) (fun b e => by
        have v := WV.out b e
        have bi := bookB_in e.ok
        exact num_fail HN.out (.inl rfl) b.wi (by omega) (by omega) v.1))
      go_upto_region 14 with (fail)
      rename_i aa
      have AA := Lib.hid aa
      clear aa
      have a0 := M2.out.rb.c0
      have a1 := M2.out.rb.c1
      have a2 := M2.out.rb.c2
      have a3 := M2.out.rb.c3
      have a4 := M2.out.rb.c4
      have a5 := M2.out.rb.c5
      have a6 := M2.out.rb.c6
      have a7 := M2.out.rb.c7
      have fz := M2.out.rb.fz
      have PR := Lib.hid (M2.out.rb.all0)
      have GR := Lib.hid (gr80 (Gr.of (g := w.heap.size) M2.out.bl))
      go_wp2
      clear a0 a1 a2 a3 a4 a5 a6 a7 fz
      generalize World.setCell _ _ _ = U5 at PR GR ⊢
      refine AA.out _ _ (wp_ret ?_)
      have q0 := PR.out.c0
      have q1 := PR.out.c1
      have q2 := PR.out.c2
      have q3 := PR.out.c3
      have q4 := PR.out.c4
      have q5 := PR.out.c5
      have q6 := PR.out.c6
      have q7 := PR.out.c7
      exact bodyPost_ret (R := fun e w' => e = .returned (.tuple #[.agg #[.int .i16 (rbB T.data.toList).c, .int .u8 (rbB T.data.toList).m0, .int .u8 (rbB T.data.toList).m1, .int .u8 (rbB T.data.toList).m2, .int .i16 (rbB T.data.toList).v, .int .i16 (rbB T.data.toList).wi, .int .i16 (rbB T.data.toList).hi, .int .i16 (rbB T.data.toList).we], .int .i64 (rbC T.data.toList)]) ∧ Below w.heap.size w w') (v := .tuple #[.agg #[.int .i16 0, .int .u8 0, .int .u8 0, .int .u8 0, .int .i16 0, .int .i16 0, .int .i16 0, .int .i16 0], .int .i64 5]) (by simp [results, Tryd.results10, go_sem, zeroBk, q0, q1, q2, q3, q4, q5, q6, q7]) rfl ⟨by rw [NO.out.1, NO.out.2]; rfl, low_gr GR.out⟩
    by_cases hbig : 9999 < n2
    · have gb : decide (9999 < n2) = true := decide_eq_true hbig
      have NO := Lib.hid (rb_no (L := T.data.toList) (fun b e => by
        have v := WV.out b e
        have bi := bookB_in e.ok
        exact num_fail HN.out (.inr hbig) b.wi (by omega) (by omega) v.1))
      clear hbig
      go_upto_region 14 with (fail)
      rename_i aa
      have AA := Lib.hid aa
      clear aa
      have a0 := M2.out.rb.c0
      have a1 := M2.out.rb.c1
      have a2 := M2.out.rb.c2
      have a3 := M2.out.rb.c3
      have a4 := M2.out.rb.c4
      have a5 := M2.out.rb.c5
      have a6 := M2.out.rb.c6
      have a7 := M2.out.rb.c7
      have fz := M2.out.rb.fz
      have PR := Lib.hid (M2.out.rb.all0)
      have GR := Lib.hid (gr80 (Gr.of (g := w.heap.size) M2.out.bl))
      go_wp2
      clear a0 a1 a2 a3 a4 a5 a6 a7 fz
      generalize World.setCell _ _ _ = U5 at PR GR ⊢
      refine AA.out _ _ (wp_ret ?_)
      have q0 := PR.out.c0
      have q1 := PR.out.c1
      have q2 := PR.out.c2
      have q3 := PR.out.c3
      have q4 := PR.out.c4
      have q5 := PR.out.c5
      have q6 := PR.out.c6
      have q7 := PR.out.c7
      exact bodyPost_ret (R := fun e w' => e = .returned (.tuple #[.agg #[.int .i16 (rbB T.data.toList).c, .int .u8 (rbB T.data.toList).m0, .int .u8 (rbB T.data.toList).m1, .int .u8 (rbB T.data.toList).m2, .int .i16 (rbB T.data.toList).v, .int .i16 (rbB T.data.toList).wi, .int .i16 (rbB T.data.toList).hi, .int .i16 (rbB T.data.toList).we], .int .i64 (rbC T.data.toList)]) ∧ Below w.heap.size w w') (v := .tuple #[.agg #[.int .i16 0, .int .u8 0, .int .u8 0, .int .u8 0, .int .i16 0, .int .i16 0, .int .i16 0, .int .i16 0], .int .i64 5]) (by simp [results, Tryd.results10, go_sem, zeroBk, q0, q1, q2, q3, q4, q5, q6, q7]) rfl ⟨by rw [NO.out.1, NO.out.2]; rfl, low_gr GR.out⟩
    have gb : decide (9999 < n2) = false := decide_eq_false hbig
    have K2 := Lib.hid (num_good5 HN.out hbig)
    have c1 := M2.out.na.c2
    have fz := M2.out.na.fz 2
    have M3 := Lib.hid (M2.out.s2 HA.out.1 HA.out.2.1 HA.out.2.2 n2)
    clear hbig HN
    go_upto_region 11 with (fail)
    generalize World.setCell _ _ _ = V3 at M3 ⊢
    clear c1 fz gb
    go_wp2
    rw [rounds_succ]
    have cw := M3.out.sa.c3
    go_wp2_with fail
    refine (l01Number_any (strOf v1) (by rw [strOf_size]; exact LP.out.2.2.2.1) V3).mono ?_
    rintro e w' ⟨n3, ok, rfl, hn, rfl⟩
    have HN := Lib.hid (show NumS v1 n3 ok by have h := hn; rwa [show (strOf v1).data.toList = v1 by simp [strOf]] at h)
    clear hn cw
    cases ok
    · have NO := Lib.hid (rb_no (L := T.data.toList) (fun b e => by
        have v := WV.out b e
        have bi := bookB_in e.ok
        exact num_fail HN.out (.inl rfl) b.hi (by omega) (by omega) v.2))
      go_upto_region 14 with (fail)
      rename_i aa
      have AA := Lib.hid aa
      clear aa
      have a0 := M3.out.rb.c0
      have a1 := M3.out.rb.c1
      have a2 := M3.out.rb.c2
      have a3 := M3.out.rb.c3
      have a4 := M3.out.rb.c4
      have a5 := M3.out.rb.c5
      have a6 := M3.out.rb.c6
      have a7 := M3.out.rb.c7
      have fz := M3.out.rb.fz
      have PR := Lib.hid (M3.out.rb.all0)
      have GR := Lib.hid (gr80 (Gr.of (g := w.heap.size) M3.out.bl))
      go_wp2
      clear a0 a1 a2 a3 a4 a5 a6 a7 fz
      generalize World.setCell _ _ _ = U5 at PR GR ⊢
      refine AA.out _ _ (wp_ret ?_)
      have q0 := PR.out.c0
      have q1 := PR.out.c1
      have q2 := PR.out.c2
      have q3 := PR.out.c3
      have q4 := PR.out.c4
      have q5 := PR.out.c5
      have q6 := PR.out.c6
      have q7 := PR.out.c7
      exact bodyPost_ret (R := fun e w' => e = .returned (.tuple #[.agg #[.int .i16 (rbB T.data.toList).c, .int .u8 (rbB T.data.toList).m0, .int .u8 (rbB T.data.toList).m1, .int .u8 (rbB T.data.toList).m2, .int .i16 (rbB T.data.toList).v, .int .i16 (rbB T.data.toList).wi, .int .i16 (rbB T.data.toList).hi, .int .i16 (rbB T.data.toList).we], .int .i64 (rbC T.data.toList)]) ∧ Below w.heap.size w w') (v := .tuple #[.agg #[.int .i16 0, .int .u8 0, .int .u8 0, .int .u8 0, .int .i16 0, .int .i16 0, .int .i16 0, .int .i16 0], .int .i64 5]) (by simp [results, Tryd.results10, go_sem, zeroBk, q0, q1, q2, q3, q4, q5, q6, q7]) rfl ⟨by rw [NO.out.1, NO.out.2]; rfl, low_gr GR.out⟩
    by_cases hbig : 9999 < n3
    · have gb : decide (9999 < n3) = true := decide_eq_true hbig
      have NO := Lib.hid (rb_no (L := T.data.toList) (fun b e => by
        have v := WV.out b e
        have bi := bookB_in e.ok
        exact num_fail HN.out (.inr hbig) b.hi (by omega) (by omega) v.2))
      clear hbig
      go_upto_region 14 with (fail)
      rename_i aa
      have AA := Lib.hid aa
      clear aa
      have a0 := M3.out.rb.c0
      have a1 := M3.out.rb.c1
      have a2 := M3.out.rb.c2
      have a3 := M3.out.rb.c3
      have a4 := M3.out.rb.c4
      have a5 := M3.out.rb.c5
      have a6 := M3.out.rb.c6
      have a7 := M3.out.rb.c7
      have fz := M3.out.rb.fz
      have PR := Lib.hid (M3.out.rb.all0)
      have GR := Lib.hid (gr80 (Gr.of (g := w.heap.size) M3.out.bl))
      go_wp2
      clear a0 a1 a2 a3 a4 a5 a6 a7 fz
      generalize World.setCell _ _ _ = U5 at PR GR ⊢
      refine AA.out _ _ (wp_ret ?_)
      have q0 := PR.out.c0
      have q1 := PR.out.c1
      have q2 := PR.out.c2
      have q3 := PR.out.c3
      have q4 := PR.out.c4
      have q5 := PR.out.c5
      have q6 := PR.out.c6
      have q7 := PR.out.c7
      exact bodyPost_ret (R := fun e w' => e = .returned (.tuple #[.agg #[.int .i16 (rbB T.data.toList).c, .int .u8 (rbB T.data.toList).m0, .int .u8 (rbB T.data.toList).m1, .int .u8 (rbB T.data.toList).m2, .int .i16 (rbB T.data.toList).v, .int .i16 (rbB T.data.toList).wi, .int .i16 (rbB T.data.toList).hi, .int .i16 (rbB T.data.toList).we], .int .i64 (rbC T.data.toList)]) ∧ Below w.heap.size w w') (v := .tuple #[.agg #[.int .i16 0, .int .u8 0, .int .u8 0, .int .u8 0, .int .i16 0, .int .i16 0, .int .i16 0, .int .i16 0], .int .i64 5]) (by simp [results, Tryd.results10, go_sem, zeroBk, q0, q1, q2, q3, q4, q5, q6, q7]) rfl ⟨by rw [NO.out.1, NO.out.2]; rfl, low_gr GR.out⟩
    have gb : decide (9999 < n3) = false := decide_eq_false hbig
    have K3 := Lib.hid (num_good5 HN.out hbig)
    have c1 := M3.out.na.c3
    have fz := M3.out.na.fz 3
    have M4 := Lib.hid (M3.out.s3 HA.out.1 HA.out.2.1 HA.out.2.2 n3)
    clear hbig HN
    go_upto_region 11 with (fail)
    generalize World.setCell _ _ _ = V4 at M4 ⊢
    clear c1 fz gb
    go_wp2
    rw [rounds_succ]
    have cw := M4.out.sa.c4
    go_wp2_with fail
    refine (l01Number_any (strOf p4) (by rw [strOf_size]; exact LP.out.2.2.2.2) V4).mono ?_
    rintro e w' ⟨n4, ok, rfl, hn, rfl⟩
    have HN := Lib.hid (show NumS p4 n4 ok by have h := hn; rwa [show (strOf p4).data.toList = p4 by simp [strOf]] at h)
    clear hn cw
    cases ok
    · have NO := Lib.hid (rb_no (L := T.data.toList) (fun b e => by
        have h := WB.out b e
        simp only [List.cons.injEq] at h
        have bi := bookB_in e.ok
        exact num_fail HN.out (.inl rfl) b.we (by omega) (by omega) h.2.2.2.2.1))
      go_upto_region 14 with (fail)
      rename_i aa
      have AA := Lib.hid aa
      clear aa
      have a0 := M4.out.rb.c0
      have a1 := M4.out.rb.c1
      have a2 := M4.out.rb.c2
      have a3 := M4.out.rb.c3
      have a4 := M4.out.rb.c4
      have a5 := M4.out.rb.c5
      have a6 := M4.out.rb.c6
      have a7 := M4.out.rb.c7
      have fz := M4.out.rb.fz
      have PR := Lib.hid (M4.out.rb.all0)
      have GR := Lib.hid (gr80 (Gr.of (g := w.heap.size) M4.out.bl))
      go_wp2
      clear a0 a1 a2 a3 a4 a5 a6 a7 fz
      generalize World.setCell _ _ _ = U5 at PR GR ⊢
      refine AA.out _ _ (wp_ret ?_)
      have q0 := PR.out.c0
      have q1 := PR.out.c1
      have q2 := PR.out.c2
      have q3 := PR.out.c3
      have q4 := PR.out.c4
      have q5 := PR.out.c5
      have q6 := PR.out.c6
      have q7 := PR.out.c7
      exact bodyPost_ret (R := fun e w' => e = .returned (.tuple #[.agg #[.int .i16 (rbB T.data.toList).c, .int .u8 (rbB T.data.toList).m0, .int .u8 (rbB T.data.toList).m1, .int .u8 (rbB T.data.toList).m2, .int .i16 (rbB T.data.toList).v, .int .i16 (rbB T.data.toList).wi, .int .i16 (rbB T.data.toList).hi, .int .i16 (rbB T.data.toList).we], .int .i64 (rbC T.data.toList)]) ∧ Below w.heap.size w w') (v := .tuple #[.agg #[.int .i16 0, .int .u8 0, .int .u8 0, .int .u8 0, .int .i16 0, .int .i16 0, .int .i16 0, .int .i16 0], .int .i64 5]) (by simp [results, Tryd.results10, go_sem, zeroBk, q0, q1, q2, q3, q4, q5, q6, q7]) rfl ⟨by rw [NO.out.1, NO.out.2]; rfl, low_gr GR.out⟩
    by_cases hbig : 9999 < n4
    · have gb : decide (9999 < n4) = true := decide_eq_true hbig
      have NO := Lib.hid (rb_no (L := T.data.toList) (fun b e => by
        have h := WB.out b e
        simp only [List.cons.injEq] at h
        have bi := bookB_in e.ok
        exact num_fail HN.out (.inr hbig) b.we (by omega) (by omega) h.2.2.2.2.1))
      clear hbig
      go_upto_region 14 with (fail)
      rename_i aa
      have AA := Lib.hid aa
      clear aa
      have a0 := M4.out.rb.c0
      have a1 := M4.out.rb.c1
      have a2 := M4.out.rb.c2
      have a3 := M4.out.rb.c3
      have a4 := M4.out.rb.c4
      have a5 := M4.out.rb.c5
      have a6 := M4.out.rb.c6
      have a7 := M4.out.rb.c7
      have fz := M4.out.rb.fz
      have PR := Lib.hid (M4.out.rb.all0)
      have GR := Lib.hid (gr80 (Gr.of (g := w.heap.size) M4.out.bl))
      go_wp2
      clear a0 a1 a2 a3 a4 a5 a6 a7 fz
      generalize World.setCell _ _ _ = U5 at PR GR ⊢
      refine AA.out _ _ (wp_ret ?_)
      have q0 := PR.out.c0
      have q1 := PR.out.c1
      have q2 := PR.out.c2
      have q3 := PR.out.c3
      have q4 := PR.out.c4
      have q5 := PR.out.c5
      have q6 := PR.out.c6
      have q7 := PR.out.c7
      exact bodyPost_ret (R := fun e w' => e = .returned (.tuple #[.agg #[.int .i16 (rbB T.data.toList).c, .int .u8 (rbB T.data.toList).m0, .int .u8 (rbB T.data.toList).m1, .int .u8 (rbB T.data.toList).m2, .int .i16 (rbB T.data.toList).v, .int .i16 (rbB T.data.toList).wi, .int .i16 (rbB T.data.toList).hi, .int .i16 (rbB T.data.toList).we], .int .i64 (rbC T.data.toList)]) ∧ Below w.heap.size w w') (v := .tuple #[.agg #[.int .i16 0, .int .u8 0, .int .u8 0, .int .u8 0, .int .i16 0, .int .i16 0, .int .i16 0, .int .i16 0], .int .i64 5]) (by simp [results, Tryd.results10, go_sem, zeroBk, q0, q1, q2, q3, q4, q5, q6, q7]) rfl ⟨by rw [NO.out.1, NO.out.2]; rfl, low_gr GR.out⟩
    have gb : decide (9999 < n4) = false := decide_eq_false hbig
    have K4 := Lib.hid (num_good5 HN.out hbig)
    have c1 := M4.out.na.c4
    have fz := M4.out.na.fz 4
    have M5 := Lib.hid (M4.out.s4 HA.out.1 HA.out.2.1 HA.out.2.2 n4)
    clear hbig HN
    go_upto_region 11 with (fail)
    generalize World.setCell _ _ _ = V5 at M5 ⊢
    clear c1 fz gb
    go_wp2
    rw [rounds_succ]
    have d0 := M5.out.na.c0
    have e0 : IntKind.i16.wrap n0 = n0 := IntWalk.i16_in _ (by have := K0.out.2; omega)
    have d1 := M5.out.na.c1
    have e1 : IntKind.i16.wrap n1 = n1 := IntWalk.i16_in _ (by have := K1.out.2; omega)
    have d2 := M5.out.na.c2
    have e2 : IntKind.i16.wrap n2 = n2 := IntWalk.i16_in _ (by have := K2.out.2; omega)
    have d3 := M5.out.na.c3
    have e3 : IntKind.i16.wrap n3 = n3 := IntWalk.i16_in _ (by have := K3.out.2; omega)
    have d4 := M5.out.na.c4
    have e4 : IntKind.i16.wrap n4 = n4 := IntWalk.i16_in _ (by have := K4.out.2; omega)
    have bb := (Below.refl V5.heap.size V5).alloc (Nat.le_refl _) (.cells #[.int .i16 n0, .int .u8 0, .int .u8 0, .int .u8 0, .int .i16 n1, .int .i16 n2, .int .i16 n3, .int .i16 n4] 25)
    have ms := M5.out.bx bb
    have HG := Lib.hid (show w.heap.size < V5.heap.size ∧ ga ≠ V5.heap.size from ⟨M5.out.rb.lt, fun e => by have := World.block_lt_of_cell? _ _ M5.out.wk; simp only at this; omega⟩)
    have Y0 := Lib.hid (show KSt w (V5.alloc (.cells #[.int .i16 n0, .int .u8 0, .int .u8 0, .int .u8 0, .int .i16 n1, .int .i16 n2, .int .i16 n3, .int .i16 n4] 25)) V5.heap.size ga (oa + 1) (strOf p1) ⟨n0, 0, 0, 0, n1, n2, n3, n4⟩ from ⟨ms.rb, ms.bl, ms.wk, heap_alloc_new V5 _⟩)
    clear bb ms
    go_upto_region 17 with (fail)
    generalize World.alloc _ _ = U0 at Y0 ⊢
    clear d0 d1 d2 d3 d4 e0 e1 e2 e3 e4
    obtain ⟨S, hS, hs3, s0x, s1x, s2x⟩ := mark_bytes E1.out
    rw [← hS] at Y0
    clear hS
    have i0 : 0 < S.size := by omega
    have i1 : 1 < S.size := by omega
    have i2 : 2 < S.size := by omega
    have j0 : (0 : Int) < (S.size : Int) := by omega
    have j1 : (1 : Int) < (S.size : Int) := by omega
    have j2 : (2 : Int) < (S.size : Int) := by omega
    go_wp2
    refine wp_loop_rounds 4 ?_
    rw [rounds_succ]
    have ck := Y0.out.wk
    have cm := Y0.out.bx.c1
    have fz := Y0.out.bx.fz 1
    have Y1 := Lib.hid (show KSt w (U0.setCell ⟨V5.heap.size, 1, none⟩ (.int .u8 (x0.toNat : Int))) V5.heap.size ga (oa + 1) S ⟨n0, (x0.toNat : Int), 0, 0, n1, n2, n3, n4⟩ from Y0.out.gr HG.out.1 HG.out.2 ((Gr.refl V5.heap.size U0).set 1 _) (Y0.out.bx.s1 _))
    go_upto_region 19 with (fail)
    generalize World.setCell _ _ _ = U1 at Y1 ⊢
    clear ck cm fz
    go_wp2
    rw [rounds_succ]
    have ck := Y1.out.wk
    have cm := Y1.out.bx.c2
    have fz := Y1.out.bx.fz 2
    have Y2 := Lib.hid (show KSt w (U1.setCell ⟨V5.heap.size, 2, none⟩ (.int .u8 (x1.toNat : Int))) V5.heap.size ga (oa + 1) S ⟨n0, (x0.toNat : Int), (x1.toNat : Int), 0, n1, n2, n3, n4⟩ from Y1.out.gr HG.out.1 HG.out.2 ((Gr.refl V5.heap.size U1).set 2 _) (Y1.out.bx.s2 _))
    go_upto_region 19 with (fail)
    generalize World.setCell _ _ _ = U2 at Y2 ⊢
    clear ck cm fz
    go_wp2
    rw [rounds_succ]
    have ck := Y2.out.wk
    have cm := Y2.out.bx.c3
    have fz := Y2.out.bx.fz 3
    have Y3 := Lib.hid (show KSt w (U2.setCell ⟨V5.heap.size, 3, none⟩ (.int .u8 (x2.toNat : Int))) V5.heap.size ga (oa + 1) S ⟨n0, (x0.toNat : Int), (x1.toNat : Int), (x2.toNat : Int), n1, n2, n3, n4⟩ from Y2.out.gr HG.out.1 HG.out.2 ((Gr.refl V5.heap.size U2).set 3 _) (Y2.out.bx.s3 _))
    go_upto_region 19 with (fail)
    generalize World.setCell _ _ _ = U3 at Y3 ⊢
    clear ck cm fz
    go_wp2
    clear s0x s1x s2x i0 i1 i2 j0 j1 j2 hs3
    rw [rounds_succ]
    obtain ⟨bf, hbf⟩ : ∃ bf, bf = bkOf n0 x0 x1 x2 n1 n2 n3 n4 := ⟨_, rfl⟩
    have Y4 := Lib.hid (show KSt w U3 V5.heap.size ga (oa + 1) S bf from by rw [hbf]; exact Y3.out)
    have WF := Lib.hid (show bf.Wf from by rw [hbf]; exact bkOf_wf K0.out.2 K1.out.2 K2.out.2 K3.out.2 K4.out.2)
    have BF := Lib.hid hbf
    clear hbf
    go_wp2_with fail
    refine (l01Book_any bf WF.out V5.heap.size 0 U3 Y4.out.bx.c0 Y4.out.bx.c1 Y4.out.bx.c2 Y4.out.bx.c3 Y4.out.bx.c4 Y4.out.bx.c5 Y4.out.bx.c6 Y4.out.bx.c7 Y4.out.bx.lt).mono ?_
    rintro e U4 ⟨rfl, h4⟩
    have Y5 := Lib.hid (Y4.out.bx' h4)
    clear h4
    cases hv : bookB bf
    · have NO := Lib.hid (rb_no (bk_no E1.out K0.out K1.out K2.out K3.out K4.out BF.out hv WB.out WV.out))
      clear hv
      go_upto_region 22 with (fail)
      rename_i aa
      have AA := Lib.hid aa
      clear aa
      have a0 := Y5.out.rb.c0
      have a1 := Y5.out.rb.c1
      have a2 := Y5.out.rb.c2
      have a3 := Y5.out.rb.c3
      have a4 := Y5.out.rb.c4
      have a5 := Y5.out.rb.c5
      have a6 := Y5.out.rb.c6
      have a7 := Y5.out.rb.c7
      have fz := Y5.out.rb.fz
      have PR := Lib.hid (Y5.out.rb.all0)
      have GR := Lib.hid (gr80 (Gr.of (g := w.heap.size) Y5.out.bl))
      go_wp2
      clear a0 a1 a2 a3 a4 a5 a6 a7 fz
      generalize World.setCell _ _ _ = U5 at PR GR ⊢
      refine AA.out _ _ (wp_ret ?_)
      have q0 := PR.out.c0
      have q1 := PR.out.c1
      have q2 := PR.out.c2
      have q3 := PR.out.c3
      have q4 := PR.out.c4
      have q5 := PR.out.c5
      have q6 := PR.out.c6
      have q7 := PR.out.c7
      exact bodyPost_ret (R := fun e w' => e = .returned (.tuple #[.agg #[.int .i16 (rbB T.data.toList).c, .int .u8 (rbB T.data.toList).m0, .int .u8 (rbB T.data.toList).m1, .int .u8 (rbB T.data.toList).m2, .int .i16 (rbB T.data.toList).v, .int .i16 (rbB T.data.toList).wi, .int .i16 (rbB T.data.toList).hi, .int .i16 (rbB T.data.toList).we], .int .i64 (rbC T.data.toList)]) ∧ Below w.heap.size w w') (v := .tuple #[.agg #[.int .i16 0, .int .u8 0, .int .u8 0, .int .u8 0, .int .i16 0, .int .i16 0, .int .i16 0, .int .i16 0], .int .i64 5]) (by simp [results, Tryd.results10, go_sem, zeroBk, q0, q1, q2, q3, q4, q5, q6, q7]) rfl ⟨by rw [NO.out.1, NO.out.2]; rfl, low_gr GR.out⟩
    have YE := Lib.hid (rb_yes (L := T.data.toList) (b := bf) ⟨hv, by rw [BF.out]; exact bk_parts JL.out J3.out E1.out K0.out K1.out K2.out K3.out K4.out⟩)
    clear hv
    go_upto_region 23 with (fail)
    rename_i kk4 kk3 aa2 kk2 kk1 aa1 kk0 aa0
    clear aa2 aa1
    have c0 := Y5.out.bx.c0
    have c1 := Y5.out.bx.c1
    have c2 := Y5.out.bx.c2
    have c3 := Y5.out.bx.c3
    have c4 := Y5.out.bx.c4
    have c5 := Y5.out.bx.c5
    have c6 := Y5.out.bx.c6
    have c7 := Y5.out.bx.c7
    have a0 := Y5.out.rb.c0
    have a1 := Y5.out.rb.c1
    have a2 := Y5.out.rb.c2
    have a3 := Y5.out.rb.c3
    have a4 := Y5.out.rb.c4
    have a5 := Y5.out.rb.c5
    have a6 := Y5.out.rb.c6
    have a7 := Y5.out.rb.c7
    have fz := Y5.out.rb.fz
    have PR := Lib.hid (Y5.out.rb.all bf)
    have GR := Lib.hid (gr8 bf (Gr.of (g := w.heap.size) Y5.out.bl))
    have AA := Lib.hid aa0
    clear aa0
    go_wp2
    clear c0 c1 c2 c3 c4 c5 c6 c7 a0 a1 a2 a3 a4 a5 a6 a7 fz
    generalize World.setCell _ _ _ = U5 at PR GR ⊢
    refine AA.out _ _ (wp_ret ?_)
    have q0 := PR.out.c0
    have q1 := PR.out.c1
    have q2 := PR.out.c2
    have q3 := PR.out.c3
    have q4 := PR.out.c4
    have q5 := PR.out.c5
    have q6 := PR.out.c6
    have q7 := PR.out.c7
    exact bodyPost_ret (R := fun e w' => e = .returned (.tuple #[.agg #[.int .i16 (rbB T.data.toList).c, .int .u8 (rbB T.data.toList).m0, .int .u8 (rbB T.data.toList).m1, .int .u8 (rbB T.data.toList).m2, .int .i16 (rbB T.data.toList).v, .int .i16 (rbB T.data.toList).wi, .int .i16 (rbB T.data.toList).hi, .int .i16 (rbB T.data.toList).we], .int .i64 (rbC T.data.toList)]) ∧ Below w.heap.size w w') (v := .tuple #[.agg #[.int .i16 bf.c, .int .u8 bf.m0, .int .u8 bf.m1, .int .u8 bf.m2, .int .i16 bf.v, .int .i16 bf.wi, .int .i16 bf.hi, .int .i16 bf.we], .int .i64 0]) (by simp [results, Tryd.results10, go_sem, q0, q1, q2, q3, q4, q5, q6, q7]) rfl ⟨by rw [YE.out.1, YE.out.2], low_gr GR.out⟩
end Go.Proofs.YtkojnepgeegalaaDoor
