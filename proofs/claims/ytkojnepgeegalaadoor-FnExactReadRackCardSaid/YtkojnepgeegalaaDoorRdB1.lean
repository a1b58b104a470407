/- A reader's book, by the program: a contract. Condition: the error variable holds an error of errors.New's make; a text no longer than told. -/
import Derived.Test.YtkojnepgeegalaaDoorRdB0
import Derived.Test.YtkojnepgeegalaaDoorRdA
import Derived.Test.YtkojnepgeegalaaDoorValid2
namespace Go.Proofs.YtkojnepgeegalaaDoor
set_option linter.unusedSimpArgs false
set_option linter.unusedVariables false
set_option maxRecDepth 100000
open Go.RowKit

/-- A book in a block of its own. -/
def BB (w : World) (g : Nat) (b : Bk) : Prop := w.heap[g]? = some (.cells #[.int .i16 b.c, .int .u8 b.m0, .int .u8 b.m1, .int .u8 b.m2, .int .i16 b.v, .int .i16 b.wi, .int .i16 b.hi, .int .i16 b.we] 25 (0, 0))
section
variable {w W W' : World} {g k : Nat} {b : Bk}
theorem BB.lt (h : BB W g b) : g < W.heap.size := (Array.getElem?_eq_some_iff.1 h).1
theorem BB.gr (h : BB W g b) (hg : Gr k W W') (hne : g ≠ k) : BB W' g b := (hg.block g h.lt (fun e => hne (by injection e))).trans h
theorem BB.fz (h : BB W g b) (i : Nat) : W.frozen? ⟨g, i, none⟩ = false := frozen_of_row W g i _ _ h
theorem BB.c0 (h : BB W g b) : W.cell? ⟨g, 0, none⟩ = some (.int .i16 b.c) := cell_of_row W g 0 _ _ _ h
theorem BB.s0 (h : BB W g b) (z : Int) : BB (W.setCell ⟨g, 0, none⟩ (.int .i16 z)) g { b with c := z } := by
  unfold BB at *
  rw [heap_setCell_same _ _ _ _ _ _ h]
  rfl
theorem BB.c1 (h : BB W g b) : W.cell? ⟨g, 1, none⟩ = some (.int .u8 b.m0) := cell_of_row W g 1 _ _ _ h
theorem BB.s1 (h : BB W g b) (z : Int) : BB (W.setCell ⟨g, 1, none⟩ (.int .u8 z)) g { b with m0 := z } := by
  unfold BB at *
  rw [heap_setCell_same _ _ _ _ _ _ h]
  rfl
theorem BB.c2 (h : BB W g b) : W.cell? ⟨g, 2, none⟩ = some (.int .u8 b.m1) := cell_of_row W g 2 _ _ _ h
theorem BB.s2 (h : BB W g b) (z : Int) : BB (W.setCell ⟨g, 2, none⟩ (.int .u8 z)) g { b with m1 := z } := by
  unfold BB at *
  rw [heap_setCell_same _ _ _ _ _ _ h]
  rfl
theorem BB.c3 (h : BB W g b) : W.cell? ⟨g, 3, none⟩ = some (.int .u8 b.m2) := cell_of_row W g 3 _ _ _ h
theorem BB.s3 (h : BB W g b) (z : Int) : BB (W.setCell ⟨g, 3, none⟩ (.int .u8 z)) g { b with m2 := z } := by
  unfold BB at *
  rw [heap_setCell_same _ _ _ _ _ _ h]
  rfl
theorem BB.c4 (h : BB W g b) : W.cell? ⟨g, 4, none⟩ = some (.int .i16 b.v) := cell_of_row W g 4 _ _ _ h
theorem BB.s4 (h : BB W g b) (z : Int) : BB (W.setCell ⟨g, 4, none⟩ (.int .i16 z)) g { b with v := z } := by
  unfold BB at *
  rw [heap_setCell_same _ _ _ _ _ _ h]
  rfl
theorem BB.c5 (h : BB W g b) : W.cell? ⟨g, 5, none⟩ = some (.int .i16 b.wi) := cell_of_row W g 5 _ _ _ h
theorem BB.s5 (h : BB W g b) (z : Int) : BB (W.setCell ⟨g, 5, none⟩ (.int .i16 z)) g { b with wi := z } := by
  unfold BB at *
  rw [heap_setCell_same _ _ _ _ _ _ h]
  rfl
theorem BB.c6 (h : BB W g b) : W.cell? ⟨g, 6, none⟩ = some (.int .i16 b.hi) := cell_of_row W g 6 _ _ _ h
theorem BB.s6 (h : BB W g b) (z : Int) : BB (W.setCell ⟨g, 6, none⟩ (.int .i16 z)) g { b with hi := z } := by
  unfold BB at *
  rw [heap_setCell_same _ _ _ _ _ _ h]
  rfl
theorem BB.c7 (h : BB W g b) : W.cell? ⟨g, 7, none⟩ = some (.int .i16 b.we) := cell_of_row W g 7 _ _ _ h
theorem BB.s7 (h : BB W g b) (z : Int) : BB (W.setCell ⟨g, 7, none⟩ (.int .i16 z)) g { b with we := z } := by
  unfold BB at *
  rw [heap_setCell_same _ _ _ _ _ _ h]
  rfl
end
def zeroBk : Bk := ⟨0, 0, 0, 0, 0, 0, 0, 0⟩
/-- Where the reader of a book stands: the result's box, the reader, the book's box. -/
structure BSt (w W : World) (g : Nat) (T : ByteArray) (y : Addr) (q : Nat) (f : Bool) (b : Bk) : Prop where
  rb : BB W w.heap.size zeroBk
  rd : Rd W g T q f y
  bx : BB W (w.heap.size + 1) b
  sy : Syn W y
  gr : Gr g w W
section
variable {w W W' : World} {g : Nat} {T : ByteArray} {y : Addr} {q q' : Nat} {f f' : Bool} {b : Bk}
theorem BSt.nx (hs : Syn w y) (hn : g ≠ 0) (hl : g < w.heap.size) (h : BSt w W g T y q f b) (hg : Gr g W W') (r : Rd W' g T q' f' y) : BSt w W' g T y q' f' b :=
  ⟨h.rb.gr hg (by omega), r, h.bx.gr hg (by omega), hs.gr (h.gr.trans hg) hn, h.gr.trans hg⟩
theorem BSt.s0 (hs : Syn w y) (hn : g ≠ 0) (hl : g < w.heap.size) (h : BSt w W g T y q f b) (z : Int) : BSt w (W.setCell ⟨w.heap.size + 1, 0, none⟩ (.int .i16 z)) g T y q f { b with c := z } := by
  have k := (Gr.refl (w.heap.size + 1) W).set 0 (.int .i16 z)
  have k2 : Gr g w (W.setCell ⟨w.heap.size + 1, 0, none⟩ (.int .i16 z)) := h.gr.grown k (fun b hb => .inl (by injection hb with hb; omega))
  exact ⟨h.rb.gr k (by omega), h.rd.gr k (by omega), h.bx.s0 z, hs.gr k2 hn, k2⟩
theorem BSt.s1 (hs : Syn w y) (hn : g ≠ 0) (hl : g < w.heap.size) (h : BSt w W g T y q f b) (z : Int) : BSt w (W.setCell ⟨w.heap.size + 1, 1, none⟩ (.int .u8 z)) g T y q f { b with m0 := z } := by
  have k := (Gr.refl (w.heap.size + 1) W).set 1 (.int .u8 z)
  have k2 : Gr g w (W.setCell ⟨w.heap.size + 1, 1, none⟩ (.int .u8 z)) := h.gr.grown k (fun b hb => .inl (by injection hb with hb; omega))
  exact ⟨h.rb.gr k (by omega), h.rd.gr k (by omega), h.bx.s1 z, hs.gr k2 hn, k2⟩
theorem BSt.s2 (hs : Syn w y) (hn : g ≠ 0) (hl : g < w.heap.size) (h : BSt w W g T y q f b) (z : Int) : BSt w (W.setCell ⟨w.heap.size + 1, 2, none⟩ (.int .u8 z)) g T y q f { b with m1 := z } := by
  have k := (Gr.refl (w.heap.size + 1) W).set 2 (.int .u8 z)
  have k2 : Gr g w (W.setCell ⟨w.heap.size + 1, 2, none⟩ (.int .u8 z)) := h.gr.grown k (fun b hb => .inl (by injection hb with hb; omega))
  exact ⟨h.rb.gr k (by omega), h.rd.gr k (by omega), h.bx.s2 z, hs.gr k2 hn, k2⟩
theorem BSt.s3 (hs : Syn w y) (hn : g ≠ 0) (hl : g < w.heap.size) (h : BSt w W g T y q f b) (z : Int) : BSt w (W.setCell ⟨w.heap.size + 1, 3, none⟩ (.int .u8 z)) g T y q f { b with m2 := z } := by
  have k := (Gr.refl (w.heap.size + 1) W).set 3 (.int .u8 z)
  have k2 : Gr g w (W.setCell ⟨w.heap.size + 1, 3, none⟩ (.int .u8 z)) := h.gr.grown k (fun b hb => .inl (by injection hb with hb; omega))
  exact ⟨h.rb.gr k (by omega), h.rd.gr k (by omega), h.bx.s3 z, hs.gr k2 hn, k2⟩
theorem BSt.s4 (hs : Syn w y) (hn : g ≠ 0) (hl : g < w.heap.size) (h : BSt w W g T y q f b) (z : Int) : BSt w (W.setCell ⟨w.heap.size + 1, 4, none⟩ (.int .i16 z)) g T y q f { b with v := z } := by
  have k := (Gr.refl (w.heap.size + 1) W).set 4 (.int .i16 z)
  have k2 : Gr g w (W.setCell ⟨w.heap.size + 1, 4, none⟩ (.int .i16 z)) := h.gr.grown k (fun b hb => .inl (by injection hb with hb; omega))
  exact ⟨h.rb.gr k (by omega), h.rd.gr k (by omega), h.bx.s4 z, hs.gr k2 hn, k2⟩
theorem BSt.s5 (hs : Syn w y) (hn : g ≠ 0) (hl : g < w.heap.size) (h : BSt w W g T y q f b) (z : Int) : BSt w (W.setCell ⟨w.heap.size + 1, 5, none⟩ (.int .i16 z)) g T y q f { b with wi := z } := by
  have k := (Gr.refl (w.heap.size + 1) W).set 5 (.int .i16 z)
  have k2 : Gr g w (W.setCell ⟨w.heap.size + 1, 5, none⟩ (.int .i16 z)) := h.gr.grown k (fun b hb => .inl (by injection hb with hb; omega))
  exact ⟨h.rb.gr k (by omega), h.rd.gr k (by omega), h.bx.s5 z, hs.gr k2 hn, k2⟩
theorem BSt.s6 (hs : Syn w y) (hn : g ≠ 0) (hl : g < w.heap.size) (h : BSt w W g T y q f b) (z : Int) : BSt w (W.setCell ⟨w.heap.size + 1, 6, none⟩ (.int .i16 z)) g T y q f { b with hi := z } := by
  have k := (Gr.refl (w.heap.size + 1) W).set 6 (.int .i16 z)
  have k2 : Gr g w (W.setCell ⟨w.heap.size + 1, 6, none⟩ (.int .i16 z)) := h.gr.grown k (fun b hb => .inl (by injection hb with hb; omega))
  exact ⟨h.rb.gr k (by omega), h.rd.gr k (by omega), h.bx.s6 z, hs.gr k2 hn, k2⟩
theorem BSt.s7 (hs : Syn w y) (hn : g ≠ 0) (hl : g < w.heap.size) (h : BSt w W g T y q f b) (z : Int) : BSt w (W.setCell ⟨w.heap.size + 1, 7, none⟩ (.int .i16 z)) g T y q f { b with we := z } := by
  have k := (Gr.refl (w.heap.size + 1) W).set 7 (.int .i16 z)
  have k2 : Gr g w (W.setCell ⟨w.heap.size + 1, 7, none⟩ (.int .i16 z)) := h.gr.grown k (fun b hb => .inl (by injection hb with hb; omega))
  exact ⟨h.rb.gr k (by omega), h.rd.gr k (by omega), h.bx.s7 z, hs.gr k2 hn, k2⟩
end
theorem bst_start (w : World) {g : Nat} {T : ByteArray} {y : Addr} {q : Nat} {f : Bool} (hs : Syn w y) (hn : g ≠ 0) (r : Rd w g T q f y) : BSt w ((w.alloc (.cells #[.int .i16 0, .int .u8 0, .int .u8 0, .int .u8 0, .int .i16 0, .int .i16 0, .int .i16 0, .int .i16 0] 25)).alloc (.cells #[.int .i16 0, .int .u8 0, .int .u8 0, .int .u8 0, .int .i16 0, .int .i16 0, .int .i16 0, .int .i16 0] 25)) g T y q f zeroBk := by
  have b0 := ((Below.refl w.heap.size w).alloc (Nat.le_refl _) (.cells #[.int .i16 0, .int .u8 0, .int .u8 0, .int .u8 0, .int .i16 0, .int .i16 0, .int .i16 0, .int .i16 0] 25)).alloc (by simp) (.cells #[.int .i16 0, .int .u8 0, .int .u8 0, .int .u8 0, .int .i16 0, .int .i16 0, .int .i16 0, .int .i16 0] 25)
  exact ⟨heap_alloc2_old w _ _, r.below b0, heap_alloc2_new w _ _, hs.gr (Gr.of b0) hn, Gr.of b0⟩
theorem BB.all {W : World} {g : Nat} {z : Bk} (h0 : BB W g z) (b : Bk) : BB ((((((((W.setCell ⟨g, 0, none⟩ (.int .i16 b.c)).setCell ⟨g, 1, none⟩ (.int .u8 b.m0)).setCell ⟨g, 2, none⟩ (.int .u8 b.m1)).setCell ⟨g, 3, none⟩ (.int .u8 b.m2)).setCell ⟨g, 4, none⟩ (.int .i16 b.v)).setCell ⟨g, 5, none⟩ (.int .i16 b.wi)).setCell ⟨g, 6, none⟩ (.int .i16 b.hi)).setCell ⟨g, 7, none⟩ (.int .i16 b.we)) g b := by
  unfold BB at *
  have h1 := heap_setCell_same _ _ 0 _ _ (.int .i16 b.c) h0
  have h2 := heap_setCell_same _ _ 1 _ _ (.int .u8 b.m0) h1
  have h3 := heap_setCell_same _ _ 2 _ _ (.int .u8 b.m1) h2
  have h4 := heap_setCell_same _ _ 3 _ _ (.int .u8 b.m2) h3
  have h5 := heap_setCell_same _ _ 4 _ _ (.int .i16 b.v) h4
  have h6 := heap_setCell_same _ _ 5 _ _ (.int .i16 b.wi) h5
  have h7 := heap_setCell_same _ _ 6 _ _ (.int .i16 b.hi) h6
  have h8 := heap_setCell_same _ _ 7 _ _ (.int .i16 b.we) h7
  simpa using h8
theorem own0 {g : Nat} (w : World) : ∀ b, some w.heap.size = some b → w.heap.size ≤ b ∨ b = g := fun b h => .inl (by injection h with h; omega)
theorem gr8 {w W : World} {k : Nat} (b : Bk) (h0 : Gr k w W) : Gr k w ((((((((W.setCell ⟨w.heap.size, 0, none⟩ (.int .i16 b.c)).setCell ⟨w.heap.size, 1, none⟩ (.int .u8 b.m0)).setCell ⟨w.heap.size, 2, none⟩ (.int .u8 b.m1)).setCell ⟨w.heap.size, 3, none⟩ (.int .u8 b.m2)).setCell ⟨w.heap.size, 4, none⟩ (.int .i16 b.v)).setCell ⟨w.heap.size, 5, none⟩ (.int .i16 b.wi)).setCell ⟨w.heap.size, 6, none⟩ (.int .i16 b.hi)).setCell ⟨w.heap.size, 7, none⟩ (.int .i16 b.we)) := by
  have h1 := h0.grown ((Gr.refl w.heap.size _).set 0 (.int .i16 b.c)) (own0 w)
  have h2 := h1.grown ((Gr.refl w.heap.size _).set 1 (.int .u8 b.m0)) (own0 w)
  have h3 := h2.grown ((Gr.refl w.heap.size _).set 2 (.int .u8 b.m1)) (own0 w)
  have h4 := h3.grown ((Gr.refl w.heap.size _).set 3 (.int .u8 b.m2)) (own0 w)
  have h5 := h4.grown ((Gr.refl w.heap.size _).set 4 (.int .i16 b.v)) (own0 w)
  have h6 := h5.grown ((Gr.refl w.heap.size _).set 5 (.int .i16 b.wi)) (own0 w)
  have h7 := h6.grown ((Gr.refl w.heap.size _).set 6 (.int .i16 b.hi)) (own0 w)
  have h8 := h7.grown ((Gr.refl w.heap.size _).set 7 (.int .i16 b.we)) (own0 w)
  exact h8
theorem rd8 {W : World} {k g q : Nat} {T : ByteArray} {f : Bool} {y : Addr} (b : Bk) (h0 : Rd W k T q f y) (hne : k ≠ g) : Rd ((((((((W.setCell ⟨g, 0, none⟩ (.int .i16 b.c)).setCell ⟨g, 1, none⟩ (.int .u8 b.m0)).setCell ⟨g, 2, none⟩ (.int .u8 b.m1)).setCell ⟨g, 3, none⟩ (.int .u8 b.m2)).setCell ⟨g, 4, none⟩ (.int .i16 b.v)).setCell ⟨g, 5, none⟩ (.int .i16 b.wi)).setCell ⟨g, 6, none⟩ (.int .i16 b.hi)).setCell ⟨g, 7, none⟩ (.int .i16 b.we)) k T q f y := by
  have h1 := h0.gr ((Gr.refl g _).set 0 (.int .i16 b.c)) hne
  have h2 := h1.gr ((Gr.refl g _).set 1 (.int .u8 b.m0)) hne
  have h3 := h2.gr ((Gr.refl g _).set 2 (.int .u8 b.m1)) hne
  have h4 := h3.gr ((Gr.refl g _).set 3 (.int .u8 b.m2)) hne
  have h5 := h4.gr ((Gr.refl g _).set 4 (.int .i16 b.v)) hne
  have h6 := h5.gr ((Gr.refl g _).set 5 (.int .i16 b.wi)) hne
  have h7 := h6.gr ((Gr.refl g _).set 6 (.int .i16 b.hi)) hne
  have h8 := h7.gr ((Gr.refl g _).set 7 (.int .i16 b.we)) hne
  exact h8
/-- The first letters, read. -/
def Ls (T : ByteArray) (q1 : Nat) (f1 : Bool) : Nat → UInt8 → UInt8 → UInt8 → Nat → Bool → Prop
  | 0, x0, x1, x2, q, f => x0 = 0 ∧ x1 = 0 ∧ x2 = 0 ∧ q = q1 ∧ f = f1
  | 1, x0, x1, x2, q, f => x1 = 0 ∧ x2 = 0 ∧ LetS T q1 f1 x0 q f
  | 2, x0, x1, x2, q, f => x2 = 0 ∧ ∃ q' f', LetS T q1 f1 x0 q' f' ∧ LetS T q' f' x1 q f
  | _, x0, x1, x2, q, f => ∃ q' f' q'' f'', LetS T q1 f1 x0 q' f' ∧ LetS T q' f' x1 q'' f'' ∧ LetS T q'' f'' x2 q f
theorem ls_0 {T : ByteArray} {q1 q q' : Nat} {f1 f f' : Bool} {x0 x1 x2 x : UInt8} (h : Ls T q1 f1 0 x0 x1 x2 q f) (k : LetS T q f x q' f') : Ls T q1 f1 1 x x1 x2 q' f' := by
  obtain ⟨rfl, rfl, rfl, rfl, rfl⟩ := h
  exact ⟨rfl, rfl, k⟩
theorem ls_1 {T : ByteArray} {q1 q q' : Nat} {f1 f f' : Bool} {x0 x1 x2 x : UInt8} (h : Ls T q1 f1 1 x0 x1 x2 q f) (k : LetS T q f x q' f') : Ls T q1 f1 2 x0 x x2 q' f' := by
  obtain ⟨rfl, rfl, h⟩ := h
  exact ⟨rfl, _, _, h, k⟩
theorem ls_2 {T : ByteArray} {q1 q q' : Nat} {f1 f f' : Bool} {x0 x1 x2 x : UInt8} (h : Ls T q1 f1 2 x0 x1 x2 q f) (k : LetS T q f x q' f') : Ls T q1 f1 3 x0 x1 x q' f' := by
  obtain ⟨rfl, _, _, h1, h2⟩ := h
  exact ⟨_, _, _, _, h1, h2, k⟩
theorem ls_mrk {T : ByteArray} {q1 q q' : Nat} {f1 f f' : Bool} {x0 x1 x2 : UInt8} (h : Ls T q1 f1 3 x0 x1 x2 q f) (k : SkipS T q f 32 q' f') : MrkS T q1 f1 x0 x1 x2 q' f' := by
  obtain ⟨_, _, _, _, h1, h2, h3⟩ := h
  exact mrkS_of h1 h2 h3 k
theorem bkOf_wf {c v wi hi we : Int} {x0 x1 x2 : UInt8} (h1 : 0 ≤ c ∧ c ≤ 9999) (h2 : 0 ≤ v ∧ v ≤ 9999) (h3 : 0 ≤ wi ∧ wi ≤ 9999) (h4 : 0 ≤ hi ∧ hi ≤ 9999) (h5 : 0 ≤ we ∧ we ≤ 9999) : (bkOf c x0 x1 x2 v wi hi we).Wf := by
  have y0 := x0.toNat_lt
  have y1 := x1.toNat_lt
  have y2 := x2.toNat_lt
  unfold bkOf
  constructor <;> dsimp only <;> omega
set_option maxHeartbeats 8000000 in
theorem book_any (g : Nat) (hg : g ≠ 0) (T : ByteArray) (hT : T.size ≤ 1048576) (p : Nat) (f : Bool) (y : Addr) (w : World) (h : Rd w g T p f y) (hs : Syn w y) :
    Calls Tryd.prog 44 #[.pointer (some ⟨g, 0, none⟩)] w fun e w' => ∃ (b : Bk) (q : Nat) (f' : Bool), e = .returned (.agg #[.int .i16 b.c, .int .u8 b.m0, .int .u8 b.m1, .int .u8 b.m2, .int .i16 b.v, .int .i16 b.wi, .int .i16 b.hi, .int .i16 b.we]) ∧ BookS T p f b q f' ∧ b.Wf ∧ Rd w' g T q f' y ∧ Gr g w w' := by
  have HS := Lib.hid hs
  have HL := Lib.hid h.lt
  have X0 := Lib.hid (bst_start w hs hg h)
  clear h hs
  go_enter Tryd.func44, Tryd.ntmps44
  go_upto_region 2 with (fail)
  generalize World.alloc _ _ = W0 at X0 ⊢
  go_wp2_with fail
  refine (short_any g hg T hT p f y _ X0.out.rd X0.out.sy).mono ?_
  rintro e w0 ⟨nc, q0, f0, rfl, hn, nb, r, gr⟩
  have Nnc := Lib.hid hn
  have NBnc := Lib.hid nb
  have XS0 := Lib.hid (X0.out.nx HS.out hg HL.out gr r)
  have c0 := XS0.out.bx.c0
  have fz := XS0.out.bx.fz 0
  have YS0 := Lib.hid (XS0.out.s0 HS.out hg HL.out nc)
  clear hn nb r gr
  go_wp2_with fail
  clear c0 fz
  refine (skip_any g hg T hT q0 f0 y 32 32 rfl _ YS0.out.rd YS0.out.sy).mono ?_
  rintro e w1 ⟨q1, f1, rfl, hk, r, gr⟩
  have K1 := Lib.hid (tokS_of (by decide) Nnc.out hk)
  have XK1 := Lib.hid (YS0.out.nx HS.out hg HL.out gr r)
  clear hk r gr
  obtain ⟨bm, ebm⟩ : ∃ bm, bm = { zeroBk with c := nc } := ⟨_, rfl⟩
  rw [← ebm] at XK1
  have EBM := Lib.hid ebm
  clear ebm
  go_wp2
  go_loopw [10] (fun i_ wr => ∃ (k : Nat) (x0 x1 x2 : UInt8) (q : Nat) (f : Bool), k ≤ 3 ∧ i_ = .int .i64 (k : Int) ∧ Ls T q1 f1 k x0 x1 x2 q f ∧ BSt w wr g T y q f { bm with m0 := (x0.toNat : Int), m1 := (x1.toNat : Int), m2 := (x2.toNat : Int) }) (fun i_ _ => 3 - (intOf i_).toNat)
  case atStart => exact ⟨0, 0, 0, 0, q1, f1, by omega, rfl, ⟨rfl, rfl, rfl, rfl, rfl⟩, by have h := XK1.out; rw [EBM.out] at h ⊢; exact h⟩
  case round =>
    obtain ⟨k, x0, x1, x2, q, f', hk, rfl, hl, st⟩ := hrel
    have ST := Lib.hid st
    have HLs := Lib.hid hl
    have LE := Lib.hid (letter_any g hg T hT q f' y wr st.rd st.sy)
    have hk4 : k = 0 ∨ k = 1 ∨ k = 2 ∨ k = 3 := by omega
    clear st hl hk
    rcases hk4 with rfl | rfl | rfl | rfl
    · go_wp2_with fail
      refine LE.out.mono ?_
      rintro e w1' ⟨x, q', f'', rfl, hx, r, gr⟩
      have HX := Lib.hid hx
      have X1 := Lib.hid (ST.out.nx HS.out hg HL.out gr r)
      have c0 := X1.out.bx.c1
      have fz := X1.out.bx.fz 1
      have Y1 := Lib.hid (X1.out.s1 HS.out hg HL.out (x.toNat : Int))
      clear hx r gr
      go_wp2
      exact ⟨⟨1, x, x1, x2, q', f'', by omega, rfl, ls_0 HLs.out HX.out, Y1.out⟩, by simp only [intOf]; omega⟩
    · go_wp2_with fail
      refine LE.out.mono ?_
      rintro e w1' ⟨x, q', f'', rfl, hx, r, gr⟩
      have HX := Lib.hid hx
      have X1 := Lib.hid (ST.out.nx HS.out hg HL.out gr r)
      have c0 := X1.out.bx.c2
      have fz := X1.out.bx.fz 2
      have Y1 := Lib.hid (X1.out.s2 HS.out hg HL.out (x.toNat : Int))
      clear hx r gr
      go_wp2
      exact ⟨⟨2, x0, x, x2, q', f'', by omega, rfl, ls_1 HLs.out HX.out, Y1.out⟩, by simp only [intOf]; omega⟩
    · go_wp2_with fail
      refine LE.out.mono ?_
      rintro e w1' ⟨x, q', f'', rfl, hx, r, gr⟩
      have HX := Lib.hid hx
      have X1 := Lib.hid (ST.out.nx HS.out hg HL.out gr r)
      have c0 := X1.out.bx.c3
      have fz := X1.out.bx.fz 3
      have Y1 := Lib.hid (X1.out.s3 HS.out hg HL.out (x.toNat : Int))
      clear hx r gr
      go_wp2
      exact ⟨⟨3, x0, x1, x, q', f'', by omega, rfl, ls_2 HLs.out HX.out, Y1.out⟩, by simp only [intOf]; omega⟩
    · go_wp2_with fail
      refine (skip_any g hg T hT q f' y 32 32 rfl _ ST.out.rd ST.out.sy).mono ?_
      rintro e w20 ⟨q20, f20, rfl, hk, r, gr⟩
      have K2 := Lib.hid (ls_mrk HLs.out hk)
      have XK20 := Lib.hid (ST.out.nx HS.out hg HL.out gr r)
      clear hk r gr
      go_wp2_with fail
      refine (short_any g hg T hT q20 f20 y _ XK20.out.rd XK20.out.sy).mono ?_
      rintro e w21 ⟨nv, q21, f21, rfl, hn, nb, r, gr⟩
      have Nnv := Lib.hid hn
      have NBnv := Lib.hid nb
      have XS21 := Lib.hid (XK20.out.nx HS.out hg HL.out gr r)
      have c0 := XS21.out.bx.c4
      have fz := XS21.out.bx.fz 4
      have YS21 := Lib.hid (XS21.out.s4 HS.out hg HL.out nv)
      clear hn nb r gr
      go_wp2_with fail
      clear c0 fz
      refine (skip_any g hg T hT q21 f21 y 32 32 rfl _ YS21.out.rd YS21.out.sy).mono ?_
      rintro e w22 ⟨q22, f22, rfl, hk, r, gr⟩
      have K3 := Lib.hid (tokS_of (by decide) Nnv.out hk)
      have XK22 := Lib.hid (YS21.out.nx HS.out hg HL.out gr r)
      clear hk r gr
      go_wp2_with fail
      refine (short_any g hg T hT q22 f22 y _ XK22.out.rd XK22.out.sy).mono ?_
      rintro e w23 ⟨nw, q23, f23, rfl, hn, nb, r, gr⟩
      have Nnw := Lib.hid hn
      have NBnw := Lib.hid nb
      have XS23 := Lib.hid (XK22.out.nx HS.out hg HL.out gr r)
      have c0 := XS23.out.bx.c5
      have fz := XS23.out.bx.fz 5
      have YS23 := Lib.hid (XS23.out.s5 HS.out hg HL.out nw)
      clear hn nb r gr
      go_wp2_with fail
      clear c0 fz
      refine (skip_any g hg T hT q23 f23 y 120 120 rfl _ YS23.out.rd YS23.out.sy).mono ?_
      rintro e w24 ⟨q24, f24, rfl, hk, r, gr⟩
      have K4 := Lib.hid (tokS_of (by decide) Nnw.out hk)
      have XK24 := Lib.hid (YS23.out.nx HS.out hg HL.out gr r)
      clear hk r gr
      go_wp2_with fail
      refine (short_any g hg T hT q24 f24 y _ XK24.out.rd XK24.out.sy).mono ?_
      rintro e w25 ⟨nh, q25, f25, rfl, hn, nb, r, gr⟩
      have Nnh := Lib.hid hn
      have NBnh := Lib.hid nb
      have XS25 := Lib.hid (XK24.out.nx HS.out hg HL.out gr r)
      have c0 := XS25.out.bx.c6
      have fz := XS25.out.bx.fz 6
      have YS25 := Lib.hid (XS25.out.s6 HS.out hg HL.out nh)
      clear hn nb r gr
      go_wp2_with fail
      clear c0 fz
      refine (skip_any g hg T hT q25 f25 y 32 32 rfl _ YS25.out.rd YS25.out.sy).mono ?_
      rintro e w26 ⟨q26, f26, rfl, hk, r, gr⟩
      have K5 := Lib.hid (tokS_of (by decide) Nnh.out hk)
      have XK26 := Lib.hid (YS25.out.nx HS.out hg HL.out gr r)
      clear hk r gr
      go_wp2_with fail
      refine (short_any g hg T hT q26 f26 y _ XK26.out.rd XK26.out.sy).mono ?_
      rintro e w27 ⟨ne, q27, f27, rfl, hn, nb, r, gr⟩
      have Nne := Lib.hid hn
      have NBne := Lib.hid nb
      have XS27 := Lib.hid (XK26.out.nx HS.out hg HL.out gr r)
      have c0 := XS27.out.bx.c7
      have fz := XS27.out.bx.fz 7
      have YS27 := Lib.hid (XS27.out.s7 HS.out hg HL.out ne)
      clear hn nb r gr
      obtain ⟨bf, ebf⟩ : ∃ bf, bf = bkOf nc x0 x1 x2 nv nw nh ne := ⟨_, rfl⟩
      have XF := Lib.hid (show BSt w _ g T y q27 f27 bf by have h := YS27.out; rw [EBM.out] at h; rw [ebf]; exact h)
      have WF := Lib.hid (show bf.Wf by rw [ebf]; exact bkOf_wf NBnc.out NBnv.out NBnw.out NBnh.out NBne.out)
      have BS := Lib.hid (fun f7 h7 => bookS_of (f7 := f7) K1.out K2.out K3.out K4.out K5.out Nne.out h7)
      rw [← ebf] at BS
      clear ebf
      go_upto_region 17 with (fail)
      generalize World.setCell _ _ _ = WQ at XF ⊢
      have c0 := XF.out.bx.c0
      have c1 := XF.out.bx.c1
      have c2 := XF.out.bx.c2
      have c3 := XF.out.bx.c3
      have c4 := XF.out.bx.c4
      have c5 := XF.out.bx.c5
      have c6 := XF.out.bx.c6
      have c7 := XF.out.bx.c7
      go_wp2_with fail
      refine (validBook_any bf WQ).mono ?_
      rintro e wv ⟨rfl, rfl⟩
      have bv := (Below.refl WQ.heap.size WQ).alloc (Nat.le_refl _) (.cells #[.int .i16 bf.c, .int .u8 bf.m0, .int .u8 bf.m1, .int .u8 bf.m2, .int .i16 bf.v, .int .i16 bf.wi, .int .i16 bf.hi, .int .i16 bf.we] 25)
      have XV := Lib.hid (XF.out.nx HS.out hg HL.out (Gr.of bv) (XF.out.rd.below bv))
      clear bv c0 c1 c2 c3 c4 c5 c6 c7
      generalize WQ.alloc _ = WV at XV ⊢
      cases hv : bookB bf
      · rw [hv] at BS
        have BF := Lib.hid (BS.out true (by simp))
        clear hv
        go_wp2_with fail
        refine (fail_any g T q27 f27 y _ XV.out.rd XV.out.sy).mono ?_
        rintro e wx ⟨rfl, r, gr⟩
        have XE := Lib.hid (XV.out.nx HS.out hg HL.out gr r)
        clear r gr
        have c0 := XE.out.bx.c0
        have c1 := XE.out.bx.c1
        have c2 := XE.out.bx.c2
        have c3 := XE.out.bx.c3
        have c4 := XE.out.bx.c4
        have c5 := XE.out.bx.c5
        have c6 := XE.out.bx.c6
        have c7 := XE.out.bx.c7
        have a0 := XE.out.rb.c0
        have a1 := XE.out.rb.c1
        have a2 := XE.out.rb.c2
        have a3 := XE.out.rb.c3
        have a4 := XE.out.rb.c4
        have a5 := XE.out.rb.c5
        have a6 := XE.out.rb.c6
        have a7 := XE.out.rb.c7
        have fz := XE.out.rb.fz
        have PR := Lib.hid (XE.out.rb.all bf)
        have GR := Lib.hid (gr8 bf XE.out.gr)
        have RD := Lib.hid (rd8 bf XE.out.rd (Nat.ne_of_lt HL.out))
        go_wp2
        have q0 := PR.out.c0
        have q1 := PR.out.c1
        have q2 := PR.out.c2
        have q3 := PR.out.c3
        have q4 := PR.out.c4
        have q5 := PR.out.c5
        have q6 := PR.out.c6
        have q7 := PR.out.c7
        refine bodyPost_ret (v := .agg #[.int .i16 bf.c, .int .u8 bf.m0, .int .u8 bf.m1, .int .u8 bf.m2, .int .i16 bf.v, .int .i16 bf.wi, .int .i16 bf.hi, .int .i16 bf.we]) (by simp [results, Tryd.results44, go_sem, q0, q1, q2, q3, q4, q5, q6, q7]) rfl ⟨bf, _, _, rfl, BF.out, WF.out, RD.out, GR.out⟩
      · rw [hv] at BS
        have BF := Lib.hid (BS.out f27 (by simp))
        clear hv
        have c0 := XV.out.bx.c0
        have c1 := XV.out.bx.c1
        have c2 := XV.out.bx.c2
        have c3 := XV.out.bx.c3
        have c4 := XV.out.bx.c4
        have c5 := XV.out.bx.c5
        have c6 := XV.out.bx.c6
        have c7 := XV.out.bx.c7
        have a0 := XV.out.rb.c0
        have a1 := XV.out.rb.c1
        have a2 := XV.out.rb.c2
        have a3 := XV.out.rb.c3
        have a4 := XV.out.rb.c4
        have a5 := XV.out.rb.c5
        have a6 := XV.out.rb.c6
        have a7 := XV.out.rb.c7
        have fz := XV.out.rb.fz
        have PR := Lib.hid (XV.out.rb.all bf)
        have GR := Lib.hid (gr8 bf XV.out.gr)
        have RD := Lib.hid (rd8 bf XV.out.rd (Nat.ne_of_lt HL.out))
        go_wp2
        have q0 := PR.out.c0
        have q1 := PR.out.c1
        have q2 := PR.out.c2
        have q3 := PR.out.c3
        have q4 := PR.out.c4
        have q5 := PR.out.c5
        have q6 := PR.out.c6
        have q7 := PR.out.c7
        refine bodyPost_ret (v := .agg #[.int .i16 bf.c, .int .u8 bf.m0, .int .u8 bf.m1, .int .u8 bf.m2, .int .i16 bf.v, .int .i16 bf.wi, .int .i16 bf.hi, .int .i16 bf.we]) (by simp [results, Tryd.results44, go_sem, q0, q1, q2, q3, q4, q5, q6, q7]) rfl ⟨bf, _, _, rfl, BF.out, WF.out, RD.out, GR.out⟩
end Go.Proofs.YtkojnepgeegalaaDoor
