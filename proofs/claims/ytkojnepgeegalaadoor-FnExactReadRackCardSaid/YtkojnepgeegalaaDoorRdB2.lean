/- ReadBook, by the program: a contract. Condition: the two error variables hold two different errors of errors.New's make; a text no longer than told. -/
import Derived.Test.YtkojnepgeegalaaDoorRdB1
namespace Go.Proofs.YtkojnepgeegalaaDoor
set_option linter.unusedSimpArgs false
set_option linter.unusedVariables false
set_option maxRecDepth 100000
open Go.RowKit

theorem BB.all0 {W : World} {g : Nat} {z : Bk} (h0 : BB W g z) : BB ((((((((W.setCell ⟨g, 0, none⟩ (.int .i16 0)).setCell ⟨g, 1, none⟩ (.int .u8 0)).setCell ⟨g, 2, none⟩ (.int .u8 0)).setCell ⟨g, 3, none⟩ (.int .u8 0)).setCell ⟨g, 4, none⟩ (.int .i16 0)).setCell ⟨g, 5, none⟩ (.int .i16 0)).setCell ⟨g, 6, none⟩ (.int .i16 0)).setCell ⟨g, 7, none⟩ (.int .i16 0)) g zeroBk := by
  unfold BB at *
  have h1 := heap_setCell_same _ _ 0 _ _ (.int .i16 0) h0
  have h2 := heap_setCell_same _ _ 1 _ _ (.int .u8 0) h1
  have h3 := heap_setCell_same _ _ 2 _ _ (.int .u8 0) h2
  have h4 := heap_setCell_same _ _ 3 _ _ (.int .u8 0) h3
  have h5 := heap_setCell_same _ _ 4 _ _ (.int .i16 0) h4
  have h6 := heap_setCell_same _ _ 5 _ _ (.int .i16 0) h5
  have h7 := heap_setCell_same _ _ 6 _ _ (.int .i16 0) h6
  have h8 := heap_setCell_same _ _ 7 _ _ (.int .i16 0) h7
  simpa [zeroBk] using h8
theorem gr80 {w W : World} {k : Nat} (h0 : Gr k w W) : Gr k w ((((((((W.setCell ⟨w.heap.size, 0, none⟩ (.int .i16 0)).setCell ⟨w.heap.size, 1, none⟩ (.int .u8 0)).setCell ⟨w.heap.size, 2, none⟩ (.int .u8 0)).setCell ⟨w.heap.size, 3, none⟩ (.int .u8 0)).setCell ⟨w.heap.size, 4, none⟩ (.int .i16 0)).setCell ⟨w.heap.size, 5, none⟩ (.int .i16 0)).setCell ⟨w.heap.size, 6, none⟩ (.int .i16 0)).setCell ⟨w.heap.size, 7, none⟩ (.int .i16 0)) := by
  have h1 := h0.grown ((Gr.refl w.heap.size _).set 0 (.int .i16 0)) (own0 w)
  have h2 := h1.grown ((Gr.refl w.heap.size _).set 1 (.int .u8 0)) (own0 w)
  have h3 := h2.grown ((Gr.refl w.heap.size _).set 2 (.int .u8 0)) (own0 w)
  have h4 := h3.grown ((Gr.refl w.heap.size _).set 3 (.int .u8 0)) (own0 w)
  have h5 := h4.grown ((Gr.refl w.heap.size _).set 4 (.int .i16 0)) (own0 w)
  have h6 := h5.grown ((Gr.refl w.heap.size _).set 5 (.int .i16 0)) (own0 w)
  have h7 := h6.grown ((Gr.refl w.heap.size _).set 6 (.int .i16 0)) (own0 w)
  have h8 := h7.grown ((Gr.refl w.heap.size _).set 7 (.int .i16 0)) (own0 w)
  exact h8
structure BkP (L : List UInt8) (b : Bk) : Prop where
  ok : bookB b = true
  eq : L = bookT b
theorem u8_same {a b : Int} (ha : 97 ≤ a ∧ a ≤ 122) (hb : 97 ≤ b ∧ b ≤ 122) (e : UInt8.ofNat a.toNat = UInt8.ofNat b.toNat) : a = b := (u8_back ha rfl).symm.trans (u8_back hb e)
theorem bookT_uniq {b b' : Bk} {m m' : List UInt8} (h : bookB b = true) (h' : bookB b' = true) (hm : NoDig m) (hm' : NoDig m') (e : bookT b ++ m = bookT b' ++ m') : b = b' ∧ m = m' := by
  obtain ⟨i0, i1, i2, i3, i4, i5, i6, i7⟩ := bookB_in h
  obtain ⟨j0, j1, j2, j3, j4, j5, j6, j7⟩ := bookB_in h'
  rw [bookT_form, bookT_form] at e
  obtain ⟨k0, ea⟩ := tok_apart (by decide) i0.1 j0.1 e
  simp only [List.cons.injEq] at ea
  obtain ⟨y0, y1, y2, -, eb⟩ := ea
  obtain ⟨k4, ec⟩ := tok_apart (by decide) (by omega) (by omega) eb
  obtain ⟨k5, ed⟩ := tok_apart (by decide) (by omega) (by omega) ec
  obtain ⟨k6, ee⟩ := tok_apart (by decide) (by omega) (by omega) ed
  obtain ⟨k7, ef⟩ := dec_apart (by omega) (by omega) hm hm' ee
  have l0 := u8_same i1 j1 y0
  have l1 := u8_same i2 j2 y1
  have l2 := u8_same i3 j3 y2
  refine ⟨?_, ef⟩
  cases b
  cases b'
  simp only at k0 k4 k5 k6 k7 l0 l1 l2
  subst k0 k4 k5 k6 k7 l0 l1 l2
  rfl
theorem bkP_uniq {L : List UInt8} {b b' : Bk} (h : BkP L b) (h' : BkP L b') : b = b' :=
  (bookT_uniq (m := []) (m' := []) h.ok h'.ok trivial trivial (by rw [← h.eq, ← h'.eq])).1
open Classical in
noncomputable def rbB (L : List UInt8) : Bk := if h : ∃ b, BkP L b then Classical.choose h else zeroBk
open Classical in
noncomputable def rbC (L : List UInt8) : Int := if ∃ b, BkP L b then 0 else 5
theorem rb_yes {L : List UInt8} {b : Bk} (h : BkP L b) : rbB L = b ∧ rbC L = 0 := by
  have hx : ∃ b, BkP L b := ⟨b, h⟩
  unfold rbB rbC
  rw [dif_pos hx, if_pos hx]
  exact ⟨bkP_uniq (Classical.choose_spec hx) h, rfl⟩
theorem rb_no {L : List UInt8} (h : ∀ b, ¬ BkP L b) : rbB L = zeroBk ∧ rbC L = 5 := by
  have hx : ¬ ∃ b, BkP L b := fun ⟨b, e⟩ => h b e
  unfold rbB rbC
  rw [dif_neg hx, if_neg hx]
  exact ⟨rfl, rfl⟩
theorem book_end {T : ByteArray} {b : Bk} {q : Nat} {f f2 : Bool} (h : BookS T 0 false b q f) (h2 : f2 = (f || !decide (q = T.size))) (hq : q ≤ T.size) : (f2 = false ∧ BkP T.data.toList b) ∨ (f2 = true ∧ ∀ b', ¬ BkP T.data.toList b') := by
  rcases h with ⟨h1, _, h3, h4, h5⟩ | ⟨h1, h3⟩
  · rw [h1] at h2
    by_cases e : q = T.size
    · rw [decide_eq_true e] at h2
      refine .inl ⟨h2, h3, ?_⟩
      rw [restT_end (p := q) (by omega), List.append_nil] at h4
      exact h4
    · rw [decide_eq_false e] at h2
      refine .inr ⟨h2, fun b' hb => ?_⟩
      have e2 := (bookT_uniq (m := restT T q) (m' := []) h3 hb.ok h5 trivial (by rw [← h4, List.append_nil]; exact hb.eq)).2
      have := congrArg List.length e2
      rw [restT_len, List.length_nil] at this
      omega
  · rw [h1] at h2
    exact .inr ⟨h2, fun b' hb => h3 rfl b' [] hb.ok trivial (by rw [List.append_nil]; exact hb.eq)⟩
/-- Where ReadBook stands. -/
structure BRt (w W : World) (T : ByteArray) (s y : Addr) (q : Nat) (f : Bool) : Prop where
  rb : BB W w.heap.size zeroBk
  rd : Rd W (w.heap.size + 1) T q f y
  es : Es2 W s y
  bl : Below w.heap.size w W
  gr : Gr w.heap.size w W
theorem BRt.nx {w W W' : World} {T : ByteArray} {s y : Addr} {q q' : Nat} {f f' : Bool} (he : Es2 w s y) (h : BRt w W T s y q f) (hg : Gr (w.heap.size + 1) W W') (r : Rd W' (w.heap.size + 1) T q' f' y) : BRt w W' T s y q' f' := by
  have b2 := h.bl.grown hg h.bl.size (fun k hk => by injection hk with hk; omega)
  exact ⟨h.rb.gr hg (by omega), r, he.below b2, b2, Gr.of b2⟩
theorem brt_start (w : World) (T : ByteArray) (s y : Addr) (he : Es2 w s y) : BRt w ((w.alloc (.cells #[.int .i16 0, .int .u8 0, .int .u8 0, .int .u8 0, .int .i16 0, .int .i16 0, .int .i16 0, .int .i16 0] 25)).alloc (.cells #[.string T, .int .i64 0, .nilIface] 76)) T s y 0 false := by
  have b0 := ((Below.refl w.heap.size w).alloc (Nat.le_refl _) (.cells #[.int .i16 0, .int .u8 0, .int .u8 0, .int .u8 0, .int .i16 0, .int .i16 0, .int .i16 0, .int .i16 0] 25)).alloc (by simp) (.cells #[.string T, .int .i64 0, .nilIface] 76)
  exact ⟨heap_alloc2_old w _ _, ⟨heap_alloc2_new w _ _, Nat.zero_le _⟩, he.below b0, b0, Gr.of b0⟩
theorem low_gr {w W : World} (h : Gr w.heap.size w W) : Below w.heap.size w W := ⟨h.os, h.tape, h.output, h.size, fun b hb => h.block b hb (fun e => by injection e with e; omega)⟩
set_option maxHeartbeats 8000000 in
theorem readBook_any (T : ByteArray) (hT : T.size ≤ 1048576) (w : World) (s y : Addr) (he : Es2 w s y) :
    Calls Tryd.prog 11 #[.string T] w fun e w' => e = .returned (.tuple #[.agg #[.int .i16 (rbB T.data.toList).c, .int .u8 (rbB T.data.toList).m0, .int .u8 (rbB T.data.toList).m1, .int .u8 (rbB T.data.toList).m2, .int .i16 (rbB T.data.toList).v, .int .i16 (rbB T.data.toList).wi, .int .i16 (rbB T.data.toList).hi, .int .i16 (rbB T.data.toList).we], .int .i64 (rbC T.data.toList)]) ∧ Below w.heap.size w w' := by
  have hl0 := World.block_lt_of_cell? _ _ he.cy
  have hne : w.heap.size + 1 ≠ 0 := fun e => by
    have h2 : (0 : Nat) < w.heap.size := hl0
    omega
  have X0 := Lib.hid (brt_start w T s y he)
  have HE := Lib.hid he
  clear he
  go_enter Tryd.func11, Tryd.ntmps11
  go_upto_region 2 with (fail)
  generalize World.alloc _ _ = W0 at X0 ⊢
  go_wp2_with fail
  refine (book_any (w.heap.size + 1) hne T hT 0 false y W0 X0.out.rd X0.out.es.cy).mono ?_
  rintro e w1 ⟨b, q, f1, rfl, hbs, -, r1, g1⟩
  have X1 := Lib.hid (X0.out.nx HE.out g1 r1)
  have BS := Lib.hid hbs
  have bv := (Below.refl w1.heap.size w1).alloc (Nat.le_refl _) (.cells #[.int .i16 b.c, .int .u8 b.m0, .int .u8 b.m1, .int .u8 b.m2, .int .i16 b.v, .int .i16 b.wi, .int .i16 b.hi, .int .i16 b.we] 25)
  have XV := Lib.hid (X1.out.nx HE.out (Gr.of bv) (X1.out.rd.below bv))
  have BV := Lib.hid (show BB (w1.alloc (.cells #[.int .i16 b.c, .int .u8 b.m0, .int .u8 b.m1, .int .u8 b.m2, .int .i16 b.v, .int .i16 b.wi, .int .i16 b.hi, .int .i16 b.we] 25)) w1.heap.size b from heap_alloc_new w1 _)
  have HB := Lib.hid (show w.heap.size + 1 < w1.heap.size from X1.out.rd.lt)
  clear hbs r1 g1 bv
  go_upto_region 3 with (fail)
  generalize w1.alloc _ = W2 at XV BV ⊢
  go_wp2_with fail
  refine (atEnd_any (w.heap.size + 1) T q f1 y W2 XV.out.rd).mono ?_
  rintro e w3 ⟨rfl, h3⟩
  have X3 := Lib.hid (XV.out.nx HE.out (Gr.of h3) (XV.out.rd.below h3))
  have B3 := Lib.hid (BV.out.gr (Gr.of (g := w.heap.size + 1) h3) (by have := HB.out; omega))
  clear h3
  by_cases hq : q = T.size
  · rw [decide_eq_true hq]
    have EN := Lib.hid (book_end BS.out (f2 := f1) (by rw [decide_eq_true hq]; simp) X3.out.rd.le)
    clear hq
    rcases EN.out with ⟨rfl, hp⟩ | ⟨rfl, hp⟩
    · have YE := Lib.hid (rb_yes hp)
      have k2 : w3.cell? ⟨w.heap.size + 1, 2, none⟩ = some .nilIface := X3.out.rd.c2
      have nn := fun W => nilNeq W
      clear hp
      have c0 := B3.out.c0
      have c1 := B3.out.c1
      have c2 := B3.out.c2
      have c3 := B3.out.c3
      have c4 := B3.out.c4
      have c5 := B3.out.c5
      have c6 := B3.out.c6
      have c7 := B3.out.c7
      have a0 := X3.out.rb.c0
      have a1 := X3.out.rb.c1
      have a2 := X3.out.rb.c2
      have a3 := X3.out.rb.c3
      have a4 := X3.out.rb.c4
      have a5 := X3.out.rb.c5
      have a6 := X3.out.rb.c6
      have a7 := X3.out.rb.c7
      have fz := X3.out.rb.fz
      have PR := Lib.hid (X3.out.rb.all b)
      have GR := Lib.hid (gr8 b (X3.out.gr))
      go_wp2
      have q0 := PR.out.c0
      have q1 := PR.out.c1
      have q2 := PR.out.c2
      have q3 := PR.out.c3
      have q4 := PR.out.c4
      have q5 := PR.out.c5
      have q6 := PR.out.c6
      have q7 := PR.out.c7
      refine bodyPost_ret (v := .tuple #[.agg #[.int .i16 b.c, .int .u8 b.m0, .int .u8 b.m1, .int .u8 b.m2, .int .i16 b.v, .int .i16 b.wi, .int .i16 b.hi, .int .i16 b.we], .int .i64 0]) (by simp [results, Tryd.results11, go_sem, q0, q1, q2, q3, q4, q5, q6, q7]) rfl ⟨by rw [YE.out.1, YE.out.2], low_gr GR.out⟩
    · have NO := Lib.hid (rb_no hp)
      have k2 : w3.cell? ⟨w.heap.size + 1, 2, none⟩ = some (.iface 166 (.pointer (some y))) := X3.out.rd.c2
      clear hp
      go_wp2_with fail
      refine (codeOf_syn w3 s y X3.out.es).mono ?_
      rintro e w' ⟨rfl, rfl⟩
      clear k2
      have a0 := X3.out.rb.c0
      have a1 := X3.out.rb.c1
      have a2 := X3.out.rb.c2
      have a3 := X3.out.rb.c3
      have a4 := X3.out.rb.c4
      have a5 := X3.out.rb.c5
      have a6 := X3.out.rb.c6
      have a7 := X3.out.rb.c7
      have fz := X3.out.rb.fz
      have PR := Lib.hid (X3.out.rb.all0)
      have GR := Lib.hid (gr80 (X3.out.gr))
      go_wp2
      have q0 := PR.out.c0
      have q1 := PR.out.c1
      have q2 := PR.out.c2
      have q3 := PR.out.c3
      have q4 := PR.out.c4
      have q5 := PR.out.c5
      have q6 := PR.out.c6
      have q7 := PR.out.c7
      refine bodyPost_ret (v := .tuple #[.agg #[.int .i16 0, .int .u8 0, .int .u8 0, .int .u8 0, .int .i16 0, .int .i16 0, .int .i16 0, .int .i16 0], .int .i64 5]) (by simp [results, Tryd.results11, go_sem, zeroBk, q0, q1, q2, q3, q4, q5, q6, q7]) rfl ⟨by rw [NO.out.1, NO.out.2]; rfl, low_gr GR.out⟩
  · rw [decide_eq_false hq]
    have EN := Lib.hid (book_end BS.out (f2 := true) (by rw [decide_eq_false hq]; simp) X3.out.rd.le)
    clear hq
    rcases EN.out with ⟨h, hp⟩ | ⟨-, hp⟩
    · cases h
    · have NO := Lib.hid (rb_no hp)
      clear hp
      go_wp2_with fail
      refine (fail_any (w.heap.size + 1) T q f1 y w3 X3.out.rd X3.out.es.cy).mono ?_
      rintro e w4 ⟨rfl, r4, g4⟩
      have X4 := Lib.hid (X3.out.nx HE.out g4 r4)
      clear r4 g4
      have k2 : w4.cell? ⟨w.heap.size + 1, 2, none⟩ = some (.iface 166 (.pointer (some y))) := X4.out.rd.c2
      go_wp2_with fail
      refine (codeOf_syn w4 s y X4.out.es).mono ?_
      rintro e w' ⟨rfl, rfl⟩
      clear k2
      have a0 := X4.out.rb.c0
      have a1 := X4.out.rb.c1
      have a2 := X4.out.rb.c2
      have a3 := X4.out.rb.c3
      have a4 := X4.out.rb.c4
      have a5 := X4.out.rb.c5
      have a6 := X4.out.rb.c6
      have a7 := X4.out.rb.c7
      have fz := X4.out.rb.fz
      have PR := Lib.hid (X4.out.rb.all0)
      have GR := Lib.hid (gr80 (X4.out.gr))
      go_wp2
      have q0 := PR.out.c0
      have q1 := PR.out.c1
      have q2 := PR.out.c2
      have q3 := PR.out.c3
      have q4 := PR.out.c4
      have q5 := PR.out.c5
      have q6 := PR.out.c6
      have q7 := PR.out.c7
      refine bodyPost_ret (v := .tuple #[.agg #[.int .i16 0, .int .u8 0, .int .u8 0, .int .u8 0, .int .i16 0, .int .i16 0, .int .i16 0, .int .i16 0], .int .i64 5]) (by simp [results, Tryd.results11, go_sem, zeroBk, q0, q1, q2, q3, q4, q5, q6, q7]) rfl ⟨by rw [NO.out.1, NO.out.2]; rfl, low_gr GR.out⟩
end Go.Proofs.YtkojnepgeegalaaDoor
