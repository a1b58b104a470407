/- ReadAct, by the program: a contract. Condition: the two error variables hold two different errors of errors.New's make; a text no longer than told. -/
import Derived.Test.YtkojnepgeegalaaDoorRdT1
namespace Go.Proofs.YtkojnepgeegalaaDoor
set_option linter.unusedSimpArgs false
set_option linter.unusedVariables false
set_option maxRecDepth 100000
open Go.RowKit

/-- Where ReadAct stands. -/
structure ARt (w W : World) (T : ByteArray) (s y : Addr) (q : Nat) (f : Bool) : Prop where
  rb : AB W w.heap.size 0 0 0
  rd : Rd W (w.heap.size + 1) T q f y
  es : Es2 W s y
  bl : Below w.heap.size w W
  gr : Gr w.heap.size w W
theorem ARt.nx {w W W' : World} {T : ByteArray} {s y : Addr} {q q' : Nat} {f f' : Bool} (he : Es2 w s y) (h : ARt w W T s y q f) (hg : Gr (w.heap.size + 1) W W') (r : Rd W' (w.heap.size + 1) T q' f' y) : ARt w W' T s y q' f' := by
  have b2 := h.bl.grown hg h.bl.size (fun k hk => by injection hk with hk; omega)
  exact ⟨h.rb.gr hg (by omega), r, he.below b2, b2, Gr.of b2⟩
theorem art_start (w : World) (T : ByteArray) (s y : Addr) (he : Es2 w s y) : ARt w ((w.alloc (.cells #[.int .i8 0, .int .i8 0, .int .i8 0] 42)).alloc (.cells #[.string T, .int .i64 0, .nilIface] 76)) T s y 0 false := by
  have b0 := ((Below.refl w.heap.size w).alloc (Nat.le_refl _) (.cells #[.int .i8 0, .int .i8 0, .int .i8 0] 42)).alloc (by simp) (.cells #[.string T, .int .i64 0, .nilIface] 76)
  exact ⟨heap_alloc2_old w _ _, ⟨heap_alloc2_new w _ _, Nat.zero_le _⟩, he.below b0, b0, Gr.of b0⟩
def acZ (x : Nat × Nat × Nat) (k : Int) : Value := .tuple #[.agg #[.int .i8 (x.1 : Int), .int .i8 (x.2.1 : Int), .int .i8 (x.2.2 : Int)], .int .i64 k]
set_option maxHeartbeats 8000000 in
theorem readAct_any (T : ByteArray) (hT : T.size ≤ 1048576) (w : World) (s y : Addr) (he : Es2 w s y) :
    Calls Tryd.prog 24 #[.string T] w fun e w' => e = .returned (acZ (raX T.data.toList) (raC T.data.toList)) ∧ Below w.heap.size w w' := by
  have hl0 := World.block_lt_of_cell? _ _ he.cy
  have hne : w.heap.size + 1 ≠ 0 := fun e => by
    have h2 : (0 : Nat) < w.heap.size := hl0
    omega
  have X0 := Lib.hid (art_start w T s y he)
  have HE := Lib.hid he
  clear he
  go_enter Tryd.func24, Tryd.ntmps24
  go_upto_region 2 with (fail)
  generalize World.alloc _ _ = W0 at X0 ⊢
  go_wp2_with fail
  refine (act_any (w.heap.size + 1) hne T hT 0 false y W0 X0.out.rd X0.out.es.cy).mono ?_
  rintro e w1 ⟨x, q, f1, rfl, ⟨hbs, -⟩, r1, g1⟩
  have X1 := Lib.hid (X0.out.nx HE.out g1 r1)
  have BS := Lib.hid hbs
  obtain ⟨a, b, c⟩ := x
  have bv := (Below.refl w1.heap.size w1).alloc (Nat.le_refl _) (.cells #[.int .i8 (a : Int), .int .i8 (b : Int), .int .i8 (c : Int)] 42)
  have XV := Lib.hid (X1.out.nx HE.out (Gr.of bv) (X1.out.rd.below bv))
  have BV := Lib.hid (show AB (w1.alloc (.cells #[.int .i8 (a : Int), .int .i8 (b : Int), .int .i8 (c : Int)] 42)) w1.heap.size (a : Int) (b : Int) (c : Int) from heap_alloc_new w1 _)
  have HB := Lib.hid (show w.heap.size + 1 < w1.heap.size from X1.out.rd.lt)
  clear hbs r1 g1 bv
  go_upto_region 3 with (fail)
  generalize w1.alloc _ = W2 at XV BV ⊢
  go_wp2_with fail
  refine (atEnd_any (w.heap.size + 1) T q f1 y W2 XV.out.rd).mono ?_
  rintro e w3 ⟨rfl, h3⟩
  have X3 := Lib.hid (XV.out.nx HE.out (Gr.of h3) (XV.out.rd.below h3))
  have B3 := Lib.hid (BV.out.gr (Gr.of (g := w.heap.size + 1) h3) (by have := HB.out; omega))
  clear h3
  by_cases hq : q = T.size
  · rw [decide_eq_true hq]
    have EN := Lib.hid (act_end BS.out (f2 := f1) (by rw [decide_eq_true hq]; simp) X3.out.rd.le)
    clear hq
    rcases EN.out with ⟨rfl, hp⟩ | ⟨rfl, hp⟩
    · have YE := Lib.hid (ra_yes hp)
      have k2 : w3.cell? ⟨w.heap.size + 1, 2, none⟩ = some .nilIface := X3.out.rd.c2
      have nn := fun W => nilNeq W
      clear hp
      have c0 := B3.out.c0
      have c1 := B3.out.c1
      have c2 := B3.out.c2
      have r0 := X3.out.rb.c0
      have r1 := X3.out.rb.c1
      have r2 := X3.out.rb.c2
      have fz := X3.out.rb.fz
      have PR := Lib.hid (X3.out.rb.all (a : Int) (b : Int) (c : Int))
      have GR := Lib.hid (gr3 (a : Int) (b : Int) (c : Int) X3.out.gr)
      go_wp2
      have q0 := PR.out.c0
      have q1 := PR.out.c1
      have q2 := PR.out.c2
      exact bodyPost_ret (v := .tuple #[.agg #[.int .i8 (a : Int), .int .i8 (b : Int), .int .i8 (c : Int)], .int .i64 0]) (by simp [results, Tryd.results24, go_sem, q0, q1, q2]) rfl ⟨by rw [YE.out.1, YE.out.2]; rfl, low_gr GR.out⟩
    · have NO := Lib.hid (ra_no hp)
      have k2 : w3.cell? ⟨w.heap.size + 1, 2, none⟩ = some (.iface 166 (.pointer (some y))) := X3.out.rd.c2
      clear hp
      go_wp2_with fail
      refine (codeOf_syn w3 s y X3.out.es).mono ?_
      rintro e w' ⟨rfl, rfl⟩
      clear k2
      have r0 := X3.out.rb.c0
      have r1 := X3.out.rb.c1
      have r2 := X3.out.rb.c2
      have fz := X3.out.rb.fz
      have PR := Lib.hid (X3.out.rb.all 0 0 0)
      have GR := Lib.hid (gr3 0 0 0 X3.out.gr)
      go_wp2
      have q0 := PR.out.c0
      have q1 := PR.out.c1
      have q2 := PR.out.c2
      exact bodyPost_ret (v := .tuple #[.agg #[.int .i8 0, .int .i8 0, .int .i8 0], .int .i64 5]) (by simp [results, Tryd.results24, go_sem, q0, q1, q2]) rfl ⟨by rw [NO.out.1, NO.out.2]; rfl, low_gr GR.out⟩
  · rw [decide_eq_false hq]
    have EN := Lib.hid (act_end BS.out (f2 := true) (by rw [decide_eq_false hq]; simp) X3.out.rd.le)
    clear hq
    rcases EN.out with ⟨h, hp⟩ | ⟨-, hp⟩
    · cases h
    · have NO := Lib.hid (ra_no hp)
      clear hp
      go_wp2_with fail
      refine (fail_any (w.heap.size + 1) T q f1 y w3 X3.out.rd X3.out.es.cy).mono ?_
      rintro e w4 ⟨rfl, r4, g4⟩
      have X4 := Lib.hid (X3.out.nx HE.out g4 r4)
      clear r4 g4
      have k2 : w4.cell? ⟨w.heap.size + 1, 2, none⟩ = some (.iface 166 (.pointer (some y))) := X4.out.rd.c2
      go_wp2_with fail
      refine (codeOf_syn w4 s y X4.out.es).mono ?_
      rintro e w' ⟨rfl, rfl⟩
      clear k2
      have r0 := X4.out.rb.c0
      have r1 := X4.out.rb.c1
      have r2 := X4.out.rb.c2
      have fz := X4.out.rb.fz
      have PR := Lib.hid (X4.out.rb.all 0 0 0)
      have GR := Lib.hid (gr3 0 0 0 X4.out.gr)
      go_wp2
      have q0 := PR.out.c0
      have q1 := PR.out.c1
      have q2 := PR.out.c2
      exact bodyPost_ret (v := .tuple #[.agg #[.int .i8 0, .int .i8 0, .int .i8 0], .int .i64 5]) (by simp [results, Tryd.results24, go_sem, q0, q1, q2]) rfl ⟨by rw [NO.out.1, NO.out.2]; rfl, low_gr GR.out⟩
end Go.Proofs.YtkojnepgeegalaaDoor
