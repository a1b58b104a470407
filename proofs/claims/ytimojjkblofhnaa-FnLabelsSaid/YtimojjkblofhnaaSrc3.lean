/- A book that is drawn: contracts. Condition: a code of at most 1048576 bytes. -/
import Derived.Test.YtimojjkblofhnaaSrc2
import Derived.Test.YtimojjkblofhnaaValid2
import Derived.Deep.CutBlock
namespace Go.Proofs.Ytimojjkblofhnaa
set_option linter.unusedSimpArgs false
set_option linter.unusedVariables false
set_option maxRecDepth 100000
open Go.RowKit

/-- A book's block. -/
def K8 (W : World) (p : Nat) (c m0 m1 m2 v wi hi we : Int) : Prop := W.heap[p]? = some (.cells #[.int .i16 c, .int .u8 m0, .int .u8 m1, .int .u8 m2, .int .i16 v, .int .i16 wi, .int .i16 hi, .int .i16 we] 27 (0, 0))
section
variable {W W' : World} {p : Nat} {c m0 m1 m2 v wi hi we : Int}
theorem K8.lt (h : K8 W p c m0 m1 m2 v wi hi we) : p < W.heap.size := (Array.getElem?_eq_some_iff.1 h).1
theorem K8.kept {g : Nat} (h : K8 W p c m0 m1 m2 v wi hi we) (hg : W.grownBy W' (some g)) (hne : p ≠ g) : K8 W' p c m0 m1 m2 v wi hi we := (hg.block p h.lt (fun e => hne (by injection e))).trans h
theorem K8.below (h : K8 W p c m0 m1 m2 v wi hi we) (hb : Below W.heap.size W W') : K8 W' p c m0 m1 m2 v wi hi we := (hb.block p h.lt).trans h
theorem K8.fz (h : K8 W p c m0 m1 m2 v wi hi we) (i : Nat) : W.frozen? ⟨p, i, none⟩ = false := frozen_of_row W p i _ _ h
theorem K8.c0 (h : K8 W p c m0 m1 m2 v wi hi we) : W.cell? ⟨p, 0, none⟩ = some (.int .i16 c) := cell_of_row W p 0 _ _ _ h
theorem K8.c1 (h : K8 W p c m0 m1 m2 v wi hi we) : W.cell? ⟨p, 1, none⟩ = some (.int .u8 m0) := cell_of_row W p 1 _ _ _ h
theorem K8.c2 (h : K8 W p c m0 m1 m2 v wi hi we) : W.cell? ⟨p, 2, none⟩ = some (.int .u8 m1) := cell_of_row W p 2 _ _ _ h
theorem K8.c3 (h : K8 W p c m0 m1 m2 v wi hi we) : W.cell? ⟨p, 3, none⟩ = some (.int .u8 m2) := cell_of_row W p 3 _ _ _ h
theorem K8.c4 (h : K8 W p c m0 m1 m2 v wi hi we) : W.cell? ⟨p, 4, none⟩ = some (.int .i16 v) := cell_of_row W p 4 _ _ _ h
theorem K8.c5 (h : K8 W p c m0 m1 m2 v wi hi we) : W.cell? ⟨p, 5, none⟩ = some (.int .i16 wi) := cell_of_row W p 5 _ _ _ h
theorem K8.c6 (h : K8 W p c m0 m1 m2 v wi hi we) : W.cell? ⟨p, 6, none⟩ = some (.int .i16 hi) := cell_of_row W p 6 _ _ _ h
theorem K8.c7 (h : K8 W p c m0 m1 m2 v wi hi we) : W.cell? ⟨p, 7, none⟩ = some (.int .i16 we) := cell_of_row W p 7 _ _ _ h
theorem K8.s1 (h : K8 W p c m0 m1 m2 v wi hi we) (x : Int) : K8 (W.setCell ⟨p, 1, none⟩ (.int .u8 x)) p c x m1 m2 v wi hi we := by
  have h1 := heap_setCell_same _ _ 1 _ _ (.int .u8 x) h
  unfold K8
  simpa using h1
theorem K8.s2 (h : K8 W p c m0 m1 m2 v wi hi we) (x : Int) : K8 (W.setCell ⟨p, 2, none⟩ (.int .u8 x)) p c m0 x m2 v wi hi we := by
  have h1 := heap_setCell_same _ _ 2 _ _ (.int .u8 x) h
  unfold K8
  simpa using h1
theorem K8.s3 (h : K8 W p c m0 m1 m2 v wi hi we) (x : Int) : K8 (W.setCell ⟨p, 3, none⟩ (.int .u8 x)) p c m0 m1 x v wi hi we := by
  have h1 := heap_setCell_same _ _ 3 _ _ (.int .u8 x) h
  unfold K8
  simpa using h1
theorem K8.s0 (h : K8 W p c m0 m1 m2 v wi hi we) (x : Int) : K8 (W.setCell ⟨p, 0, none⟩ (.int .i16 x)) p x m0 m1 m2 v wi hi we := by
  have h1 := heap_setCell_same _ _ 0 _ _ (.int .i16 x) h
  unfold K8
  simpa using h1
theorem K8.s4 (h : K8 W p c m0 m1 m2 v wi hi we) (x : Int) : K8 (W.setCell ⟨p, 4, none⟩ (.int .i16 x)) p c m0 m1 m2 x wi hi we := by
  have h1 := heap_setCell_same _ _ 4 _ _ (.int .i16 x) h
  unfold K8
  simpa using h1
theorem K8.s5 (h : K8 W p c m0 m1 m2 v wi hi we) (x : Int) : K8 (W.setCell ⟨p, 5, none⟩ (.int .i16 x)) p c m0 m1 m2 v x hi we := by
  have h1 := heap_setCell_same _ _ 5 _ _ (.int .i16 x) h
  unfold K8
  simpa using h1
theorem K8.s6 (h : K8 W p c m0 m1 m2 v wi hi we) (x : Int) : K8 (W.setCell ⟨p, 6, none⟩ (.int .i16 x)) p c m0 m1 m2 v wi x we := by
  have h1 := heap_setCell_same _ _ 6 _ _ (.int .i16 x) h
  unfold K8
  simpa using h1
theorem K8.s7 (h : K8 W p c m0 m1 m2 v wi hi we) (x : Int) : K8 (W.setCell ⟨p, 7, none⟩ (.int .i16 x)) p c m0 m1 m2 v wi hi x := by
  have h1 := heap_setCell_same _ _ 7 _ _ (.int .i16 x) h
  unfold K8
  simpa using h1
theorem gset {W : World} (p i : Nat) (u : Value) : W.grownBy (W.setCell ⟨p, i, none⟩ u) (some p) := only_set2 (World.grownBy.refl W (some p)) i u
theorem Src.set {w W : World} {g m p i : Nat} {cv u : Value} (h : Src w W g cv m) (hp : w.heap.size ≤ p) (hne : g ≠ p) : Src w (W.setCell ⟨p, i, none⟩ u) g cv m :=
  h.kept (gset p i u) (fun e => hne (by injection e)) (fun k hk => by injection hk with hk; omega)
theorem K8.far {q i : Nat} {u : Value} (h : K8 W p c m0 m1 m2 v wi hi we) (hne : p ≠ q) : K8 (W.setCell ⟨q, i, none⟩ u) p c m0 m1 m2 v wi hi we := h.kept (gset q i u) hne
end
set_option maxHeartbeats 8000000 in
theorem one_any {w : World} {cv : Value} {zs : List Int} (hc : IntsOf .u8 w cv zs) (hb : ∀ z ∈ zs, 0 ≤ z ∧ z ≤ 255) (hl : zs.length ≤ 1048576) {g m : Nat} {W : World} (h : Src w W g cv m) (hm : m ≤ 1047000) :
    Calls Try.prog 16 #[.pointer (some ⟨g, 0, none⟩)] W fun e W' => ∃ b : Bk, e = .returned (.agg #[.int .i16 b.c, .int .u8 b.m0, .int .u8 b.m1, .int .u8 b.m2, .int .i16 b.v, .int .i16 b.wi, .int .i16 b.hi, .int .i16 b.we]) ∧ bookB b = true ∧ Src w W' g cv (m + 14) := by
  have H := Lib.hid h
  have PK := Lib.hid (fun (m : Nat) (V : World) (h : Src w V g cv m) (hm : m ≤ 1048000) (n : Int) (hn1 : 2 ≤ n) (hn2 : n ≤ 1048576) => pick_any hc hb hl h hm n hn1 hn2)
  have hg := h.lt
  have hlo := h.lo
  clear h hc hb
  have ba := (Below.refl W.heap.size W).alloc (Nat.le_refl _) (.cells #[.int .i16 0, .int .u8 0, .int .u8 0, .int .u8 0, .int .i16 0, .int .i16 0, .int .i16 0, .int .i16 0] 27)
  have S0 := Lib.hid (H.out.below ba)
  have R0 := Lib.hid (show K8 (W.alloc (.cells #[.int .i16 0, .int .u8 0, .int .u8 0, .int .u8 0, .int .i16 0, .int .i16 0, .int .i16 0, .int .i16 0] 27)) W.heap.size 0 0 0 0 0 0 0 0 from heap_alloc_new W _)
  clear ba
  go_enter Try.func16, Try.ntmps16
  go_upto_region 1 with (fail)
  generalize World.alloc W _ = W0 at S0 R0 ⊢
  obtain ⟨p, hp⟩ : ∃ p, W.heap.size = p := ⟨_, rfl⟩
  rw [hp] at R0 ⊢
  have hgp : g < p := by omega
  go_wp2_with fail
  refine (PK.out _ _ S0.out (by omega) 8 (by omega) (by omega)).mono ?_
  rintro e W1 ⟨x1, rfl, ⟨xa, xb⟩, s1, g1⟩
  have R1 := Lib.hid (R0.out.kept g1 (by omega))
  have S1 := Lib.hid s1
  clear s1 g1
  go_wp2_with fail
  refine (PK.out _ _ S1.out (by omega) 3 (by omega) (by omega)).mono ?_
  rintro e W2 ⟨x2, rfl, ⟨xc, xd⟩, s2, g2⟩
  have ba := (Below.refl W2.heap.size W2).alloc (Nat.le_refl _) (.cells #[.int .i16 (x1 * 100), .int .u8 0, .int .u8 0, .int .u8 0, .int .i16 (1 + x2), .int .i16 0, .int .i16 0, .int .i16 0] 27)
  have R3 := Lib.hid ((R1.out.kept g2 (by omega)).below ba)
  have S3 := Lib.hid (s2.below ba)
  have Q3 := Lib.hid (show K8 (W2.alloc (.cells #[.int .i16 (x1 * 100), .int .u8 0, .int .u8 0, .int .u8 0, .int .i16 (1 + x2), .int .i16 0, .int .i16 0, .int .i16 0] 27)) W2.heap.size (x1 * 100) 0 0 0 (1 + x2) 0 0 0 from heap_alloc_new W2 _)
  have zq : p < W2.heap.size := (R1.out.kept g2 (by omega)).lt
  clear s2 g2 ba
  go_upto_region 2 with (fail)
  generalize World.alloc W2 _ = W3 at S3 R3 Q3 ⊢
  obtain ⟨q, hq⟩ : ∃ q, W2.heap.size = q := ⟨_, rfl⟩
  rw [hq] at Q3 zq ⊢
  have fz := Q3.out.fz
  have q1 := Q3.out.c1
  have q2 := Q3.out.c2
  have q3 := Q3.out.c3
  go_wp2
  refine wp_loop_rounds 4 ?_
  rw [rounds_succ]; go_wp2
  rw [rounds_succ]; go_wp2
  rw [rounds_succ]; go_wp2
  rw [rounds_succ]
  clear q1 q2 q3 fz
  have W4e := Lib.hid (Eq.refl (((W3.setCell ⟨q, 1, none⟩ (.int .u8 97)).setCell ⟨q, 2, none⟩ (.int .u8 97)).setCell ⟨q, 3, none⟩ (.int .u8 97)))
  have S4 := Lib.hid (((S3.out.set (i := 1) (u := .int .u8 97) (show w.heap.size ≤ q by omega) (show g ≠ q by omega)).set (i := 2) (u := .int .u8 97) (show w.heap.size ≤ q by omega) (show g ≠ q by omega)).set (i := 3) (u := .int .u8 97) (show w.heap.size ≤ q by omega) (show g ≠ q by omega))
  have Q4 := Lib.hid (((Q3.out.s1 97).s2 97).s3 97)
  have R4 := Lib.hid (((R3.out.far (q := q) (i := 1) (u := .int .u8 97) (by omega)).far (q := q) (i := 2) (u := .int .u8 97) (by omega)).far (q := q) (i := 3) (u := .int .u8 97) (by omega))
  clear W4e
  go_wp2_with fail
  generalize ((W3.setCell ⟨q, 1, none⟩ (.int .u8 97)).setCell ⟨q, 2, none⟩ (.int .u8 97)).setCell ⟨q, 3, none⟩ (.int .u8 97) = W4 at S4 Q4 R4 ⊢
  refine (PK.out _ _ S4.out (by omega) 3 (by omega) (by omega)).mono ?_
  rintro e W5 ⟨y1, rfl, ⟨ya, yb⟩, s5, g5⟩
  have S5 := Lib.hid s5
  have Q5 := Lib.hid (Q4.out.kept g5 (by omega))
  have R5 := Lib.hid (R4.out.kept g5 (by omega))
  clear s5 g5
  go_wp2_with fail
  refine (PK.out _ _ S5.out (by omega) 3 (by omega) (by omega)).mono ?_
  rintro e W6 ⟨y2, rfl, ⟨yc, yd⟩, s6, g6⟩
  have S6 := Lib.hid s6
  have Q6 := Lib.hid (Q5.out.kept g6 (by omega))
  have R6 := Lib.hid (R5.out.kept g6 (by omega))
  have fz := Q6.out.fz
  have q1 := Q6.out.c1
  have q2 := Q6.out.c2
  have q3 := Q6.out.c3
  clear s6 g6
  obtain rfl | rfl | rfl : y1 = 0 ∨ y1 = 1 ∨ y1 = 2 := by omega
  · have S7 := Lib.hid (S6.out.set (i := 1) (u := .int .u8 (97 + y2)) (show w.heap.size ≤ q by omega) (show g ≠ q by omega))
    have Q7 := Lib.hid (Q6.out.s1 (97 + y2))
    have R7 := Lib.hid (R6.out.far (q := q) (i := 1) (u := .int .u8 (97 + y2)) (by omega))
    go_wp2_with fail
    generalize World.setCell W6 _ _ = W7 at S7 Q7 R7 ⊢
    clear fz q1 q2 q3
    refine (PK.out _ _ S7.out (by omega) 9 (by omega) (by omega)).mono ?_
    rintro e W8 ⟨za, rfl, ⟨za1, za2⟩, s8, g8⟩
    have S8 := Lib.hid s8
    have Q8 := Lib.hid (Q7.out.kept g8 (by omega))
    have R8 := Lib.hid (R7.out.kept g8 (by omega))
    have fz := Q8.out.fz
    have qf := Q8.out.c5
    clear s8 g8
    have S9 := Lib.hid (S8.out.set (i := 5) (u := .int .i16 (10 + 5 * za)) (show w.heap.size ≤ q by omega) (show g ≠ q by omega))
    have Q9 := Lib.hid (Q8.out.s5 (10 + 5 * za))
    have R9 := Lib.hid (R8.out.far (q := q) (i := 5) (u := .int .i16 (10 + 5 * za)) (by omega))
    go_wp2_with fail
    generalize World.setCell W8 _ _ = W9 at S9 Q9 R9 ⊢
    clear fz qf
    refine (PK.out _ _ S9.out (by omega) 12 (by omega) (by omega)).mono ?_
    rintro e Wa ⟨zb, rfl, ⟨zb1, zb2⟩, sa, ga⟩
    have Sa := Lib.hid sa
    have Qa := Lib.hid (Q9.out.kept ga (by omega))
    have Ra := Lib.hid (R9.out.kept ga (by omega))
    have fz := Qa.out.fz
    have qf := Qa.out.c6
    clear sa ga
    have Sb := Lib.hid (Sa.out.set (i := 6) (u := .int .i16 (180 + 10 * zb)) (show w.heap.size ≤ q by omega) (show g ≠ q by omega))
    have Qb := Lib.hid (Qa.out.s6 (180 + 10 * zb))
    have Rb := Lib.hid (Ra.out.far (q := q) (i := 6) (u := .int .i16 (180 + 10 * zb)) (by omega))
    go_wp2_with fail
    generalize World.setCell Wa _ _ = Wb at Sb Qb Rb ⊢
    clear fz qf
    refine (PK.out _ _ Sb.out (by omega) 20 (by omega) (by omega)).mono ?_
    rintro e Wc ⟨zc, rfl, ⟨zc1, zc2⟩, sc, gc⟩
    have Sc := Lib.hid sc
    have Qc := Lib.hid (Qb.out.kept gc (by omega))
    have Rc := Lib.hid (Rb.out.kept gc (by omega))
    have fz := Qc.out.fz
    have qf := Qc.out.c7
    clear sc gc
    have Sd := Lib.hid (Sc.out.set (i := 7) (u := .int .i16 (100 * (1 + zc))) (show w.heap.size ≤ q by omega) (show g ≠ q by omega))
    have Qd := Lib.hid (Qc.out.s7 (100 * (1 + zc)))
    have Rd := Lib.hid (Rc.out.far (q := q) (i := 7) (u := .int .i16 (100 * (1 + zc))) (by omega))
    go_upto_region 10 with (fail)
    generalize World.setCell Wc _ _ = We at Sd Qd Rd ⊢
    clear fz qf
    have c0 := Qd.out.c0
    have c1 := Qd.out.c1
    have c2 := Qd.out.c2
    have c3 := Qd.out.c3
    have c4 := Qd.out.c4
    have c5 := Qd.out.c5
    have c6 := Qd.out.c6
    have c7 := Qd.out.c7
    have r0 := Rd.out.c0
    have r1 := Rd.out.c1
    have r2 := Rd.out.c2
    have r3 := Rd.out.c3
    have r4 := Rd.out.c4
    have r5 := Rd.out.c5
    have r6 := Rd.out.c6
    have r7 := Rd.out.c7
    have fz := Rd.out.fz
    have KF := Lib.hid ((((((((Rd.out.s0 (x1 * 100)).s1 (97 + y2)).s2 97).s3 97).s4 (1 + x2)).s5 (10 + 5 * za)).s6 (180 + 10 * zb)).s7 (100 * (1 + zc)))
    have SF := Lib.hid ((((((((Sd.out.set (i := 0) (u := .int .i16 (x1 * 100)) (show w.heap.size ≤ p by omega) (show g ≠ p by omega)).set (i := 1) (u := .int .u8 (97 + y2)) (show w.heap.size ≤ p by omega) (show g ≠ p by omega)).set (i := 2) (u := .int .u8 97) (show w.heap.size ≤ p by omega) (show g ≠ p by omega)).set (i := 3) (u := .int .u8 97) (show w.heap.size ≤ p by omega) (show g ≠ p by omega)).set (i := 4) (u := .int .i16 (1 + x2)) (show w.heap.size ≤ p by omega) (show g ≠ p by omega)).set (i := 5) (u := .int .i16 (10 + 5 * za)) (show w.heap.size ≤ p by omega) (show g ≠ p by omega)).set (i := 6) (u := .int .i16 (180 + 10 * zb)) (show w.heap.size ≤ p by omega) (show g ≠ p by omega)).set (i := 7) (u := .int .i16 (100 * (1 + zc))) (show w.heap.size ≤ p by omega) (show g ≠ p by omega))
    go_wp2
    have q0 := KF.out.c0
    have q1 := KF.out.c1
    have q2 := KF.out.c2
    have q3 := KF.out.c3
    have q4 := KF.out.c4
    have q5 := KF.out.c5
    have q6 := KF.out.c6
    have q7 := KF.out.c7
    exact bodyPost_ret (v := .agg #[.int .i16 (x1 * 100), .int .u8 (97 + y2), .int .u8 97, .int .u8 97, .int .i16 (1 + x2), .int .i16 (10 + 5 * za), .int .i16 (180 + 10 * zb), .int .i16 (100 * (1 + zc))]) (by simp [results, Try.results16, go_sem, q0, q1, q2, q3, q4, q5, q6, q7]) rfl ⟨⟨(x1 * 100), (97 + y2), 97, 97, (1 + x2), (10 + 5 * za), (180 + 10 * zb), (100 * (1 + zc))⟩, rfl, by simp only [bookB, markB, inB, Bool.and_eq_true, decide_eq_true_eq]; omega, SF.out.more (by omega)⟩
  · have S7 := Lib.hid (S6.out.set (i := 2) (u := .int .u8 (97 + y2)) (show w.heap.size ≤ q by omega) (show g ≠ q by omega))
    have Q7 := Lib.hid (Q6.out.s2 (97 + y2))
    have R7 := Lib.hid (R6.out.far (q := q) (i := 2) (u := .int .u8 (97 + y2)) (by omega))
    go_wp2_with fail
    generalize World.setCell W6 _ _ = W7 at S7 Q7 R7 ⊢
    clear fz q1 q2 q3
    refine (PK.out _ _ S7.out (by omega) 9 (by omega) (by omega)).mono ?_
    rintro e W8 ⟨za, rfl, ⟨za1, za2⟩, s8, g8⟩
    have S8 := Lib.hid s8
    have Q8 := Lib.hid (Q7.out.kept g8 (by omega))
    have R8 := Lib.hid (R7.out.kept g8 (by omega))
    have fz := Q8.out.fz
    have qf := Q8.out.c5
    clear s8 g8
    have S9 := Lib.hid (S8.out.set (i := 5) (u := .int .i16 (10 + 5 * za)) (show w.heap.size ≤ q by omega) (show g ≠ q by omega))
    have Q9 := Lib.hid (Q8.out.s5 (10 + 5 * za))
    have R9 := Lib.hid (R8.out.far (q := q) (i := 5) (u := .int .i16 (10 + 5 * za)) (by omega))
    go_wp2_with fail
    generalize World.setCell W8 _ _ = W9 at S9 Q9 R9 ⊢
    clear fz qf
    refine (PK.out _ _ S9.out (by omega) 12 (by omega) (by omega)).mono ?_
    rintro e Wa ⟨zb, rfl, ⟨zb1, zb2⟩, sa, ga⟩
    have Sa := Lib.hid sa
    have Qa := Lib.hid (Q9.out.kept ga (by omega))
    have Ra := Lib.hid (R9.out.kept ga (by omega))
    have fz := Qa.out.fz
    have qf := Qa.out.c6
    clear sa ga
    have Sb := Lib.hid (Sa.out.set (i := 6) (u := .int .i16 (180 + 10 * zb)) (show w.heap.size ≤ q by omega) (show g ≠ q by omega))
    have Qb := Lib.hid (Qa.out.s6 (180 + 10 * zb))
    have Rb := Lib.hid (Ra.out.far (q := q) (i := 6) (u := .int .i16 (180 + 10 * zb)) (by omega))
    go_wp2_with fail
    generalize World.setCell Wa _ _ = Wb at Sb Qb Rb ⊢
    clear fz qf
    refine (PK.out _ _ Sb.out (by omega) 20 (by omega) (by omega)).mono ?_
    rintro e Wc ⟨zc, rfl, ⟨zc1, zc2⟩, sc, gc⟩
    have Sc := Lib.hid sc
    have Qc := Lib.hid (Qb.out.kept gc (by omega))
    have Rc := Lib.hid (Rb.out.kept gc (by omega))
    have fz := Qc.out.fz
    have qf := Qc.out.c7
    clear sc gc
    have Sd := Lib.hid (Sc.out.set (i := 7) (u := .int .i16 (100 * (1 + zc))) (show w.heap.size ≤ q by omega) (show g ≠ q by omega))
    have Qd := Lib.hid (Qc.out.s7 (100 * (1 + zc)))
    have Rd := Lib.hid (Rc.out.far (q := q) (i := 7) (u := .int .i16 (100 * (1 + zc))) (by omega))
    go_upto_region 10 with (fail)
    generalize World.setCell Wc _ _ = We at Sd Qd Rd ⊢
    clear fz qf
    have c0 := Qd.out.c0
    have c1 := Qd.out.c1
    have c2 := Qd.out.c2
    have c3 := Qd.out.c3
    have c4 := Qd.out.c4
    have c5 := Qd.out.c5
    have c6 := Qd.out.c6
    have c7 := Qd.out.c7
    have r0 := Rd.out.c0
    have r1 := Rd.out.c1
    have r2 := Rd.out.c2
    have r3 := Rd.out.c3
    have r4 := Rd.out.c4
    have r5 := Rd.out.c5
    have r6 := Rd.out.c6
    have r7 := Rd.out.c7
    have fz := Rd.out.fz
    have KF := Lib.hid ((((((((Rd.out.s0 (x1 * 100)).s1 97).s2 (97 + y2)).s3 97).s4 (1 + x2)).s5 (10 + 5 * za)).s6 (180 + 10 * zb)).s7 (100 * (1 + zc)))
    have SF := Lib.hid ((((((((Sd.out.set (i := 0) (u := .int .i16 (x1 * 100)) (show w.heap.size ≤ p by omega) (show g ≠ p by omega)).set (i := 1) (u := .int .u8 97) (show w.heap.size ≤ p by omega) (show g ≠ p by omega)).set (i := 2) (u := .int .u8 (97 + y2)) (show w.heap.size ≤ p by omega) (show g ≠ p by omega)).set (i := 3) (u := .int .u8 97) (show w.heap.size ≤ p by omega) (show g ≠ p by omega)).set (i := 4) (u := .int .i16 (1 + x2)) (show w.heap.size ≤ p by omega) (show g ≠ p by omega)).set (i := 5) (u := .int .i16 (10 + 5 * za)) (show w.heap.size ≤ p by omega) (show g ≠ p by omega)).set (i := 6) (u := .int .i16 (180 + 10 * zb)) (show w.heap.size ≤ p by omega) (show g ≠ p by omega)).set (i := 7) (u := .int .i16 (100 * (1 + zc))) (show w.heap.size ≤ p by omega) (show g ≠ p by omega))
    go_wp2
    have q0 := KF.out.c0
    have q1 := KF.out.c1
    have q2 := KF.out.c2
    have q3 := KF.out.c3
    have q4 := KF.out.c4
    have q5 := KF.out.c5
    have q6 := KF.out.c6
    have q7 := KF.out.c7
    exact bodyPost_ret (v := .agg #[.int .i16 (x1 * 100), .int .u8 97, .int .u8 (97 + y2), .int .u8 97, .int .i16 (1 + x2), .int .i16 (10 + 5 * za), .int .i16 (180 + 10 * zb), .int .i16 (100 * (1 + zc))]) (by simp [results, Try.results16, go_sem, q0, q1, q2, q3, q4, q5, q6, q7]) rfl ⟨⟨(x1 * 100), 97, (97 + y2), 97, (1 + x2), (10 + 5 * za), (180 + 10 * zb), (100 * (1 + zc))⟩, rfl, by simp only [bookB, markB, inB, Bool.and_eq_true, decide_eq_true_eq]; omega, SF.out.more (by omega)⟩
  · have S7 := Lib.hid (S6.out.set (i := 3) (u := .int .u8 (97 + y2)) (show w.heap.size ≤ q by omega) (show g ≠ q by omega))
    have Q7 := Lib.hid (Q6.out.s3 (97 + y2))
    have R7 := Lib.hid (R6.out.far (q := q) (i := 3) (u := .int .u8 (97 + y2)) (by omega))
    go_wp2_with fail
    generalize World.setCell W6 _ _ = W7 at S7 Q7 R7 ⊢
    clear fz q1 q2 q3
    refine (PK.out _ _ S7.out (by omega) 9 (by omega) (by omega)).mono ?_
    rintro e W8 ⟨za, rfl, ⟨za1, za2⟩, s8, g8⟩
    have S8 := Lib.hid s8
    have Q8 := Lib.hid (Q7.out.kept g8 (by omega))
    have R8 := Lib.hid (R7.out.kept g8 (by omega))
    have fz := Q8.out.fz
    have qf := Q8.out.c5
    clear s8 g8
    have S9 := Lib.hid (S8.out.set (i := 5) (u := .int .i16 (10 + 5 * za)) (show w.heap.size ≤ q by omega) (show g ≠ q by omega))
    have Q9 := Lib.hid (Q8.out.s5 (10 + 5 * za))
    have R9 := Lib.hid (R8.out.far (q := q) (i := 5) (u := .int .i16 (10 + 5 * za)) (by omega))
    go_wp2_with fail
    generalize World.setCell W8 _ _ = W9 at S9 Q9 R9 ⊢
    clear fz qf
    refine (PK.out _ _ S9.out (by omega) 12 (by omega) (by omega)).mono ?_
    rintro e Wa ⟨zb, rfl, ⟨zb1, zb2⟩, sa, ga⟩
    have Sa := Lib.hid sa
    have Qa := Lib.hid (Q9.out.kept ga (by omega))
    have Ra := Lib.hid (R9.out.kept ga (by omega))
    have fz := Qa.out.fz
    have qf := Qa.out.c6
    clear sa ga
    have Sb := Lib.hid (Sa.out.set (i := 6) (u := .int .i16 (180 + 10 * zb)) (show w.heap.size ≤ q by omega) (show g ≠ q by omega))
    have Qb := Lib.hid (Qa.out.s6 (180 + 10 * zb))
    have Rb := Lib.hid (Ra.out.far (q := q) (i := 6) (u := .int .i16 (180 + 10 * zb)) (by omega))
    go_wp2_with fail
    generalize World.setCell Wa _ _ = Wb at Sb Qb Rb ⊢
    clear fz qf
    refine (PK.out _ _ Sb.out (by omega) 20 (by omega) (by omega)).mono ?_
    rintro e Wc ⟨zc, rfl, ⟨zc1, zc2⟩, sc, gc⟩
    have Sc := Lib.hid sc
    have Qc := Lib.hid (Qb.out.kept gc (by omega))
    have Rc := Lib.hid (Rb.out.kept gc (by omega))
    have fz := Qc.out.fz
    have qf := Qc.out.c7
    clear sc gc
    have Sd := Lib.hid (Sc.out.set (i := 7) (u := .int .i16 (100 * (1 + zc))) (show w.heap.size ≤ q by omega) (show g ≠ q by omega))
    have Qd := Lib.hid (Qc.out.s7 (100 * (1 + zc)))
    have Rd := Lib.hid (Rc.out.far (q := q) (i := 7) (u := .int .i16 (100 * (1 + zc))) (by omega))
    go_upto_region 10 with (fail)
    generalize World.setCell Wc _ _ = We at Sd Qd Rd ⊢
    clear fz qf
    have c0 := Qd.out.c0
    have c1 := Qd.out.c1
    have c2 := Qd.out.c2
    have c3 := Qd.out.c3
    have c4 := Qd.out.c4
    have c5 := Qd.out.c5
    have c6 := Qd.out.c6
    have c7 := Qd.out.c7
    have r0 := Rd.out.c0
    have r1 := Rd.out.c1
    have r2 := Rd.out.c2
    have r3 := Rd.out.c3
    have r4 := Rd.out.c4
    have r5 := Rd.out.c5
    have r6 := Rd.out.c6
    have r7 := Rd.out.c7
    have fz := Rd.out.fz
    have KF := Lib.hid ((((((((Rd.out.s0 (x1 * 100)).s1 97).s2 97).s3 (97 + y2)).s4 (1 + x2)).s5 (10 + 5 * za)).s6 (180 + 10 * zb)).s7 (100 * (1 + zc)))
    have SF := Lib.hid ((((((((Sd.out.set (i := 0) (u := .int .i16 (x1 * 100)) (show w.heap.size ≤ p by omega) (show g ≠ p by omega)).set (i := 1) (u := .int .u8 97) (show w.heap.size ≤ p by omega) (show g ≠ p by omega)).set (i := 2) (u := .int .u8 97) (show w.heap.size ≤ p by omega) (show g ≠ p by omega)).set (i := 3) (u := .int .u8 (97 + y2)) (show w.heap.size ≤ p by omega) (show g ≠ p by omega)).set (i := 4) (u := .int .i16 (1 + x2)) (show w.heap.size ≤ p by omega) (show g ≠ p by omega)).set (i := 5) (u := .int .i16 (10 + 5 * za)) (show w.heap.size ≤ p by omega) (show g ≠ p by omega)).set (i := 6) (u := .int .i16 (180 + 10 * zb)) (show w.heap.size ≤ p by omega) (show g ≠ p by omega)).set (i := 7) (u := .int .i16 (100 * (1 + zc))) (show w.heap.size ≤ p by omega) (show g ≠ p by omega))
    go_wp2
    have q0 := KF.out.c0
    have q1 := KF.out.c1
    have q2 := KF.out.c2
    have q3 := KF.out.c3
    have q4 := KF.out.c4
    have q5 := KF.out.c5
    have q6 := KF.out.c6
    have q7 := KF.out.c7
    exact bodyPost_ret (v := .agg #[.int .i16 (x1 * 100), .int .u8 97, .int .u8 97, .int .u8 (97 + y2), .int .i16 (1 + x2), .int .i16 (10 + 5 * za), .int .i16 (180 + 10 * zb), .int .i16 (100 * (1 + zc))]) (by simp [results, Try.results16, go_sem, q0, q1, q2, q3, q4, q5, q6, q7]) rfl ⟨⟨(x1 * 100), 97, 97, (97 + y2), (1 + x2), (10 + 5 * za), (180 + 10 * zb), (100 * (1 + zc))⟩, rfl, by simp only [bookB, markB, inB, Bool.and_eq_true, decide_eq_true_eq]; omega, SF.out.more (by omega)⟩
end Go.Proofs.Ytimojjkblofhnaa
