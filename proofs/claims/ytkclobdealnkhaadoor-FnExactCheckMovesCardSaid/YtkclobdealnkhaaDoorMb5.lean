/- A block move by the program: what cannot be made panics, and the deferred closure turns that into a code: contracts. Condition: lists no longer than the law tests. -/
import Derived.Test.YtkclobdealnkhaaDoorMb4
import Derived.Recover
import Derived.Defers
import Derived.Stop.Asserts
namespace Go.Proofs.YtkclobdealnkhaaDoor
set_option linter.unusedSimpArgs false
set_option linter.unusedVariables false
set_option maxRecDepth 100000
open Go.RowKit Go.Sort

theorem canK_no {n : Nat} {F C T : Int} (h : canK n F C T = false) : F < 0 ∨ (¬ F < 0 ∧ C < 1) ∨ (¬ F < 0 ∧ ¬ C < 1 ∧ (n : Int) < F + C) ∨ (¬ F < 0 ∧ ¬ C < 1 ∧ ¬ (n : Int) < F + C ∧ inB T 0 ((n : Int) - C) = false) := by
  unfold canK at h
  simp only [decide_eq_false_iff_not] at h
  unfold inB
  simp only [decide_eq_false_iff_not]
  omega
set_option maxHeartbeats 8000000 in
theorem withBlock_bad (A : Option Addr) (n cc : Nat) (F C T : Int) (w : World) (hn : n ≤ 60) (hk : canK n F C T = false) (hF : -32768 ≤ F ∧ F ≤ 32767) (hC : -32768 ≤ C ∧ C ≤ 32767) (hT : -32768 ≤ T ∧ T ≤ 32767) :
    Calls Tryd.prog 37 #[.slice A n cc, .agg #[.int .i16 F, .int .i16 C, .int .i16 T]] w fun e w' => e = .panicked [{ v := .iface 101 (.agg #[.int .i16 F, .int .i16 C, .int .i16 T]), recovered := false }] ∧ Below w.heap.size w w' := by
  have G0 := Lib.hid (show Below w.heap.size w (w.alloc (.cells #[.int .i16 F, .int .i16 C, .int .i16 T] 71)) from (Below.refl _ _).alloc (Nat.le_refl _) _)
  have X0 := Lib.hid (heap_alloc_new w (.cells #[.int .i16 F, .int .i16 C, .int .i16 T] 71))
  obtain ⟨F1, F2⟩ := hF
  obtain ⟨C1, C2⟩ := hC
  obtain ⟨T1, T2⟩ := hT
  have hw1 : IntKind.i64.wrap ((n : Int) - C) = (n : Int) - C := IntWalk.i64_in _ (by omega)
  have hw2 : wrap64 ((n : Int) - C) = (n : Int) - C := IntWalk.wrap64_in _ (by omega)
  have hw3 : IntKind.i64.wrap (F + C) = F + C := IntWalk.i64_in _ (by omega)
  have hw4 : wrap64 (F + C) = F + C := IntWalk.wrap64_in _ (by omega)
  have LW := Lib.hid (fun W => withinG_any T 0 ((n : Int) - C) W)
  go_enter Tryd.func37, Tryd.ntmps37
  go_upto_region 1 with (fail)
  generalize World.alloc w _ = W1 at G0 X0 ⊢
  have m0 : W1.cell? ⟨w.heap.size, 0, none⟩ = some (.int .i16 F) := cell_of_row W1 _ 0 _ _ _ X0.out
  have m1 : W1.cell? ⟨w.heap.size, 1, none⟩ = some (.int .i16 C) := cell_of_row W1 _ 1 _ _ _ X0.out
  have m2 : W1.cell? ⟨w.heap.size, 2, none⟩ = some (.int .i16 T) := cell_of_row W1 _ 2 _ _ _ X0.out
  go_wp2
  go_quiet (fail)
  generalize hW : World.drewN _ _ = W2
  have G2 := Lib.hid (show Below w.heap.size w W2 by rw [← hW]; exact below_drewN G0.out _)
  have m0 : W2.cell? ⟨w.heap.size, 0, none⟩ = some (.int .i16 F) := by rw [← hW]; exact m0
  have m1 : W2.cell? ⟨w.heap.size, 1, none⟩ = some (.int .i16 C) := by rw [← hW]; exact m1
  have m2 : W2.cell? ⟨w.heap.size, 2, none⟩ = some (.int .i16 T) := by rw [← hW]; exact m2
  clear hW
  rcases canK_no hk with h | ⟨h1, h2⟩ | ⟨h1, h2, h3⟩ | ⟨h1, h2, h3, h4⟩
  · clear hk
    go_wp2
    exact ⟨rfl, rfl, G2.out⟩
  · clear hk
    go_wp2
    exact ⟨rfl, rfl, G2.out⟩
  · clear hk
    go_wp2
    exact ⟨rfl, rfl, G2.out⟩
  · clear hk
    rw [h4] at LW
    go_wp2_with (go_at_call 63; refine (LW.out _).mono ?_; rintro e w' ⟨rfl, rfl⟩)
    exact ⟨rfl, rfl, G2.out⟩
theorem ta_refusal (pv : Value) (W : World) : (Instr.typeAssert (.iface 101 pv) 20 157 true).run Tryd.prog W = .ok (.tuple #[.iface 101 pv, .bool true]) W := run_typeAssert_hasB Tryd.underlying157 (by kernel_rfl) pv 20 W
set_option maxHeartbeats 4000000 in
theorem mbCatch (p q : Nat) (F C T : Int) (older : List PanicEntry) (w : World) (x y : Value) (hp : w.cell? ⟨p, 0, none⟩ = some x) (hq : w.cell? ⟨q, 0, none⟩ = some y) (fp : w.frozen? ⟨p, 0, none⟩ = false) (fq : w.frozen? ⟨q, 0, none⟩ = false) (lp : p < w.heap.size) (lq : q < w.heap.size) (hne : ¬ p = q) :
    CallsD Tryd.prog 101 #[.pointer (some ⟨p, 0, none⟩), .pointer (some ⟨q, 0, none⟩)] (.panicking ({ v := .iface 101 (.agg #[.int .i16 F, .int .i16 C, .int .i16 T]), recovered := false } :: older)) w fun e u' w' =>
      e = .returned (.tuple #[]) ∧ u' = .panicking ({ v := .iface 101 (.agg #[.int .i16 F, .int .i16 C, .int .i16 T]), recovered := true } :: older) ∧ w' = ((w.setCell ⟨p, 0, none⟩ (.slice none 0 0)).setCell ⟨q, 0, none⟩ (.int .i64 2)).alloc (.cells #[.int .i16 F, .int .i16 C, .int .i16 T] 101) := by
  have TA := fun pv W => ta_refusal pv W
  have bb := bcell ((Below.refl w.heap.size w).alloc (Nat.le_refl _) (.cells #[.int .i16 F, .int .i16 C, .int .i16 T] 101))
  have hp2 : (w.alloc (.cells #[.int .i16 F, .int .i16 C, .int .i16 T] 101)).cell? ⟨p, 0, none⟩ = some x := (bb.1 p 0 lp).trans hp
  have hq2 : (w.alloc (.cells #[.int .i16 F, .int .i16 C, .int .i16 T] 101)).cell? ⟨q, 0, none⟩ = some y := (bb.1 q 0 lq).trans hq
  have fp2 : (w.alloc (.cells #[.int .i16 F, .int .i16 C, .int .i16 T] 101)).frozen? ⟨p, 0, none⟩ = false := (bb.2 p 0 lp).trans fp
  have fq2 : (w.alloc (.cells #[.int .i16 F, .int .i16 C, .int .i16 T] 101)).frozen? ⟨q, 0, none⟩ = false := (bb.2 q 0 lq).trans fq
  clear bb
  refine callsD_of_wpS Tryd.func101 rfl fun c₀ cs hu => ?_
  apply wpS_seq
  apply wpS_region
  simp [wpOpsS, go_sem, recoverD, hu, Tryd.ntmps101, Exit.thenS, TA]
  simp only [Array.replicate_succ, Array.replicate_zero, List.push_toArray, List.append_toArray, List.nil_append, List.cons_append, List.setIfInBounds_toArray, List.set_cons_succ, List.set_cons_zero]
  refine wpS_of_wp ?_
  go_wp2
  simp [bodyPostS, results, Tryd.results101]
set_option maxHeartbeats 4000000 in
theorem mbIdle (p q : Nat) (w : World) :
    CallsD Tryd.prog 101 #[.pointer (some ⟨p, 0, none⟩), .pointer (some ⟨q, 0, none⟩)] .returning w fun e u' w' => e = .returned (.tuple #[]) ∧ u' = .returning ∧ w' = w := by
  refine callsD_of_wpS Tryd.func101 rfl fun c₀ cs hu => ?_
  apply wpS_seq
  apply wpS_region
  simp [wpOpsS, go_sem, recoverD, hu, Tryd.ntmps101, Exit.thenS]
  simp only [Array.replicate_succ, Array.replicate_zero, List.push_toArray, List.append_toArray, List.nil_append, List.cons_append, List.setIfInBounds_toArray, List.set_cons_succ, List.set_cons_zero]
  refine wpS_of_wp ?_
  go_wp2
  cases c₀
  simp_all [bodyPostS, results, Tryd.results101]
theorem twoSet {w : World} {p q : Nat} {x y : Value} {t1 t2 : TypeId} (hp : w.heap[p]? = some (.cells #[x] t1 (0, 0))) (hq : w.heap[q]? = some (.cells #[y] t2 (0, 0))) (hne : p ≠ q) (u k : Value) :
    ((w.setCell ⟨p, 0, none⟩ u).setCell ⟨q, 0, none⟩ k).heap[p]? = some (.cells #[u] t1 (0, 0)) ∧ ((w.setCell ⟨p, 0, none⟩ u).setCell ⟨q, 0, none⟩ k).heap[q]? = some (.cells #[k] t2 (0, 0)) := by
  have h1 := heap_setCell_same _ _ 0 _ _ u hp
  have h2 := (Below.heap_setCell w ⟨p, 0, none⟩ u q (by simpa using fun e : q = p => hne e.symm)).trans hq
  have h3 := heap_setCell_same _ _ 0 _ _ k h2
  have h4 := (Below.heap_setCell (w.setCell ⟨p, 0, none⟩ u) ⟨q, 0, none⟩ k p (by simpa using hne)).trans h1
  exact ⟨by simpa using h4, by simpa using h3⟩
set_option maxHeartbeats 8000000 in
theorem moveBlock_any (v : Value) (xs : List Bk) (F C T : Int) (wf : ∀ b ∈ xs, b.Wf) (w : World) (hs : SliceOf w v xs) (hcap : ∀ A n c, v = .slice A n c → xs.length ≤ c) (hn : xs.length ≤ 1048576) (hF : -32768 ≤ F ∧ F ≤ 32767) (hC : -32768 ≤ C ∧ C ≤ 32767) (hT : -32768 ≤ T ∧ T ≤ 32767) :
    Calls Tryd.prog 88 #[v, .agg #[.int .i16 F, .int .i16 C, .int .i16 T]] w fun e w' => ∃ u, e = .returned (.tuple #[u, .int .i64 (blC xs F C T)]) ∧ ResB w' w.heap.size u (blR xs F C T) ∧ Below w.heap.size w w' := by
  have G0 := Lib.hid (show Below w.heap.size w (((w.alloc (.cells #[.int .i16 F, .int .i16 C, .int .i16 T] 71)).alloc (.cells #[.slice none 0 0] 29)).alloc (.cells #[.int .i64 0] 2)) by go_grown)
  have HS := Lib.hid (hs.below G0.out)
  have ML : xs.length ≤ maxLen := by unfold maxLen; omega
  have hmf : ∀ (fn : Fn) (first cap : Array Value) (w : World), (Instr.makeFunc fn first cap).run Tryd.prog w = .ok (.func fn first cap) w := fun _ _ _ _ => rfl
  have BC := Lib.hid (bl_cases xs F C T)
  go_enter_defers Tryd.func88, Tryd.ntmps88
  go_upto_region 1 with (fail)
  generalize hW : World.alloc _ _ = W1 at G0 HS ⊢
  have XB := Lib.hid (show W1.heap[w.heap.size]? = some (.cells #[.int .i16 F, .int .i16 C, .int .i16 T] 71 (0, 0)) by
    rw [← hW]
    exact (Below.heap_alloc _ _ _ (by simp; omega)).trans ((Below.heap_alloc _ _ _ (by simp)).trans (heap_alloc_new w _)))
  have XR := Lib.hid (show W1.heap[w.heap.size + 1]? = some (.cells #[.slice none 0 0] 29 (0, 0)) by
    rw [← hW]
    refine (Below.heap_alloc _ _ _ (by simp)).trans ?_
    have := heap_alloc_new (w.alloc (.cells #[.int .i16 F, .int .i16 C, .int .i16 T] 71)) (.cells #[.slice none 0 0] 29)
    simpa using this)
  have XC := Lib.hid (show W1.heap[w.heap.size + 1 + 1]? = some (.cells #[.int .i64 0] 2 (0, 0)) by
    rw [← hW]
    have := heap_alloc_new ((w.alloc (.cells #[.int .i16 F, .int .i16 C, .int .i16 T] 71)).alloc (.cells #[.slice none 0 0] 29)) (.cells #[.int .i64 0] 2)
    simpa using this)
  clear hW
  go_wp2_with fail
  refine (validBooks_any v xs _ HS.out ML).mono ?_
  rintro e w1 ⟨rfl, g1⟩
  have LB := (Array.getElem?_eq_some_iff.1 XB.out).1
  have LR := (Array.getElem?_eq_some_iff.1 XR.out).1
  have LC := (Array.getElem?_eq_some_iff.1 XC.out).1
  have YB := Lib.hid ((g1.block _ LB).trans XB.out)
  have YR := Lib.hid ((g1.block _ LR).trans XR.out)
  have YC := Lib.hid ((g1.block _ LC).trans XC.out)
  have G1 := Lib.hid (bnext G0.out g1)
  have S1 := Lib.hid (HS.out.below g1)
  have zz := g1.size
  have b0 : w1.cell? ⟨w.heap.size, 0, none⟩ = some (.int .i16 F) := cell_of_row w1 _ 0 _ _ _ YB.out
  have b1 : w1.cell? ⟨w.heap.size, 1, none⟩ = some (.int .i16 C) := cell_of_row w1 _ 1 _ _ _ YB.out
  have b2 : w1.cell? ⟨w.heap.size, 2, none⟩ = some (.int .i16 T) := cell_of_row w1 _ 2 _ _ _ YB.out
  have r0 : w1.cell? ⟨w.heap.size + 1, 0, none⟩ = some (.slice none 0 0) := cell_of_row w1 _ 0 _ _ _ YR.out
  have c0 : w1.cell? ⟨w.heap.size + 1 + 1, 0, none⟩ = some (.int .i64 0) := cell_of_row w1 _ 0 _ _ _ YC.out
  have fr := frozen_of_row w1 _ 0 _ _ YR.out
  have fc := frozen_of_row w1 _ 0 _ _ YC.out
  clear XB XR XC HS G0 g1
  rcases BC.out with ⟨h1, h2, h3⟩ | ⟨h1, h4, h2, h3⟩ | ⟨h1, f, c, t, rfl, rfl, rfl, k1, k2, k3, h2, h3⟩
  · have E := Lib.hid h2
    have E2 := Lib.hid h3
    rw [h1]
    clear h2 h3 BC
    go_wp2
    obtain ⟨H1, H2⟩ := twoSet YR.out YC.out (by omega) (.slice none 0 0) (.int .i64 1)
    have G9 := Lib.hid (show Below w.heap.size w ((w1.setCell ⟨w.heap.size + 1, 0, none⟩ (.slice none 0 0)).setCell ⟨w.heap.size + 1 + 1, 0, none⟩ (.int .i64 1)) from (G1.out.setCell (p := ⟨w.heap.size + 1, 0, none⟩) (by simp) _).setCell (p := ⟨w.heap.size + 1 + 1, 0, none⟩) (by simp; omega) _)
    generalize World.setCell _ _ _ = W9 at H1 H2 G9 ⊢
    have q0 : W9.cell? ⟨w.heap.size + 1, 0, none⟩ = some (.slice none 0 0) := cell_of_row W9 _ 0 _ _ _ H1
    have q1 : W9.cell? ⟨w.heap.size + 1 + 1, 0, none⟩ = some (.int .i64 1) := cell_of_row W9 _ 0 _ _ _ H2
    refine ⟨.tuple #[.slice none 0 0, .int .i64 1], by simp [results, Tryd.results88, go_sem, q0, q1], _, by rw [E.out], by rw [E2.out]; exact .inl ⟨rfl, rfl⟩, G9.out⟩
  · have E := Lib.hid h2
    have E2 := Lib.hid h3
    rw [h1]
    clear h2 h3 BC
    obtain ⟨A, cc, rfl⟩ : ∃ A cc, v = .slice A xs.length cc := by
      obtain ⟨A, cc, e, -⟩ := S1.out
      exact ⟨A, cc, e⟩
    have WB := Lib.hid (fun W => withBlock_bad A xs.length cc F C T W (okB_60 h1) h4 hF hC hT)
    go_wp2_with fail
    refine (WB.out _).mono ?_
    rintro e w2 ⟨rfl, g2⟩
    have ZR := Lib.hid ((g2.block _ (Nat.lt_of_lt_of_le LR zz)).trans YR.out)
    have ZC := Lib.hid ((g2.block _ (Nat.lt_of_lt_of_le LC zz)).trans YC.out)
    have G2 := Lib.hid (bnext G1.out g2)
    have z2 := g2.size
    refine leaves_cons (f := 101) (args := #[.pointer (some ⟨w.heap.size + 1, 0, none⟩), .pointer (some ⟨w.heap.size + 1 + 1, 0, none⟩)]) (by simp) (by simp [go_sem]) ?_
    refine (mbCatch (w.heap.size + 1) (w.heap.size + 1 + 1) F C T [] w2 _ _ (cell_of_row w2 _ 0 _ _ _ ZR.out) (cell_of_row w2 _ 0 _ _ _ ZC.out) (frozen_of_row w2 _ 0 _ _ ZR.out) (frozen_of_row w2 _ 0 _ _ ZC.out) (by omega) (by omega) (by omega)).mono ?_
    rintro e u' w'' ⟨rfl, rfl, rfl⟩
    obtain ⟨H1, H2⟩ := twoSet ZR.out ZC.out (by omega) (.slice none 0 0) (.int .i64 2)
    have G9 := Lib.hid (show Below w.heap.size w (((w2.setCell ⟨w.heap.size + 1, 0, none⟩ (.slice none 0 0)).setCell ⟨w.heap.size + 1 + 1, 0, none⟩ (.int .i64 2)).alloc (.cells #[.int .i16 F, .int .i16 C, .int .i16 T] 101)) from ((G2.out.setCell (p := ⟨w.heap.size + 1, 0, none⟩) (by simp) _).setCell (p := ⟨w.heap.size + 1 + 1, 0, none⟩) (by simp; omega) _).alloc (by have := G2.out.size; simpa [World.setCell] using this) _)
    have H3 := (Below.heap_alloc _ (.cells #[.int .i16 F, .int .i16 C, .int .i16 T] 101) _ (Array.getElem?_eq_some_iff.1 H1).1).trans H1
    have H4 := (Below.heap_alloc _ (.cells #[.int .i16 F, .int .i16 C, .int .i16 T] 101) _ (Array.getElem?_eq_some_iff.1 H2).1).trans H2
    clear H1 H2
    generalize World.alloc _ _ = W9 at H3 H4 G9 ⊢
    have q0 : W9.cell? ⟨w.heap.size + 1, 0, none⟩ = some (.slice none 0 0) := cell_of_row W9 _ 0 _ _ _ H3
    have q1 : W9.cell? ⟨w.heap.size + 1 + 1, 0, none⟩ = some (.int .i64 2) := cell_of_row W9 _ 0 _ _ _ H4
    refine ⟨.tuple #[.slice none 0 0, .int .i64 2], by simp [results, Tryd.results88, go_sem, q0, q1], _, by rw [E.out], by rw [E2.out]; exact .inl ⟨rfl, rfl⟩, G9.out⟩
  · have E := Lib.hid h2
    have E2 := Lib.hid h3
    rw [h1]
    clear h2 h3 BC
    obtain ⟨A, cc, rfl⟩ : ∃ A cc, v = .slice A xs.length cc := by
      obtain ⟨A, cc, e, -⟩ := S1.out
      exact ⟨A, cc, e⟩
    have hcc := hcap _ _ _ rfl
    obtain ⟨g, o, rfl, hg, hat⟩ : ∃ g o, A = some ⟨g, o, none⟩ ∧ g < w1.heap.size ∧ BooksAt w1 g o xs := SliceOf.at_slice S1.out (by omega)
    have WB := Lib.hid (withBlock_any g o cc xs f c t w1 hat hg hcc (okB_60 h1) k1 k2 k3)
    clear hat hg
    go_wp2_with fail
    refine WB.out.mono ?_
    rintro e w2 ⟨u, rfl, hu, g2⟩
    have ZR := Lib.hid ((g2.block _ (Nat.lt_of_lt_of_le LR zz)).trans YR.out)
    have ZC := Lib.hid ((g2.block _ (Nat.lt_of_lt_of_le LC zz)).trans YC.out)
    have G2 := Lib.hid (bnext G1.out g2)
    have HU := Lib.hid (hu)
    have LU := Lib.hid (hu.lt)
    have z2 := g2.size
    have r2 : w2.cell? ⟨w.heap.size + 1, 0, none⟩ = some (.slice none 0 0) := cell_of_row w2 _ 0 _ _ _ ZR.out
    have c2 : w2.cell? ⟨w.heap.size + 1 + 1, 0, none⟩ = some (.int .i64 0) := cell_of_row w2 _ 0 _ _ _ ZC.out
    have fr2 := frozen_of_row w2 _ 0 _ _ ZR.out
    have fc2 := frozen_of_row w2 _ 0 _ _ ZC.out
    clear b0 b1 b2 r0 c0 fr fc hu g2
    obtain ⟨A5, n5, rfl⟩ : ∃ A5 n5, u = .slice A5 (carL xs f c t).length n5 := by
      obtain ⟨A5, n5, e, -⟩ := HU.out.slice
      exact ⟨A5, n5, e⟩
    go_wp2
    have K1 := only_set2 (World.grownBy.refl w2 (some (w.heap.size + 1))) 0 (.slice A5 (carL xs f c t).length n5)
    have U1 := HU.out.other K1 (fun k hk e => by have h := (LU.out k hk).1; have e : k = w.heap.size + 1 := Option.some.inj e; omega)
    have K2 := only_set2 (World.grownBy.refl (w2.setCell ⟨w.heap.size + 1, 0, none⟩ (.slice A5 (carL xs f c t).length n5)) (some (w.heap.size + 1 + 1))) 0 (.int .i64 0)
    have U2 := Lib.hid ((U1.other K2 (fun k hk e => by have h := (LU.out k hk).1; have e : k = w.heap.size + 1 + 1 := Option.some.inj e; omega)).mono G1.out.size)
    obtain ⟨H1, H2⟩ := twoSet ZR.out ZC.out (by omega) (.slice A5 (carL xs f c t).length n5) (.int .i64 0)
    have G9 := Lib.hid (show Below w.heap.size w ((w2.setCell ⟨w.heap.size + 1, 0, none⟩ (.slice A5 (carL xs f c t).length n5)).setCell ⟨w.heap.size + 1 + 1, 0, none⟩ (.int .i64 0)) from (G2.out.setCell (p := ⟨w.heap.size + 1, 0, none⟩) (by simp) _).setCell (p := ⟨w.heap.size + 1 + 1, 0, none⟩) (by simp; omega) _)
    clear K1 U1 K2 HU
    generalize World.setCell _ _ _ = W9 at H1 H2 G9 U2 ⊢
    have q0 : W9.cell? ⟨w.heap.size + 1, 0, none⟩ = some (.slice A5 (carL xs f c t).length n5) := cell_of_row W9 _ 0 _ _ _ H1
    have q1 : W9.cell? ⟨w.heap.size + 1 + 1, 0, none⟩ = some (.int .i64 0) := cell_of_row W9 _ 0 _ _ _ H2
    refine leaves_cons (f := 101) (args := #[.pointer (some ⟨w.heap.size + 1, 0, none⟩), .pointer (some ⟨w.heap.size + 1 + 1, 0, none⟩)]) (by simp) (by simp [go_sem]) ?_
    refine (mbIdle (w.heap.size + 1) (w.heap.size + 1 + 1) W9).mono ?_
    rintro e u' w'' ⟨rfl, rfl, rfl⟩
    refine ⟨.tuple #[.slice A5 (carL xs f c t).length n5, .int .i64 0], by simp [results, Tryd.results88, go_sem, q0, q1], _, by rw [E.out], by rw [E2.out]; exact U2.out, G9.out⟩
set_option maxHeartbeats 4000000 in
theorem moveBook_any (v : Value) (xs : List Bk) (m : Mv) (wm : m.Wf) (wf : ∀ b ∈ xs, b.Wf) (w : World) (hs : SliceOf w v xs) (hcap : ∀ A n c, v = .slice A n c → xs.length ≤ c) (hn : xs.length ≤ 1048576) :
    Calls Tryd.prog 71 #[v, .agg #[.int .i16 m.f, .int .i16 m.t]] w fun e w' => ∃ u, e = .returned (.tuple #[u, .int .i64 (blC xs m.f 1 m.t)]) ∧ ResB w' w.heap.size u (blR xs m.f 1 m.t) ∧ Below w.heap.size w w' := by
  have G0 := Lib.hid (show Below w.heap.size w (w.alloc (.cells #[.int .i16 m.f, .int .i16 m.t] 26)) from (Below.refl _ _).alloc (Nat.le_refl _) _)
  have HS := Lib.hid (hs.below G0.out)
  have KK := Lib.hid (fun W h => moveBlock_any v xs m.f 1 m.t wf W h hcap hn wm.f (by decide) wm.t)
  clear hs wf hcap
  go_enter Tryd.func71, Tryd.ntmps71
  go_wp2_with fail
  generalize World.alloc w _ = W1 at G0 HS ⊢
  refine (KK.out W1 HS.out).mono ?_
  rintro e w2 ⟨u, rfl, hu, g2⟩
  have HU := Lib.hid (hu.mono G0.out.size)
  clear hu
  go_wp2
  go_ret2
  exact ⟨u, rfl, HU.out, bnext G0.out g2⟩
end Go.Proofs.YtkclobdealnkhaaDoor
