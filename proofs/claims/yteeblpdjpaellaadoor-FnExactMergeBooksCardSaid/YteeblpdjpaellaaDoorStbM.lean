/- A list of books put in order by the program: contracts. Condition: at most 1048576 books, whose numbers lie within their kinds. -/
import Derived.Test.YteeblpdjpaellaaDoorStbL
import Derived.Test.YteeblpdjpaellaaDoorStbP
import Derived.Test.YteeblpdjpaellaaDoorFields
import Derived.Test.YteeblpdjpaellaaDoorFlB
import Derived.Laws.AppendOwnNone
import Derived.RegionTactic
import Derived.BigRegion
import Derived.Deep.Cut
namespace Go.Proofs.YteeblpdjpaellaaDoor
set_option linter.unusedSimpArgs false
set_option linter.unusedVariables false
set_option maxRecDepth 100000
open Go.RowKit Stab

theorem ltC_ltB (zs : List Int) : ltC (cmpL zs) = ltB zs := rfl
theorem flatB_cells {w : World} {g o : Nat} {xs : List Bk} (h : BooksAt w g o xs) : ∀ j u, (flatB xs)[j]? = some u → w.cell? ((⟨g, o, none⟩ : Addr).add j) = some u := fun j u hu => by
  rw [Addr.add_lit]
  exact flat_cells h j u hu
theorem SliceOf.at_some2 {w : World} {b o c : Nat} {xs : List Bk} (h : SliceOf w (.slice (some ⟨b, o, none⟩) xs.length c) xs) (h0 : 0 < xs.length) : b < w.heap.size ∧ BooksAt w b o xs := by
  obtain ⟨A', c', e', hh⟩ := h
  obtain ⟨g', o', rfl, hg', hat⟩ := hh h0
  injection e' with e1 e2 e3
  injection e1 with e1
  injection e1 with e1 e4 e5
  subst e1 e4
  exact ⟨hg', hat⟩

set_option maxHeartbeats 2000000 in
theorem inOrderB1_any (bx : Nat) (a b : Bk) (wa : a.Wf) (wb : b.Wf) (w : World) (hx : w.cell? ⟨bx, 0, none⟩ = some (.func (.func 49) #[] #[])) (zx : bx < w.heap.size) :
    Calls Tryd.prog 68 #[.agg #[.int .i16 a.c, .int .u8 a.m0, .int .u8 a.m1, .int .u8 a.m2, .int .i16 a.v, .int .i16 a.wi, .int .i16 a.hi, .int .i16 a.we], .agg #[.int .i16 b.c, .int .u8 b.m0, .int .u8 b.m1, .int .u8 b.m2, .int .i16 b.v, .int .i16 b.wi, .int .i16 b.hi, .int .i16 b.we], .pointer (some ⟨bx, 0, none⟩)] w fun e w' => e = .returned (.int .i64 (cmpL [1, 2, 3] a b)) ∧ Below w.heap.size w w' := by
  have CC := Lib.hid (fun (w2 : World) (h : Below w.heap.size w w2) => compareBooks_any a b wa wb w2)
  have H2 : w.heap.size < (w.alloc (.cells #[.int .i16 a.c, .int .u8 a.m0, .int .u8 a.m1, .int .u8 a.m2, .int .i16 a.v, .int .i16 a.wi, .int .i16 a.hi, .int .i16 a.we] 53)).heap.size := by simp
  have G2 := Lib.hid (show Below w.heap.size w ((w.alloc (.cells #[.int .i16 a.c, .int .u8 a.m0, .int .u8 a.m1, .int .u8 a.m2, .int .i16 a.v, .int .i16 a.wi, .int .i16 a.hi, .int .i16 a.we] 53)).alloc (.cells #[.int .i16 b.c, .int .u8 b.m0, .int .u8 b.m1, .int .u8 b.m2, .int .i16 b.v, .int .i16 b.wi, .int .i16 b.hi, .int .i16 b.we] 53)) from (((Below.refl w.heap.size w).alloc (Nat.le_refl _) _).alloc (by simp) _))
  have XA := Lib.hid (show ((w.alloc (.cells #[.int .i16 a.c, .int .u8 a.m0, .int .u8 a.m1, .int .u8 a.m2, .int .i16 a.v, .int .i16 a.wi, .int .i16 a.hi, .int .i16 a.we] 53)).alloc (.cells #[.int .i16 b.c, .int .u8 b.m0, .int .u8 b.m1, .int .u8 b.m2, .int .i16 b.v, .int .i16 b.wi, .int .i16 b.hi, .int .i16 b.we] 53)).heap[w.heap.size]? = some (.cells #[.int .i16 a.c, .int .u8 a.m0, .int .u8 a.m1, .int .u8 a.m2, .int .i16 a.v, .int .i16 a.wi, .int .i16 a.hi, .int .i16 a.we] 53 (0, 0)) from (Below.heap_alloc _ _ _ H2).trans (heap_alloc_new w _))
  have XB := Lib.hid (show ((w.alloc (.cells #[.int .i16 a.c, .int .u8 a.m0, .int .u8 a.m1, .int .u8 a.m2, .int .i16 a.v, .int .i16 a.wi, .int .i16 a.hi, .int .i16 a.we] 53)).alloc (.cells #[.int .i16 b.c, .int .u8 b.m0, .int .u8 b.m1, .int .u8 b.m2, .int .i16 b.v, .int .i16 b.wi, .int .i16 b.hi, .int .i16 b.we] 53)).heap[w.heap.size + 1]? = some (.cells #[.int .i16 b.c, .int .u8 b.m0, .int .u8 b.m1, .int .u8 b.m2, .int .i16 b.v, .int .i16 b.wi, .int .i16 b.hi, .int .i16 b.we] 53 (0, 0)) from by have := heap_alloc_new (w.alloc (.cells #[.int .i16 a.c, .int .u8 a.m0, .int .u8 a.m1, .int .u8 a.m2, .int .i16 a.v, .int .i16 a.wi, .int .i16 a.hi, .int .i16 a.we] 53)) (.cells #[.int .i16 b.c, .int .u8 b.m0, .int .u8 b.m1, .int .u8 b.m2, .int .i16 b.v, .int .i16 b.wi, .int .i16 b.hi, .int .i16 b.we] 53); rwa [show (w.alloc (.cells #[.int .i16 a.c, .int .u8 a.m0, .int .u8 a.m1, .int .u8 a.m2, .int .i16 a.v, .int .i16 a.wi, .int .i16 a.hi, .int .i16 a.we] 53)).heap.size = w.heap.size + 1 by simp] at this)
  clear H2
  have HX := Lib.hid hx
  clear wa wb hx
  go_enter Tryd.func68, Tryd.ntmps68
  go_upto_region 1 with (fail)
  generalize World.alloc _ _ = W2 at G2 XA XB ⊢
  have p0 : W2.cell? ⟨w.heap.size, 0, none⟩ = some (.int .i16 a.c) := cell_of_row W2 _ 0 _ _ _ XA.out
  have p1 : W2.cell? ⟨w.heap.size, 1, none⟩ = some (.int .u8 a.m0) := cell_of_row W2 _ 1 _ _ _ XA.out
  have p2 : W2.cell? ⟨w.heap.size, 2, none⟩ = some (.int .u8 a.m1) := cell_of_row W2 _ 2 _ _ _ XA.out
  have p3 : W2.cell? ⟨w.heap.size, 3, none⟩ = some (.int .u8 a.m2) := cell_of_row W2 _ 3 _ _ _ XA.out
  have p4 : W2.cell? ⟨w.heap.size, 4, none⟩ = some (.int .i16 a.v) := cell_of_row W2 _ 4 _ _ _ XA.out
  have p5 : W2.cell? ⟨w.heap.size, 5, none⟩ = some (.int .i16 a.wi) := cell_of_row W2 _ 5 _ _ _ XA.out
  have p6 : W2.cell? ⟨w.heap.size, 6, none⟩ = some (.int .i16 a.hi) := cell_of_row W2 _ 6 _ _ _ XA.out
  have p7 : W2.cell? ⟨w.heap.size, 7, none⟩ = some (.int .i16 a.we) := cell_of_row W2 _ 7 _ _ _ XA.out
  have q0 : W2.cell? ⟨w.heap.size + 1, 0, none⟩ = some (.int .i16 b.c) := cell_of_row W2 _ 0 _ _ _ XB.out
  have q1 : W2.cell? ⟨w.heap.size + 1, 1, none⟩ = some (.int .u8 b.m0) := cell_of_row W2 _ 1 _ _ _ XB.out
  have q2 : W2.cell? ⟨w.heap.size + 1, 2, none⟩ = some (.int .u8 b.m1) := cell_of_row W2 _ 2 _ _ _ XB.out
  have q3 : W2.cell? ⟨w.heap.size + 1, 3, none⟩ = some (.int .u8 b.m2) := cell_of_row W2 _ 3 _ _ _ XB.out
  have q4 : W2.cell? ⟨w.heap.size + 1, 4, none⟩ = some (.int .i16 b.v) := cell_of_row W2 _ 4 _ _ _ XB.out
  have q5 : W2.cell? ⟨w.heap.size + 1, 5, none⟩ = some (.int .i16 b.wi) := cell_of_row W2 _ 5 _ _ _ XB.out
  have q6 : W2.cell? ⟨w.heap.size + 1, 6, none⟩ = some (.int .i16 b.hi) := cell_of_row W2 _ 6 _ _ _ XB.out
  have q7 : W2.cell? ⟨w.heap.size + 1, 7, none⟩ = some (.int .i16 b.we) := cell_of_row W2 _ 7 _ _ _ XB.out
  have hx2 := (G2.out.cell (p := ⟨bx, 0, none⟩) zx).trans HX.out
  go_wp2_with (go_at_call 49; refine (CC.out _ G2.out).mono ?_; rintro e w1 ⟨rfl, g1⟩)
  go_ret
  exact ⟨rfl, bnext G2.out g1⟩

theorem cmpB_of (bx g : Nat) (w : World) (hx : w.cell? ⟨bx, 0, none⟩ = some (.func (.func 49) #[] #[])) (zx : bx < w.heap.size) (n0 : bx ≠ g) : CmpI g bx w Bk.Wf (cmpL [1, 2, 3]) := by
  intro W hW x y hx1 hy1
  have ne : ∀ {k : Nat}, k ≠ g → some k ≠ some g := fun h e => h (by injection e)
  have keep : ∀ {k o : Nat} {u : Value}, k < w.heap.size → k ≠ g → w.cell? ⟨k, o, none⟩ = some u → W.cell? ⟨k, o, none⟩ = some u := fun hk hne h =>
    (World.cell?_of_block (a := ⟨_, _, none⟩) (hW.block _ hk (ne hne))).trans h
  exact inOrderB1_any bx x y hx1 hy1 W (keep zx n0 hx) (Nat.lt_of_lt_of_le zx hW.size)

set_option maxHeartbeats 4000000 in
theorem inOrderB_any (ga oa c : Nat) (xs : List Bk) (wf : ∀ b ∈ xs, b.Wf) (w : World) (h0 : 0 < xs.length) (hn : xs.length ≤ 1048576) (hs : SliceOf w (.slice (some ⟨ga, oa, none⟩) xs.length c) xs) :
    Calls Tryd.prog 47 #[.slice (some ⟨ga, oa, none⟩) xs.length c, .func (.func 49) #[] #[]] w fun e w' => ∃ u, e = .returned u ∧ ResB w' w.heap.size u (stableF (ltB [1, 2, 3]) xs) ∧ Below w.heap.size w w' := by
  obtain ⟨i0, hi0, hz0, hz1, hz2⟩ := info_parts infoBook
  obtain ⟨FT, hFT⟩ : ∃ o : Obj, o = .cells #[.func (.func 49) #[] #[]] 87 := ⟨_, rfl⟩
  have G1 := Lib.hid (show Below w.heap.size w (w.alloc FT) from (Below.refl _ _).alloc (Nat.le_refl _) _)
  have HS1 := Lib.hid (hs.below G1.out)
  have HX := Lib.hid (show (w.alloc FT).cell? ⟨w.heap.size, 0, none⟩ = some (.func (.func 49) #[] #[]) by rw [hFT]; exact cell_of_row _ _ 0 _ _ _ (heap_alloc_new w _))
  have Z := Lib.hid (show (w.alloc FT).heap.size = w.heap.size + 1 by simp)
  have OW := Lib.hid (show (w.alloc FT).ownsRow (w.heap.size + 1) 53 8 (.slice none 0 0) 0 [] from ⟨rfl, .inl ⟨rfl, rfl⟩⟩)
  have WF := Lib.hid wf
  clear hs wf 
  go_enter Tryd.func47, Tryd.ntmps47
  go_wp2_with (at_builtin; refine wpList_append_own _ rfl (.const (.slice none 0 0)) (.tmp 6) _ rfl (w.heap.size + 1) 53 i0 (.agg #[.int .i16 0, .int .u8 0, .int .u8 0, .int .u8 0, .int .i16 0, .int .i16 0, .int .i16 0, .int .i16 0]) 8 14 Tryd.underlying27 hi0 hz0 hz1 hz2 rfl (by decide) _ _ _ rfl (by rw [← hFT]; exact OW.out) ⟨ga, oa, none⟩ xs.length c (flatB xs) rfl (flatB_length xs) ?c1 (flatB_one xs) ?c3 ?c4 ?c5 ?_)
  case c1 =>
    intro j u hu
    rw [← hFT]
    exact flatB_cells (HS1.out.at_some2 h0).2 j u hu
  case c3 => unfold maxLen; omega
  case c4 => omega
  case c5 => rw [← hFT, Z.out]; exact Nat.le_refl _
  intro v' w2 hown' hgrow' hne'
  rw [← hFT] at hgrow'
  have g2 : Below (w.alloc FT).heap.size (w.alloc FT) w2 := ⟨hgrow'.os, hgrow'.tape, hgrow'.output, hgrow'.size, fun i hi => hgrow'.block i hi (by simp [Value.ownBlock])⟩
  obtain ⟨g, cap, rfl⟩ : ∃ g cap, v' = .slice (some ⟨g, 0, none⟩) xs.length cap := by
    rcases hown'.2 with ⟨h, hn0⟩ | ⟨g, cap, cur, h, _⟩
    · omega
    · exact ⟨g, cap, h⟩
  obtain ⟨hgb, hri, hcap⟩ := rowK_of_own hown' rfl
  have zz := g2.size
  have z3 := Z.out
  have CM := Lib.hid (cmpB_of w.heap.size g w2 ((g2.cell (p := ⟨w.heap.size, 0, none⟩) (show w.heap.size < (w.alloc FT).heap.size by omega)).trans HX.out) (by omega) (by omega))
  have CC := Lib.hid (sortStable_any g xs.length cap w.heap.size Bk.Wf (cmpL [1, 2, 3]) xs w2 w2 ⟨⟨rfl, hcap, hri⟩, fun i hi => by rw [List.getD_eq_getElem?_getD, List.getElem?_eq_getElem hi]; exact WF.out _ (List.getElem_mem hi)⟩ (World.grownBy.refl w2 _) CM.out hn)
  have G2 := Lib.hid (bnext G1.out g2)
  have HGB := Lib.hid hgb
  clear hown' hgrow' hne' g2 hri zz z3 CM hgb
  go_wp2_with fail
  refine (CC.out).mono ?_
  rintro e w3 ⟨rfl, ⟨h3, -⟩, g3⟩
  have G3 := Lib.hid (G2.out.grown g3 G2.out.size (fun k hk => by injection hk with hk; have := HGB.out; omega))
  have H3 := Lib.hid h3
  clear h3 g3 CC
  go_wp2
  go_ret
  refine ⟨.slice (some ⟨g, 0, none⟩) xs.length cap, rfl, ?_, G3.out⟩
  obtain ⟨hl, hN, hr⟩ := H3.out
  rw [← ltC_ltB]
  generalize stableF (ltC (cmpL [1, 2, 3])) xs = ys at *
  exact .inr ⟨g, cap, by rw [hl], by have := HGB.out; omega, by rw [hl]; exact hr, by rw [hl]; exact hN⟩

set_option maxHeartbeats 2000000 in
theorem ins0_any (F : Value) (w : World) : Calls Tryd.prog 89 #[.slice none 0 0, .int .i64 0, .int .i64 0, F] w fun e w' => e = .returned (.tuple #[]) ∧ w = w' := by
  go_enter Tryd.func89, Tryd.ntmps89
  go_wp2
  refine wp_loop_rounds 1 ?_
  rw [rounds_succ]
  go_wp2
  go_returns
  exact ⟨rfl, rfl⟩
set_option maxHeartbeats 2000000 in
theorem stable0_any (F : Value) (w : World) : Calls Tryd.prog 82 #[.slice none 0 0, .int .i64 0, F] w fun e w' => e = .returned (.tuple #[]) ∧ w = w' := by
  go_enter Tryd.func82, Tryd.ntmps82
  go_wp2
  refine wp_loop_rounds 1 ?_
  rw [rounds_succ]
  go_wp2_with (go_at_call 89; refine (ins0_any _ _).mono ?_; rintro e w' ⟨rfl, rfl⟩)
  refine wp_loop_rounds 1 ?_
  rw [rounds_succ]
  go_wp2
  go_returns
  exact ⟨rfl, rfl⟩
set_option maxHeartbeats 1000000 in
theorem sortStable0_any (F : Value) (w : World) : Calls Tryd.prog 67 #[.slice none 0 0, F] w fun e w' => e = .returned (.tuple #[]) ∧ w = w' := by
  go_enter Tryd.func67, Tryd.ntmps67
  go_wp2_with (go_at_call 82; refine (stable0_any _ _).mono ?_; rintro e w' ⟨rfl, rfl⟩)
  go_returns
  exact ⟨rfl, rfl⟩

set_option maxHeartbeats 2000000 in
theorem inOrderB0_any (p : Addr) (ci : Nat) (w : World) :
    Calls Tryd.prog 47 #[.slice (some p) 0 ci, .func (.func 49) #[] #[]] w fun e w' => e = .returned (.slice none 0 0) ∧ Below w.heap.size w w' := by
  obtain ⟨i0, hi0, hz0, hz1, hz2⟩ := info_parts infoBook
  obtain ⟨FT, hFT⟩ : ∃ o : Obj, o = .cells #[.func (.func 49) #[] #[]] 87 := ⟨_, rfl⟩
  have G1 := Lib.hid (show Below w.heap.size w (w.alloc FT) from (Below.refl _ _).alloc (Nat.le_refl _) _)
  have Z := Lib.hid (show (w.alloc FT).heap.size = w.heap.size + 1 by simp)
  have OW := Lib.hid (show (w.alloc FT).ownsRow (w.heap.size + 1) 53 8 (.slice none 0 0) 0 [] from ⟨rfl, .inl ⟨rfl, rfl⟩⟩)
  go_enter Tryd.func47, Tryd.ntmps47
  go_wp2_with (at_builtin; refine wpList_append_own _ rfl (.const (.slice none 0 0)) (.tmp 6) _ rfl (w.heap.size + 1) 53 i0 (.agg #[.int .i16 0, .int .u8 0, .int .u8 0, .int .u8 0, .int .i16 0, .int .i16 0, .int .i16 0, .int .i16 0]) 8 14 Tryd.underlying27 hi0 hz0 hz1 hz2 rfl (by decide) _ _ _ rfl (by rw [← hFT]; exact OW.out) p 0 ci [] rfl rfl (fun j u hu => by simp at hu) (fun u hu => by simp at hu) (by simp) (by simp) (by rw [← hFT, Z.out]; exact Nat.le_refl _) ?_)
  intro v' w2 hown' hgrow' hne'
  obtain rfl : v' = .slice none 0 0 := by simpa using hne'
  rw [← hFT] at hgrow'
  have g2 : Below (w.alloc FT).heap.size (w.alloc FT) w2 := ⟨hgrow'.os, hgrow'.tape, hgrow'.output, hgrow'.size, fun i hi => hgrow'.block i hi (by simp [Value.ownBlock])⟩
  have G2 := Lib.hid (bnext G1.out g2)
  clear hown' hgrow' hne' g2
  go_wp2_with fail
  refine (sortStable0_any _ _).mono ?_
  rintro e w3 ⟨rfl, rfl⟩
  go_wp2
  go_ret
  exact ⟨rfl, G2.out⟩
set_option maxHeartbeats 2000000 in
theorem inOrderBn_any (w : World) (ci : Nat) :
    Calls Tryd.prog 47 #[.slice none 0 ci, .func (.func 49) #[] #[]] w fun e w' => e = .returned (.slice none 0 0) ∧ Below w.heap.size w w' := by
  obtain ⟨i0, hi0, hz0, hz1, hz2⟩ := info_parts infoBook
  obtain ⟨FT, hFT⟩ : ∃ o : Obj, o = .cells #[.func (.func 49) #[] #[]] 87 := ⟨_, rfl⟩
  have G1 := Lib.hid (show Below w.heap.size w (w.alloc FT) from (Below.refl _ _).alloc (Nat.le_refl _) _)
  have OW := Lib.hid (show (w.alloc FT).ownsRow (w.heap.size + 1) 53 8 (.slice none 0 0) 0 [] from ⟨rfl, .inl ⟨rfl, rfl⟩⟩)
  go_enter Tryd.func47, Tryd.ntmps47
  go_wp2_with (at_builtin; refine wpList_append_own_none rfl (.const (.slice none 0 0)) (.tmp 6) _ rfl (w.heap.size + 1) 53 i0 8 Tryd.underlying27 hi0 _ _ _ rfl (by rw [← hFT]; exact OW.out) rfl ?_)
  go_wp2_with fail
  refine (sortStable0_any _ _).mono ?_
  rintro e w3 ⟨rfl, rfl⟩
  go_wp2
  go_ret
  exact ⟨rfl, by rw [← hFT]; exact G1.out⟩
end Go.Proofs.YteeblpdjpaellaaDoor
