/- In which pass each book of a list is taken, by the model and by the program: contracts. Condition: lists no longer than can be, whose numbers lie within their kinds. -/
import Derived.Test.YtjfhpgomaahgoabPasI
import Derived.Test.YtjfhpgomaahgoabOwn
namespace Go.Proofs.Ytjfhpgomaahgoab
set_option linter.unusedSimpArgs false
set_option linter.unusedVariables false
set_option maxRecDepth 100000
open Go.RowKit Go.Shelf Stab
attribute [local go_sem] Oper.semAt_some

theorem pcL_length (xs : List Bk) : (pcL xs).length ≤ xs.length := by
  unfold pcL
  split
  · rw [psL_length]; exact Nat.le_refl _
  · exact Nat.zero_le _

set_option maxHeartbeats 1000000 in
theorem specPassList_any (v : Value) (xs : List Bk) (wf : ∀ b ∈ xs, b.Wf) (w : World) (hs : SliceOf w v xs) (hn : xs.length ≤ 1048576) (hm : xs.length ≤ maxLen) :
    Calls Try.prog 36 #[v] w fun e w' => ∃ u, e = .returned (.tuple #[u, .int .i64 (pcC xs)]) ∧ w'.ownsRow w.heap.size 2 1 u (pcL xs).length ((pcL xs).map (Value.int .i64)) ∧ Below w.heap.size w w' := by
  have HS := Lib.hid hs
  have WF := Lib.hid wf
  clear hs wf
  cases hk : okB xs
  · have E0 := Lib.hid (show pcL xs = [] by unfold pcL; rw [hk]; rfl)
    have E1 := Lib.hid (show pcC xs = 1 by unfold pcC; rw [hk]; rfl)
    go_enter Try.func36, Try.ntmps36
    go_wp2_with fail
    refine (l01Ok_any v xs WF.out _ HS.out hm).mono ?_
    rintro e w1 ⟨rfl, h1⟩
    rw [hk]
    go_wp2
    go_ret2
    exact ⟨_, by rw [E1.out]; rfl, by rw [E0.out]; exact ⟨rfl, .inr ⟨w1.heap.size, 0, #[], rfl, h1.size, heap_alloc_new w1 _, Nat.le_refl _, Nat.zero_le _, rfl, rfl⟩⟩, h1.alloc h1.size _⟩
  · have E0 := Lib.hid (show pcL xs = psL xs by unfold pcL; rw [hk]; rfl)
    have E1 := Lib.hid (show pcC xs = 0 by unfold pcC; rw [hk]; rfl)
    have LN := Lib.hid (psL_length xs)
    go_enter Try.func36, Try.ntmps36
    go_wp2_with fail
    refine (l01Ok_any v xs WF.out _ HS.out hm).mono ?_
    rintro e w1 ⟨rfl, h1⟩
    rw [hk]
    go_wp2_with fail
    refine (l03Passes_any v xs WF.out _ (HS.out.below h1) (ok60 hk)).mono ?_
    rintro e w2 ⟨g, rfl, hg, hz, h2⟩
    have HO := Lib.hid (hz.owns (base := w.heap.size) (by have := h1.size; omega) (by rw [LN.out]; exact hm))
    rw [LN.out] at HO
    clear hz
    go_wp2
    go_ret2
    exact ⟨_, by rw [E1.out]; rfl, by rw [E0.out, LN.out]; exact HO.out, bnext h1 h2⟩

set_option maxHeartbeats 8000000 in
theorem passList_any (v0 : Value) (xs : List Bk) (wf : ∀ b ∈ xs, b.Wf) (w : World) (hs : SliceOf w v0 xs) (hn : xs.length ≤ 1048576) (hm : xs.length ≤ maxLen) :
    Calls Try.prog 37 #[v0] w fun e w' => ∃ u, e = .returned (.tuple #[u, .int .i64 (pcC xs)]) ∧ w'.ownsRow w.heap.size 2 1 u (pcL xs).length ((pcL xs).map (Value.int .i64)) ∧ Below w.heap.size w w' := by
  have HS := Lib.hid hs
  have WF := Lib.hid wf
  cases h1 : okB xs
  · have E := Lib.hid (show pcC xs = 1 by unfold pcC; rw [h1]; rfl)
    have E2 := Lib.hid (show pcL xs = [] by unfold pcL; rw [h1]; rfl)
    clear hs wf
    go_enter Try.func37, Try.ntmps37
    go_wp2_with fail
    refine (validBooks_any v0 xs _ HS.out hm).mono ?_
    rintro e w1 ⟨rfl, g1⟩
    rw [h1]
    go_wp2
    go_ret2
    exact ⟨_, by rw [E.out]; rfl, by rw [E2.out]; exact ⟨rfl, .inl ⟨rfl, rfl⟩⟩, g1⟩
  · have E := Lib.hid (show pcC xs = 0 by unfold pcC; rw [h1]; rfl)
    have E2 := Lib.hid (show pcL xs = psL xs by unfold pcL; rw [h1]; rfl)
    have h60 := ok60 h1
    obtain ⟨i0, hi0, hz0, hz1, hz2⟩ := info_parts infoRk
    have hmk := fun W => run_make_rowN (P := Try.prog) 53 2 i0 _ Try.underlying53 hi0 hz0 .i64 .i64 xs.length xs.length (Nat.le_refl _) (by rw [hz2]; omega) (by omega) W
    rw [hz1, Nat.mul_one] at hmk
    obtain ⟨A0, k0, rfl, -⟩ := hs
    clear wf hi0 hz0 hz1 hz2
    refine (callsIn_wide (n := 3)).1 ?_
    refine callsIn_of_wp_marks Try.func37 rfl trivial ?_ rfl
    simp only [Try.ntmps37, List.size_toArray, List.length_cons, List.length_nil, Nat.reduceAdd, Nat.reduceSub, Array.replicate_succ, Array.replicate_zero, List.push_toArray, List.append_toArray, List.nil_append, List.cons_append]
    gi_wp2_with fail
    refine ⟨trivial, (callsIn_wide.2 (validBooks_any _ xs _ HS.out hm)).mono ?_⟩
    rintro e w1 ⟨rfl, g1⟩
    rw [h1]
    gi_wp2_with fail
    refine ⟨trivial, (callsIn_wide.2 (taken_any _ _ _ _)).mono ?_⟩
    rintro e w2 ⟨rfl, rfl⟩
    gi_wp2
    have b0 : RowZ (((w1.alloc (.cells (madeCells #[Value.int .i64 0] xs.length) 2)).alloc (.cells #[.slice (some ⟨w1.heap.size, 0, none⟩) xs.length xs.length] 53)).alloc (.cells #[.slice A0 xs.length k0] 27)) w1.heap.size (List.replicate xs.length 0) :=
      ((RowZ.made w1 xs.length).below ((Below.refl _ _).alloc (Nat.le_refl _) _)).below ((Below.refl _ _).alloc (Nat.le_refl _) _)
    have b4 : (((w1.alloc (.cells (madeCells #[Value.int .i64 0] xs.length) 2)).alloc (.cells #[.slice (some ⟨w1.heap.size, 0, none⟩) xs.length xs.length] 53)).alloc (.cells #[.slice A0 xs.length k0] 27)).heap[w1.heap.size + 1]? = some (.cells #[.slice (some ⟨w1.heap.size, 0, none⟩) xs.length xs.length] 53 (0, 0)) := by
      have := World.alloc_heap_new (w1.alloc (.cells (madeCells #[Value.int .i64 0] xs.length) 2)) (.cells #[.slice (some ⟨w1.heap.size, 0, none⟩) xs.length xs.length] 53)
      rw [World.size_alloc] at this
      exact later_alloc this _
    have b1 : (((w1.alloc (.cells (madeCells #[Value.int .i64 0] xs.length) 2)).alloc (.cells #[.slice (some ⟨w1.heap.size, 0, none⟩) xs.length xs.length] 53)).alloc (.cells #[.slice A0 xs.length k0] 27)).heap[w1.heap.size + 1 + 1]? = some (.cells #[.slice A0 xs.length k0] 27 (0, 0)) := by
      have := World.alloc_heap_new ((w1.alloc (.cells (madeCells #[Value.int .i64 0] xs.length) 2)).alloc (.cells #[.slice (some ⟨w1.heap.size, 0, none⟩) xs.length xs.length] 53)) (.cells #[.slice A0 xs.length k0] 27)
      rwa [World.size_alloc, World.size_alloc] at this
    have b2 : Below w1.heap.size w1 (((w1.alloc (.cells (madeCells #[Value.int .i64 0] xs.length) 2)).alloc (.cells #[.slice (some ⟨w1.heap.size, 0, none⟩) xs.length xs.length] 53)).alloc (.cells #[.slice A0 xs.length k0] 27)) := by go_grown
    have b3 : (((w1.alloc (.cells (madeCells #[Value.int .i64 0] xs.length) 2)).alloc (.cells #[.slice (some ⟨w1.heap.size, 0, none⟩) xs.length xs.length] 53)).alloc (.cells #[.slice A0 xs.length k0] 27)).heap.size = w1.heap.size + 3 := by simp
    generalize hW0 : World.alloc _ _ = W0 at b0 b1 b2 b3 b4 ⊢
    clear hW0
    have HG := Lib.hid (bnext g1 b2)
    have HSW := Lib.hid (HS.out.below HG.out)
    have hwz := g1.size
    refine wpIn_rangeFunc_ownH rfl (by omega : 1 ≤ 3) (gf := 110) (lb := #[.pointer (some ⟨w1.heap.size + 1 + 1, 0, none⟩)]) rfl trivial (enters_of Try.func110 (by kernel_rfl) rfl)
      (tk_stops 2 (by omega) (w1.heap.size + 1 + 1) _ xs WF.out h60 W0 b1 HSW.out) kpI_t kpI_b (Below.refl _ _) (fun _ => rfl)
      (fun pre W => RowZ W w1.heap.size (fillP (List.replicate xs.length 0) (pre.map Subtype.val)) ∧ W.heap[w1.heap.size + 1]? = some (.cells #[.slice (some ⟨w1.heap.size, 0, none⟩) xs.length xs.length] 53 (0, 0)) ∧ Below w.heap.size w W)
      (fun _ _ _ => False)
      ?hI ?hIx ⟨b0, b4, HG.out⟩
      (fun x a' _ => a' = { tmps := #[.slice A0 xs.length k0, undef, .slice none 0 0, .int .i64 0, .pointer (some ⟨w1.heap.size + 1, 0, none⟩), .int .i64 x.1.1, .int .i64 x.1.2, .slice A0 xs.length k0, .bool true, .bool false, .slice A0 xs.length k0, .int .i64 (xs.length : Int), .slice (some ⟨w1.heap.size, 0, none⟩) xs.length xs.length, .slice A0 xs.length k0, .func (.func 110) #[] #[.pointer (some ⟨w1.heap.size + 1 + 1, 0, none⟩)], .int .i64 x.1.1, .int .i64 x.1.2, undef, undef, undef, undef, undef], defers := [] })
      ?hAx ?assign ?body ?done ?stop
    case hI =>
      rintro s X Y row ⟨e1, e3, e2⟩ hg hr
      exact ⟨e1.kept hg (fun e => by have := (hr _ e.symm).1; omega), (hg.block _ (Array.getElem?_eq_some_iff.1 e3).1 (fun e => by have := (hr _ e.symm).1; omega)).trans e3, e2.grown hg e2.size (fun k e => by have := (hr k e).1; omega)⟩
    case hIx => rintro c s X Y row h _ _; exact h
    case hAx => rintro x a' _ X Y row h _ _; exact h
    case assign =>
      rintro l pre x W K ⟨e1, e3, e2⟩ hK
      gi_wp2
      exact hK _ _ (KeepsOthers.refl _ |>.from _) (kpI_below (Below.refl _ _)) ⟨e1, e3, e2⟩ rfl
    case body =>
      rintro l pre x a' W hl _ ⟨e1, e3, e2⟩ rfl hlt
      obtain ⟨⟨x1, x2⟩, hx⟩ := x
      obtain ⟨i, rfl⟩ : ∃ i : Nat, x1 = (i : Int) := ⟨x1.toNat, by have := hx.1; simp only at this; omega⟩
      have hin : i < xs.length := by have := hx.2; simp only at this; omega
      have HI := Lib.hid e1
      have HB := Lib.hid e2
      have HP := Lib.hid e3
      have t0 : W.cell? ⟨w1.heap.size + 1, 0, none⟩ = some (.slice (some ⟨w1.heap.size, 0, none⟩) xs.length xs.length) := cell_of_row W _ 0 _ _ _ e3
      obtain ⟨u, t1⟩ : ∃ u, W.cell? ⟨w1.heap.size, i, none⟩ = some u := ⟨_, e1.cell i (by rw [fillP_length, List.length_replicate]; exact hin)⟩
      have f1 : W.frozen? ⟨w1.heap.size, i, none⟩ = false := e1.frozen i
      have K1 := Lib.hid (show KpI W (W.setCell ⟨w1.heap.size, i, none⟩ (.int .i64 x2)) from kpI_grown (row := some w1.heap.size) (only_set2 (World.grownBy.refl W (some w1.heap.size)) i (.int .i64 x2)) (fun k e => by cases e; obtain ⟨cs, h, _⟩ := HI.out; exact ⟨_, h, fun a e => by cases e⟩))
      have I2 := Lib.hid (show RowZ (W.setCell ⟨w1.heap.size, i, none⟩ (.int .i64 x2)) w1.heap.size (fillP (List.replicate xs.length 0) ((pre ++ [(⟨((i : Int), x2), hx⟩ : PQ xs.length)]).map Subtype.val)) by
        rw [List.map_append, List.map_cons, List.map_nil, fillP_snoc]
        exact e1.put i x2)
      have I3 := Lib.hid ((Below.heap_setCell W ⟨w1.heap.size, i, none⟩ (.int .i64 x2) (w1.heap.size + 1) (by simp)).trans e3)
      clear e1 e2 e3
      gi_wp2
      exact ⟨(KeepsOthers.setCell _ _ _).from _, K1.out, I2.out, I3.out, HB.out.setCell (p := ⟨_, _, none⟩) (by simp; omega) _⟩
    case done =>
      rintro D ys W hD hys ⟨e1, e3, e2⟩ hK
      have t0 : W.cell? ⟨w1.heap.size + 1, 0, none⟩ = some (.slice (some ⟨w1.heap.size, 0, none⟩) xs.length xs.length) := cell_of_row W _ 0 _ _ _ e3
      have HZ := Lib.hid (show RowZ W w1.heap.size (psL xs) by rw [hys] at e1; exact e1)
      have HB := Lib.hid e2
      have LN := psL_length xs
      clear e1 e2 e3 hys
      gi_wp2
      refine ⟨by simp, .inl ⟨_, _, rfl, run_takeDeferred hK, ?_⟩⟩
      have g6 : Below w.heap.size w (W.putObj D (.deferred none)) := HB.out.grown (grownBy_putObj' W D (.deferred none)) HB.out.size (fun k e => by cases e; omega)
      have z6 : RowZ (W.putObj D (.deferred none)) w1.heap.size (psL xs) := HZ.out.kept (grownBy_putObj' W D (.deferred none)) (fun e => by cases e; omega)
      have o6 := z6.owns hwz (by rw [LN]; exact hm)
      rw [LN] at o6
      generalize W.putObj D (.deferred none) = W6 at g6 o6 ⊢
      refine ⟨.tuple #[.slice (some ⟨w1.heap.size, 0, none⟩) xs.length xs.length, .int .i64 0], ?_, ⟨_, by rw [E.out], by rw [E2.out, LN]; exact o6, g6⟩⟩
      simp [results, Try.f37, go_sem]
    case stop =>
      rintro D c pre W hD hpre h hK
      exact h.elim

end Go.Proofs.Ytjfhpgomaahgoab
