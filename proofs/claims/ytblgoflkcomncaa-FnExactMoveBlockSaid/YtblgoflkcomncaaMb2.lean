/- Block moves and moves of lists, by the model: contracts. Condition: lists no longer than the law tests. -/
import Derived.Test.YtblgoflkcomncaaMb1
namespace Go.Proofs.Ytblgoflkcomncaa
set_option linter.unusedSimpArgs false
set_option linter.unusedVariables false
set_option maxRecDepth 100000
open Go.RowKit Go.Sort

theorem canK_eq (n : Nat) (F C T : Int) : canK n F C T = (decide (1 ≤ C) && (inB F 0 ((n : Int) - C) && inB T 0 ((n : Int) - C))) := by
  unfold canK inB
  rw [← Bool.decide_and, ← Bool.decide_and]
  exact decide_eq_decide.2 (by omega)
theorem resB_empty {w w1 : World} (h : Below w.heap.size w w1) {ys : List Bk} (e : ys = []) : ResB (w1.alloc (.cells #[] 114)) w.heap.size (.slice (some ⟨w1.heap.size, 0, none⟩) 0 0) ys := by
  subst e
  exact .inr ⟨w1.heap.size, 0, rfl, h.size, ⟨#[], heap_alloc_new w1 _, rfl, fun i hi => absurd hi (Nat.not_lt_zero _)⟩, Nat.le_refl _⟩
theorem SliceOf.at_some {w : World} {b o c : Nat} {xs : List Bk} (h : SliceOf w (.slice (some ⟨b, o, none⟩) xs.length c) xs) (h0 : 0 < xs.length) : b < w.heap.size ∧ BooksAt w b o xs := by
  obtain ⟨A', c', e', hh⟩ := h
  obtain ⟨g', o', rfl, hg', hat⟩ := hh h0
  injection e' with e1 e2 e3
  injection e1 with e1
  injection e1 with e1 e4 e5
  subst e1 e4
  exact ⟨hg', hat⟩
/-- A book list in the end of a call, moved in a row of its own. -/
theorem resB_row {w w' : World} {g N n : Nat} {ys : List Bk} (hr : RowK w' g ys n N) (hn : ys.length = n) (hg : w.heap.size ≤ g) (hN : n ≤ N) : ResB w' w.heap.size (.slice (some ⟨g, 0, none⟩) n N) ys := by
  subst hn
  exact .inr ⟨g, N, rfl, hg, hr, hN⟩
set_option maxHeartbeats 8000000 in
theorem specMoveBlock_any (b o cc : Nat) (xs : List Bk) (F C T : Int) (wf : ∀ b ∈ xs, b.Wf) (w : World) (hs : SliceOf w (.slice (some ⟨b, o, none⟩) xs.length cc) xs) (hcap : xs.length ≤ cc) (hn : xs.length ≤ 1048576) (hF : -32768 ≤ F ∧ F ≤ 32767) (hC : -32768 ≤ C ∧ C ≤ 32767) (hT : -32768 ≤ T ∧ T ≤ 32767) :
    Calls Try.prog 34 #[.slice (some ⟨b, o, none⟩) xs.length cc, .agg #[.int .i16 F, .int .i16 C, .int .i16 T]] w fun e w' => ∃ u, e = .returned (.tuple #[u, .int .i64 (blC xs F C T)]) ∧ ResB w' w.heap.size u (blR xs F C T) ∧ Below w.heap.size w w' := by
  have G0 := Lib.hid (show Below w.heap.size w (w.alloc (.cells #[.int .i16 F, .int .i16 C, .int .i16 T] 58)) from (Below.refl _ _).alloc (Nat.le_refl _) _)
  have X0 := Lib.hid (heap_alloc_new w (.cells #[.int .i16 F, .int .i16 C, .int .i16 T] 58))
  have HS := Lib.hid (hs.below G0.out)
  have WF := Lib.hid wf
  have ML : xs.length ≤ maxLen := by unfold maxLen; omega
  have hw1 : IntKind.i64.wrap ((xs.length : Int) - C) = (xs.length : Int) - C := IntWalk.i64_in _ (by omega)
  have hw2 : wrap64 ((xs.length : Int) - C) = (xs.length : Int) - C := IntWalk.wrap64_in _ (by omega)
  have LF := Lib.hid (fun W => l00In_any F 0 ((xs.length : Int) - C) W)
  have LT := Lib.hid (fun W => l00In_any T 0 ((xs.length : Int) - C) W)
  clear hs wf
  obtain ⟨F1, F2⟩ := hF
  obtain ⟨C1, C2⟩ := hC
  obtain ⟨T1, T2⟩ := hT
  rcases bl_cases xs F C T with ⟨h1, h2, h3⟩ | ⟨h1, h4, h2, h3⟩ | ⟨h1, f, c, t, rfl, rfl, rfl, k1, k2, k3, h2, h3⟩
  · have E := Lib.hid h2
    have E2 := Lib.hid h3
    clear h2 h3
    go_enter Try.func34, Try.ntmps34
    go_upto_region 1 with (fail)
    generalize World.alloc w _ = W1 at G0 X0 HS ⊢
    go_wp2_with fail
    refine (l01Ok_any _ xs WF.out _ HS.out ML).mono ?_
    rintro e w1 ⟨rfl, g1⟩
    rw [h1]
    have G1 := Lib.hid (bnext G0.out g1)
    go_wp2
    go_ret2
    exact ⟨_, by rw [E.out]; rfl, resB_empty G1.out E2.out, G1.out.alloc G1.out.size _⟩
  · have E := Lib.hid h2
    have E2 := Lib.hid h3
    have K := Lib.hid ((canK_eq xs.length F C T).symm.trans h4)
    clear h2 h3 h4
    go_enter Try.func34, Try.ntmps34
    go_upto_region 1 with (fail)
    generalize World.alloc w _ = W1 at G0 X0 HS ⊢
    go_wp2_with fail
    refine (l01Ok_any _ xs WF.out _ HS.out ML).mono ?_
    rintro e w1 ⟨rfl, g1⟩
    rw [h1]
    have G1 := Lib.hid (bnext G0.out g1)
    have X1 := Lib.hid ((g1.block _ (Array.getElem?_eq_some_iff.1 X0.out).1).trans X0.out)
    have m0 : w1.cell? ⟨w.heap.size, 0, none⟩ = some (.int .i16 F) := cell_of_row w1 _ 0 _ _ _ X1.out
    have m1 : w1.cell? ⟨w.heap.size, 1, none⟩ = some (.int .i16 C) := cell_of_row w1 _ 1 _ _ _ X1.out
    have m2 : w1.cell? ⟨w.heap.size, 2, none⟩ = some (.int .i16 T) := cell_of_row w1 _ 2 _ _ _ X1.out
    by_cases hc : C < 1
    · go_wp2
      go_ret2
      exact ⟨_, by rw [E.out]; rfl, resB_empty G1.out E2.out, G1.out.alloc G1.out.size _⟩
    · have hc2 : decide (1 ≤ C) = true := by simp; omega
      have K := Lib.hid (show (inB F 0 ((xs.length : Int) - C) && inB T 0 ((xs.length : Int) - C)) = false by have := K.out; rw [hc2] at this; exact this)
      clear hc2
      generalize inB F 0 ((xs.length : Int) - C) = p at K LF
      generalize inB T 0 ((xs.length : Int) - C) = q at K LT
      cases p
      · clear K
        go_wp2_with (go_at_call 70; (first | (with_reducible refine (LF.out _).mono ?_) | (with_reducible refine (LT.out _).mono ?_)); rintro e w' ⟨rfl, rfl⟩)
        go_ret2
        exact ⟨_, by rw [E.out]; rfl, resB_empty G1.out E2.out, G1.out.alloc G1.out.size _⟩
      · cases q
        · clear K
          go_wp2_with (go_at_call 70; (first | (with_reducible refine (LF.out _).mono ?_) | (with_reducible refine (LT.out _).mono ?_)); rintro e w' ⟨rfl, rfl⟩)
          go_ret2
          exact ⟨_, by rw [E.out]; rfl, resB_empty G1.out E2.out, G1.out.alloc G1.out.size _⟩
        · exact absurd K.out (by decide)
  · have E := Lib.hid h2
    have E2 := Lib.hid h3
    have v1 : inB (f : Int) 0 ((xs.length : Int) - (c : Int)) = true := by unfold inB; simp; omega
    have v2 : inB (t : Int) 0 ((xs.length : Int) - (c : Int)) = true := by unfold inB; simp; omega
    rw [v1] at LF
    rw [v2] at LT
    clear h2 h3 v1 v2
    obtain ⟨hb, hat⟩ := HS.out.at_some (by omega)
    have HAT := Lib.hid hat
    have HB := Lib.hid hb
    have KK := Lib.hid (fun W (h : BooksAt W b o xs) (h' : b < W.heap.size) => l03Carried_any b o cc xs f c t W h h' hcap hn k1 k2 k3 (by omega) (by omega) (by omega))
    have hc1 : ¬ ((c : Int) < 1) := by omega
    clear hat hb
    go_enter Try.func34, Try.ntmps34
    go_upto_region 1 with (fail)
    generalize World.alloc w _ = W1 at G0 X0 HS HAT HB ⊢
    go_wp2_with fail
    refine (l01Ok_any _ xs WF.out _ HS.out ML).mono ?_
    rintro e w1 ⟨rfl, g1⟩
    rw [h1]
    have G1 := Lib.hid (bnext G0.out g1)
    have X1 := Lib.hid ((g1.block _ (Array.getElem?_eq_some_iff.1 X0.out).1).trans X0.out)
    have A1 := Lib.hid (HAT.out.below g1 HB.out)
    have B1 := Lib.hid (Nat.lt_of_lt_of_le HB.out g1.size)
    clear HAT HS g1
    have m0 : w1.cell? ⟨w.heap.size, 0, none⟩ = some (.int .i16 (f : Int)) := cell_of_row w1 _ 0 _ _ _ X1.out
    have m1 : w1.cell? ⟨w.heap.size, 1, none⟩ = some (.int .i16 (c : Int)) := cell_of_row w1 _ 1 _ _ _ X1.out
    have m2 : w1.cell? ⟨w.heap.size, 2, none⟩ = some (.int .i16 (t : Int)) := cell_of_row w1 _ 2 _ _ _ X1.out
    go_wp2_with (first | (go_at_call 70; (first | (with_reducible refine (LF.out _).mono ?_) | (with_reducible refine (LT.out _).mono ?_)); rintro e w' ⟨rfl, rfl⟩) | (go_at_call 89; refine (KK.out _ A1.out B1.out).mono ?_; rintro e w2 ⟨g, N, rfl, hr, hg, hN, g2⟩))
    go_ret2
    exact ⟨_, by rw [E.out]; rfl, by rw [E2.out]; exact resB_row hr (carL_length _ _ _ _) (Nat.le_trans G1.out.size hg) hN, bnext G1.out g2⟩
set_option maxHeartbeats 4000000 in
theorem l03Moved_any (b o cc : Nat) (xs : List Bk) (f t : Nat) (w : World) (hat : BooksAt w b o xs) (hg : b < w.heap.size) (hcap : xs.length ≤ cc) (hn : xs.length ≤ 1048576) (hf : f < xs.length) (ht : t < xs.length) (hf2 : f ≤ 32767) (ht2 : t ≤ 32767) :
    Calls Try.prog 88 #[.slice (some ⟨b, o, none⟩) xs.length cc, .agg #[.int .i16 (f : Int), .int .i16 (t : Int)]] w fun e w' => ∃ g' N, e = .returned (.slice (some ⟨g', 0, none⟩) xs.length N) ∧ RowK w' g' (carL xs f 1 t) xs.length N ∧ w.heap.size ≤ g' ∧ xs.length ≤ N ∧ Below w.heap.size w w' := by
  have G0 := Lib.hid (show Below w.heap.size w (w.alloc (.cells #[.int .i16 (f : Int), .int .i16 (t : Int)] 51)) from (Below.refl _ _).alloc (Nat.le_refl _) _)
  have A0 := Lib.hid (hat.below G0.out hg)
  have B0 := Lib.hid (Nat.lt_of_lt_of_le hg G0.out.size)
  have KK := Lib.hid (fun W (h : BooksAt W b o xs) (h' : b < W.heap.size) => l03Carried_any b o cc xs f 1 t W h h' hcap hn (Nat.le_refl _) hf ht hf2 (by omega) ht2)
  clear hat
  go_enter Try.func88, Try.ntmps88
  go_wp2_with fail
  generalize World.alloc w _ = W1 at G0 A0 B0 ⊢
  refine (KK.out _ A0.out B0.out).mono ?_
  rintro e w2 ⟨g, N, rfl, hr, hg, hN, g2⟩
  go_wp2
  go_ret
  exact ⟨g, N, rfl, hr, Nat.le_trans G0.out.size hg, hN, bnext G0.out g2⟩
set_option maxHeartbeats 8000000 in
theorem specMoveBook_any (b o cc : Nat) (xs : List Bk) (m : Mv) (wm : m.Wf) (wf : ∀ b ∈ xs, b.Wf) (w : World) (hs : SliceOf w (.slice (some ⟨b, o, none⟩) xs.length cc) xs) (hcap : xs.length ≤ cc) (hn : xs.length ≤ 1048576) :
    Calls Try.prog 29 #[.slice (some ⟨b, o, none⟩) xs.length cc, .agg #[.int .i16 m.f, .int .i16 m.t]] w fun e w' => ∃ u, e = .returned (.tuple #[u, .int .i64 (blC xs m.f 1 m.t)]) ∧ ResB w' w.heap.size u (blR xs m.f 1 m.t) ∧ Below w.heap.size w w' := by
  have G0 := Lib.hid (show Below w.heap.size w (w.alloc (.cells #[.int .i16 m.f, .int .i16 m.t] 51)) from (Below.refl _ _).alloc (Nat.le_refl _) _)
  have X0 := Lib.hid (heap_alloc_new w (.cells #[.int .i16 m.f, .int .i16 m.t] 51))
  have HS := Lib.hid (hs.below G0.out)
  have WF := Lib.hid wf
  have ML : xs.length ≤ maxLen := by unfold maxLen; omega
  have CC := Lib.hid (fun W => l03Can_any xs.length m wm W hn)
  have WM := Lib.hid wm
  clear hs wf wm
  rcases bl_cases xs m.f 1 m.t with ⟨h1, h2, h3⟩ | ⟨h1, h4, h2, h3⟩ | ⟨h1, f, c, t, ef, ec, et, k1, k2, k3, h2, h3⟩
  · have E := Lib.hid h2
    have E2 := Lib.hid h3
    clear h2 h3
    go_enter Try.func29, Try.ntmps29
    go_upto_region 1 with (fail)
    generalize World.alloc w _ = W1 at G0 X0 HS ⊢
    go_wp2_with fail
    refine (l01Ok_any _ xs WF.out _ HS.out ML).mono ?_
    rintro e w1 ⟨rfl, g1⟩
    rw [h1]
    have G1 := Lib.hid (bnext G0.out g1)
    go_wp2
    go_ret2
    exact ⟨_, by rw [E.out]; rfl, resB_empty G1.out E2.out, G1.out.alloc G1.out.size _⟩
  · have E := Lib.hid h2
    have E2 := Lib.hid h3
    rw [can_canK, h4] at CC
    clear h2 h3 h4
    go_enter Try.func29, Try.ntmps29
    go_upto_region 1 with (fail)
    generalize World.alloc w _ = W1 at G0 X0 HS ⊢
    go_wp2_with fail
    refine (l01Ok_any _ xs WF.out _ HS.out ML).mono ?_
    rintro e w1 ⟨rfl, g1⟩
    rw [h1]
    have G1 := Lib.hid (bnext G0.out g1)
    have X1 := Lib.hid ((g1.block _ (Array.getElem?_eq_some_iff.1 X0.out).1).trans X0.out)
    have m0 : w1.cell? ⟨w.heap.size, 0, none⟩ = some (.int .i16 m.f) := cell_of_row w1 _ 0 _ _ _ X1.out
    have m1 : w1.cell? ⟨w.heap.size, 1, none⟩ = some (.int .i16 m.t) := cell_of_row w1 _ 1 _ _ _ X1.out
    go_wp2_with fail
    refine (CC.out _).mono ?_
    rintro e w2 ⟨rfl, g2⟩
    have G2 := Lib.hid (bnext G1.out g2)
    clear m0 m1
    go_wp2
    go_ret2
    exact ⟨_, by rw [E.out]; rfl, resB_empty G2.out E2.out, G2.out.alloc G2.out.size _⟩
  · obtain rfl : c = 1 := by omega
    have E := Lib.hid h2
    have E2 := Lib.hid h3
    have hcan : canB xs.length m = true := by
      rw [can_canK, ef, et]
      unfold canK
      simp
      omega
    rw [hcan] at CC
    obtain ⟨⟨a1, a2⟩, ⟨b1, b2⟩⟩ := WM.out
    have KK := Lib.hid (fun W (h : BooksAt W b o xs) (h' : b < W.heap.size) => l03Moved_any b o cc xs f t W h h' hcap hn k2 k3 (by omega) (by omega))
    obtain ⟨hb, hat⟩ := HS.out.at_some (by omega)
    have HAT := Lib.hid hat
    have HB := Lib.hid hb
    rw [ef, et] at X0 G0 HS HAT HB CC ⊢
    rw [ef, et] at E E2
    clear h2 h3 hcan hat hb a1 a2 b1 b2 WM
    go_enter Try.func29, Try.ntmps29
    go_upto_region 1 with (fail)
    generalize World.alloc w _ = W1 at G0 X0 HS HAT HB ⊢
    go_wp2_with fail
    refine (l01Ok_any _ xs WF.out _ HS.out ML).mono ?_
    rintro e w1 ⟨rfl, g1⟩
    rw [h1]
    have G1 := Lib.hid (bnext G0.out g1)
    have L1 := Lib.hid (Nat.lt_of_lt_of_le (Array.getElem?_eq_some_iff.1 X0.out).1 g1.size)
    have X1 := Lib.hid ((g1.block _ (Array.getElem?_eq_some_iff.1 X0.out).1).trans X0.out)
    have A1 := Lib.hid (HAT.out.below g1 HB.out)
    have B1 := Lib.hid (Nat.lt_of_lt_of_le HB.out g1.size)
    have m0 : w1.cell? ⟨w.heap.size, 0, none⟩ = some (.int .i16 (f : Int)) := cell_of_row w1 _ 0 _ _ _ X1.out
    have m1 : w1.cell? ⟨w.heap.size, 1, none⟩ = some (.int .i16 (t : Int)) := cell_of_row w1 _ 1 _ _ _ X1.out
    go_wp2_with fail
    refine (CC.out _).mono ?_
    rintro e w2 ⟨rfl, g2⟩
    clear m0 m1
    have G2 := Lib.hid (bnext G1.out g2)
    have X2 := Lib.hid ((g2.block _ L1.out).trans X1.out)
    have A2 := Lib.hid (A1.out.below g2 B1.out)
    have B2 := Lib.hid (Nat.lt_of_lt_of_le B1.out g2.size)
    have m0 : w2.cell? ⟨w.heap.size, 0, none⟩ = some (.int .i16 (f : Int)) := cell_of_row w2 _ 0 _ _ _ X2.out
    have m1 : w2.cell? ⟨w.heap.size, 1, none⟩ = some (.int .i16 (t : Int)) := cell_of_row w2 _ 1 _ _ _ X2.out
    go_wp2_with fail
    refine (KK.out _ A2.out B2.out).mono ?_
    rintro e w3 ⟨g, N, rfl, hr, hg, hN, g3⟩
    clear m0 m1
    go_wp2
    go_ret2
    exact ⟨_, by rw [E.out]; rfl, by rw [E2.out]; exact resB_row hr (carL_length _ _ _ _) (Nat.le_trans G2.out.size hg) hN, bnext G2.out g3⟩
end Go.Proofs.Ytblgoflkcomncaa
