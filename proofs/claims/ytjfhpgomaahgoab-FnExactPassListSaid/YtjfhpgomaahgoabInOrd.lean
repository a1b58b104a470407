/- The indices of a list in the usual order, by the program: contracts. Condition: at most 1048576 books, numbers within their kinds. -/
import Derived.Test.YtjfhpgomaahgoabStabL
import Derived.Test.YtjfhpgomaahgoabIdx
import Derived.Test.YtjfhpgomaahgoabFields
namespace Go.Proofs.Ytjfhpgomaahgoab
set_option linter.unusedSimpArgs false
set_option linter.unusedVariables false
set_option maxRecDepth 100000
open Go.RowKit Stab

theorem infoInt0 : (Try.prog.info? 3).map (fun i => (i.zero, i.size, i.bytes)) = some (some (.int .i64 0), 1, 8) := by kernel_rfl

theorem rowI_of_irow {w : World} {g : Nat} {zs : List Int} (h : IRow .i64 3 w g zs) : RowI w g zs.length zs := by
  obtain ⟨cs, h1, h2, h3⟩ := h
  exact ⟨rfl, cs, h1, by omega, fun i hi => h3 i hi hi⟩
theorem rowI_of_own {w : World} {base g n cap : Nat} {l : List Int} (h : w.ownsRow base 3 1 (.slice (some ⟨g, 0, none⟩) n cap) n (l.map (Value.int .i64))) (hn : n = l.length) : base ≤ g ∧ RowI w g n l := by
  rcases h.2 with ⟨h, _⟩ | ⟨g', cap', cur, h, hb, hg, hc, _, hs, ht⟩
  · cases h
  · injection h with h1 h2 h3
    injection h1 with h1
    injection h1 with h1
    subst h1 h3 hn
    refine ⟨hb, rfl, cur, hg, by omega, fun i hi => ?_⟩
    have e : (l.map (Value.int .i64))[i]? = some (.int .i64 l[i]) := by simp [List.getElem?_eq_getElem hi]
    rw [← ht, List.getElem?_take, if_pos (by omega), Array.getElem?_toList] at e
    exact e

set_option maxHeartbeats 2000000 in
theorem indicesOf_any (v : Value) (xs : List Bk) (w : World) (hs : SliceOf w v xs) (hn : xs.length ≤ 1048576) :
    Calls Try.prog 81 #[v] w fun e w' => ∃ g, e = .returned (.slice (some ⟨g, 0, none⟩) xs.length xs.length) ∧ w.heap.size ≤ g ∧ RowI w' g xs.length (rngI xs.length) ∧ Below w.heap.size w w' := by
  obtain ⟨A, c, rfl, -⟩ := hs
  obtain ⟨zs, hz⟩ : ∃ zs, rngI xs.length = zs := ⟨_, rfl⟩
  have hzl : zs.length = xs.length := by rw [← hz, rngI_length]
  have HZ := Lib.hid (fun (k : Nat) (h : k < zs.length) => show zs[k] = (k : Int) by subst hz; exact rngI_get _)
  rw [hz]
  clear hz
  rw [← hzl] at hn ⊢
  clear hzl
  obtain ⟨i0, hi, hz0, hz1, hz2⟩ := info_parts infoInt0
  have hmk := fun W => run_make_rowN (P := Try.prog) 100 3 i0 _ Try.underlying100 hi hz0 .i64 .i64 zs.length zs.length (Nat.le_refl _) (by rw [hz2]; omega) (by omega) W
  rw [hz1, Nat.mul_one] at hmk
  have HM := Lib.hid (IRowK.made .i64 3 w (Value.int .i64 0).cells zs zs.length)
  clear hi hz0 hz1 hz2
  go_enter Try.func81, Try.ntmps81
  go_wp2
  go_loopw [10] (fun i wr => ∃ k : Nat, k ≤ zs.length ∧ i = .int .i64 k ∧ IRowK .i64 3 wr w.heap.size zs k zs.length ∧ Below w.heap.size w wr) (fun i _ => zs.length - (intOf i).toNat)
  case atStart => exact ⟨0, Nat.zero_le _, rfl, HM.out, (Below.refl _ _).alloc (Nat.le_refl _) _⟩
  case round =>
    obtain ⟨k, hk, rfl, hrow, hb⟩ := hrel
    by_cases hlt : k < zs.length
    · obtain ⟨u0, q0⟩ := hrow.cell k hlt
      have fz := hrow.frozen
      have HR := Lib.hid hrow
      have EZ := Lib.hid (HZ.out k hlt)
      clear hrow
      go_wp2
      go_roundw
      case rel => exact ⟨k + 1, by omega, by go_num, by have h := HR.out.step hlt hlt; rw [EZ.out] at h; exact h, hb.setCell (p := ⟨w.heap.size, k, none⟩) (Nat.le_refl _) _⟩
      case measure => simp [intOf]; omega
    · obtain rfl : k = zs.length := by omega
      have HR := Lib.hid hrow
      clear hrow
      go_wp2
      go_ret
      exact ⟨_, rfl, Nat.le_refl _, rowI_of_irow HR.out, hb⟩

set_option maxHeartbeats 4000000 in
theorem sortedIndices1_any (b1 ga oa c i j : Nat) (xs : List Bk) (wf : ∀ b ∈ xs, b.Wf) (w : World) (hi : i < xs.length) (hj : j < xs.length) (hn : xs.length ≤ 1048576) (hb : w.cell? ⟨b1, 0, none⟩ = some (.slice (some ⟨ga, oa, none⟩) xs.length c)) (hat : BooksAt w ga oa xs) (z1 : b1 < w.heap.size) (z2 : ga < w.heap.size) :
    Calls Try.prog 108 #[.int .i64 (i : Int), .int .i64 (j : Int), .pointer (some ⟨b1, 0, none⟩)] w fun e w' => e = .returned (.int .i64 (cfI xs i j)) ∧ Below w.heap.size w w' := by
  obtain ⟨p0, p1, p2, p3, p4, p5, p6, p7⟩ := booksAt_some hat hi
  obtain ⟨q0, q1, q2, q3, q4, q5, q6, q7⟩ := booksAt_some hat hj
  have CC := Lib.hid (fun W => compareBooks_any xs[i] xs[j] (wf _ (List.getElem_mem hi)) (wf _ (List.getElem_mem hj)) W)
  have E := Lib.hid (show cfI xs i j = usual xs[i] xs[j] by unfold cfI; rw [Int.toNat_natCast, Int.toNat_natCast, getD_nth hi, getD_nth hj])
  have p0 := belowBy_cell z2 p0; have p1 := belowBy_cell z2 p1; have p2 := belowBy_cell z2 p2; have p3 := belowBy_cell z2 p3
  have p4 := belowBy_cell z2 p4; have p5 := belowBy_cell z2 p5; have p6 := belowBy_cell z2 p6; have p7 := belowBy_cell z2 p7
  have q0 := belowBy_cell z2 q0; have q1 := belowBy_cell z2 q1; have q2 := belowBy_cell z2 q2; have q3 := belowBy_cell z2 q3
  have q4 := belowBy_cell z2 q4; have q5 := belowBy_cell z2 q5; have q6 := belowBy_cell z2 q6; have q7 := belowBy_cell z2 q7
  have hb := belowBy_cell z1 hb
  have i1 : (i : Int) < (xs.length : Int) := by omega
  have j1 : (j : Int) < (xs.length : Int) := by omega
  clear hat wf
  generalize xs[i] = x at *
  generalize xs[j] = y at *
  go_enter Try.func108, Try.ntmps108
  go_wp2
  refine wp_region_below (by kernel_rfl) (by kernel_rfl) ?_
  repeat (first | quiet_step ((go_at_call 109; exact calls_below (CC.out _))) | go_big_quiet_step ((go_at_call 109; exact calls_below (CC.out _))))
  refine wpQuiet_nil ?_
  rintro _ ⟨⟨wq, hq⟩, rfl⟩
  clear p0 p1 p2 p3 p4 p5 p6 p7 q0 q1 q2 q3 q4 q5 q6 q7 hb
  go_wp2
  go_ret
  exact ⟨by rw [E.out]; rfl, hq⟩

set_option maxHeartbeats 2000000 in
theorem inOrder1_any (bx b1 ga oa c i j : Nat) (xs : List Bk) (wf : ∀ b ∈ xs, b.Wf) (w : World) (hi : i < xs.length) (hj : j < xs.length) (hn : xs.length ≤ 1048576) (hx : w.cell? ⟨bx, 0, none⟩ = some (.func (.func 108) #[] #[.pointer (some ⟨b1, 0, none⟩)])) (hb : w.cell? ⟨b1, 0, none⟩ = some (.slice (some ⟨ga, oa, none⟩) xs.length c)) (hat : BooksAt w ga oa xs) (z1 : b1 < w.heap.size) (z2 : ga < w.heap.size) :
    Calls Try.prog 141 #[.int .i64 (i : Int), .int .i64 (j : Int), .pointer (some ⟨bx, 0, none⟩)] w fun e w' => e = .returned (.int .i64 (cfI xs i j)) ∧ Below w.heap.size w w' := by
  have CC := Lib.hid (sortedIndices1_any b1 ga oa c i j xs wf w hi hj hn hb hat z1 z2)
  clear hb hat wf
  go_enter Try.func141, Try.ntmps141
  go_wp2_with (go_at_call 108; refine (CC.out).mono ?_; rintro e w1 ⟨rfl, g1⟩)
  go_ret
  exact ⟨rfl, g1⟩

theorem cmpI_of (bx b1 ga oa c g : Nat) (xs : List Bk) (wf : ∀ b ∈ xs, b.Wf) (w : World) (hn : xs.length ≤ 1048576) (hx : w.cell? ⟨bx, 0, none⟩ = some (.func (.func 108) #[] #[.pointer (some ⟨b1, 0, none⟩)])) (hb : w.cell? ⟨b1, 0, none⟩ = some (.slice (some ⟨ga, oa, none⟩) xs.length c)) (hat : BooksAt w ga oa xs) (zx : bx < w.heap.size) (z1 : b1 < w.heap.size) (z2 : ga < w.heap.size)
    (n0 : bx ≠ g) (n1 : b1 ≠ g) (n2 : ga ≠ g) : CmpI g bx w (fun x => 0 ≤ x ∧ x < xs.length) (cfI xs) := by
  intro W hW x y hx1 hy1
  obtain ⟨i, rfl⟩ : ∃ i : Nat, x = i := ⟨x.toNat, by omega⟩
  obtain ⟨j, rfl⟩ : ∃ j : Nat, y = j := ⟨y.toNat, by omega⟩
  have ne : ∀ {k : Nat}, k ≠ g → some k ≠ some g := fun h e => h (by injection e)
  have keep : ∀ {k o : Nat} {u : Value}, k < w.heap.size → k ≠ g → w.cell? ⟨k, o, none⟩ = some u → W.cell? ⟨k, o, none⟩ = some u := fun hk hne h =>
    (World.cell?_of_block (a := ⟨_, _, none⟩) (hW.block _ hk (ne hne))).trans h
  exact inOrder1_any bx b1 ga oa c i j xs wf W (by omega) (by omega) hn (keep zx n0 hx) (keep z1 n1 hb) (fun i hi j v hv => keep z2 n2 (hat i hi j v hv)) (Nat.lt_of_lt_of_le z1 hW.size) (Nat.lt_of_lt_of_le z2 hW.size)

set_option maxHeartbeats 4000000 in
theorem inOrder_any (b1 ga oa c gi ci : Nat) (xs : List Bk) (wf : ∀ b ∈ xs, b.Wf) (w : World) (h0 : 0 < xs.length) (hn : xs.length ≤ 1048576) (hi : RowI w gi xs.length (rngI xs.length)) (hb : w.cell? ⟨b1, 0, none⟩ = some (.slice (some ⟨ga, oa, none⟩) xs.length c)) (hat : BooksAt w ga oa xs) (z1 : b1 < w.heap.size) (z2 : ga < w.heap.size) :
    Calls Try.prog 107 #[.slice (some ⟨gi, 0, none⟩) xs.length ci, .func (.func 108) #[] #[.pointer (some ⟨b1, 0, none⟩)]] w fun e w' => ∃ g cap, e = .returned (.slice (some ⟨g, 0, none⟩) xs.length cap) ∧ w.heap.size ≤ g ∧ RowI w' g xs.length (srt xs) ∧ Below w.heap.size w w' := by
  obtain ⟨i0, hi0, hz0, hz1, hz2⟩ := info_parts infoInt0
  obtain ⟨FT, hFT⟩ : ∃ o : Obj, o = .cells #[.func (.func 108) #[] #[.pointer (some ⟨b1, 0, none⟩)]] 143 := ⟨_, rfl⟩
  have G1 := Lib.hid (show Below w.heap.size w (w.alloc FT) from (Below.refl _ _).alloc (Nat.le_refl _) _)
  have HI := Lib.hid (hi.below G1.out)
  have HX := Lib.hid (show (w.alloc FT).cell? ⟨w.heap.size, 0, none⟩ = some (.func (.func 108) #[] #[.pointer (some ⟨b1, 0, none⟩)]) by rw [hFT]; exact cell_of_row _ _ 0 _ _ _ (heap_alloc_new w _))
  have HB := Lib.hid ((G1.out.cell (p := ⟨b1, 0, none⟩) z1).trans hb)
  have HA := Lib.hid (hat.below G1.out z2)
  have Z := Lib.hid (show (w.alloc FT).heap.size = w.heap.size + 1 by simp)
  have OW := Lib.hid (show (w.alloc FT).ownsRow (w.heap.size + 1) 3 1 (.slice none 0 0) 0 [] from ⟨rfl, .inl ⟨rfl, rfl⟩⟩)
  have WF := Lib.hid wf
  have OKR := Lib.hid (show ∀ k, k < xs.length → 0 ≤ (rngI xs.length).getD k default ∧ (rngI xs.length).getD k default < xs.length by
    intro k hk
    have : (rngI xs.length).getD k default = k := by rw [List.getD_eq_getElem?_getD, List.getElem?_eq_getElem (by rw [rngI_length]; exact hk), Option.getD_some, rngI_get]
    rw [this]; omega)
  have LEN := rngI_length xs.length
  clear hi hb hat wf
  obtain ⟨R, hR⟩ : ∃ R, rngI xs.length = R := ⟨_, rfl⟩
  have SR := Lib.hid (show srt xs = stableF (ltC (cfI xs)) R by rw [← hR]; rfl)
  rw [hR] at HI OKR LEN
  clear hR
  have LEN := Lib.hid LEN
  go_enter Try.func107, Try.ntmps107
  go_wp2_with (at_builtin; refine wpList_append_own _ rfl (.const (.slice none 0 0)) (.tmp 6) _ rfl (w.heap.size + 1) 3 i0 (.int .i64 0) 1 8 Try.underlying100 hi0 hz0 hz1 hz2 rfl (by decide) _ _ _ rfl (by rw [← hFT]; exact OW.out) ⟨gi, 0, none⟩ xs.length ci (R.map (Value.int .i64)) rfl ?c0 ?c1 ?c2 ?c3 ?c4 ?c5 ?_)
  case c0 => simp [LEN.out]
  case c1 =>
    intro j u hu
    obtain ⟨z, hz, rfl⟩ := List.mem_map.1 (List.mem_of_getElem? hu)
    have hj : j < R.length := by have := (List.getElem?_eq_some_iff.1 hu).1; simpa using this
    have e : (R.map (Value.int .i64))[j]? = some (.int .i64 (R.getD j default)) := by simp [List.getD, List.getElem?_eq_getElem hj]
    rw [e] at hu
    injection hu with hu
    rw [← hu, ← hFT, Addr.add_lit, Nat.zero_add]
    exact HI.out.cell j (by have := LEN.out; omega)
  case c2 =>
    intro u hu
    obtain ⟨z, hz, rfl⟩ := List.mem_map.1 hu
    rfl
  case c3 => unfold maxLen; omega
  case c4 => omega
  case c5 => rw [← hFT, Z.out]; exact Nat.le_refl _
  intro v' w2 hown' hgrow' hne'
  rw [← hFT] at hgrow'
  have g2 : Below (w.alloc FT).heap.size (w.alloc FT) w2 := ⟨hgrow'.os, hgrow'.tape, hgrow'.output, hgrow'.size, fun i hi => hgrow'.block i hi (by simp [Value.ownBlock])⟩
  obtain ⟨g, cap, rfl⟩ : ∃ g cap, v' = .slice (some ⟨g, 0, none⟩) xs.length cap := by
    rcases hown'.2 with ⟨h, hn0⟩ | ⟨g, cap, cur, h, _⟩
    · omega
    · exact ⟨g, cap, h⟩
  obtain ⟨hgb, hri⟩ := rowI_of_own hown' LEN.out.symm
  have zz := g2.size
  have z3 := Z.out
  have CM := Lib.hid (cmpI_of w.heap.size b1 ga oa c g xs WF.out w2 hn ((g2.cell (p := ⟨w.heap.size, 0, none⟩) (show w.heap.size < (w.alloc FT).heap.size by omega)).trans HX.out) ((g2.cell (p := ⟨b1, 0, none⟩) (show b1 < (w.alloc FT).heap.size by omega)).trans HB.out) (HA.out.below g2 (by omega)) (by omega) (by omega) (by omega) (by omega) (by omega) (by omega))
  have CC := Lib.hid (sortStable_any g xs.length cap w.heap.size _ (cfI xs) R w2 w2 ⟨hri, OKR.out⟩ (World.grownBy.refl w2 _) CM.out hn)
  have G2 := Lib.hid (bnext G1.out g2)
  have HGB := Lib.hid hgb
  clear hown' hgrow' hne' g2 hri zz z3 CM hgb
  go_wp2_with fail
  refine (CC.out).mono ?_
  rintro e w3 ⟨rfl, ⟨h3, -⟩, g3⟩
  have G3 := Lib.hid (G2.out.grown g3 G2.out.size (fun k hk => by injection hk with hk; have := HGB.out; omega))
  have H3 := Lib.hid h3
  clear h3 g3 CC
  go_wp2
  go_ret
  exact ⟨g, cap, rfl, by have := HGB.out; omega, by rw [SR.out]; exact H3.out, G3.out⟩

set_option maxHeartbeats 2000000 in
theorem ins0_any (F : Value) (w : World) : Calls Try.prog 159 #[.slice none 0 0, .int .i64 0, .int .i64 0, F] w fun e w' => e = .returned (.tuple #[]) ∧ w = w' := by
  go_enter Try.func159, Try.ntmps159
  go_wp2
  refine wp_loop_rounds 1 ?_
  rw [rounds_succ]
  go_wp2
  go_returns
  exact ⟨rfl, rfl⟩
set_option maxHeartbeats 2000000 in
theorem stable0_any (F : Value) (w : World) : Calls Try.prog 154 #[.slice none 0 0, .int .i64 0, F] w fun e w' => e = .returned (.tuple #[]) ∧ w = w' := by
  go_enter Try.func154, Try.ntmps154
  go_wp2
  refine wp_loop_rounds 1 ?_
  rw [rounds_succ]
  go_wp2_with (go_at_call 159; refine (ins0_any _ _).mono ?_; rintro e w' ⟨rfl, rfl⟩)
  refine wp_loop_rounds 1 ?_
  rw [rounds_succ]
  go_wp2
  go_returns
  exact ⟨rfl, rfl⟩
set_option maxHeartbeats 1000000 in
theorem sortStable0_any (F : Value) (w : World) : Calls Try.prog 140 #[.slice none 0 0, F] w fun e w' => e = .returned (.tuple #[]) ∧ w = w' := by
  go_enter Try.func140, Try.ntmps140
  go_wp2_with (go_at_call 154; refine (stable0_any _ _).mono ?_; rintro e w' ⟨rfl, rfl⟩)
  go_returns
  exact ⟨rfl, rfl⟩
set_option maxHeartbeats 2000000 in
theorem inOrder0_any (b1 gi ci : Nat) (w : World) :
    Calls Try.prog 107 #[.slice (some ⟨gi, 0, none⟩) 0 ci, .func (.func 108) #[] #[.pointer (some ⟨b1, 0, none⟩)]] w fun e w' => e = .returned (.slice none 0 0) ∧ Below w.heap.size w w' := by
  obtain ⟨i0, hi0, hz0, hz1, hz2⟩ := info_parts infoInt0
  obtain ⟨FT, hFT⟩ : ∃ o : Obj, o = .cells #[.func (.func 108) #[] #[.pointer (some ⟨b1, 0, none⟩)]] 143 := ⟨_, rfl⟩
  have G1 := Lib.hid (show Below w.heap.size w (w.alloc FT) from (Below.refl _ _).alloc (Nat.le_refl _) _)
  have Z := Lib.hid (show (w.alloc FT).heap.size = w.heap.size + 1 by simp)
  have OW := Lib.hid (show (w.alloc FT).ownsRow (w.heap.size + 1) 3 1 (.slice none 0 0) 0 [] from ⟨rfl, .inl ⟨rfl, rfl⟩⟩)
  go_enter Try.func107, Try.ntmps107
  go_wp2_with (at_builtin; refine wpList_append_own _ rfl (.const (.slice none 0 0)) (.tmp 6) _ rfl (w.heap.size + 1) 3 i0 (.int .i64 0) 1 8 Try.underlying100 hi0 hz0 hz1 hz2 rfl (by decide) _ _ _ rfl (by rw [← hFT]; exact OW.out) ⟨gi, 0, none⟩ 0 ci [] rfl rfl (fun j u hu => by simp at hu) (fun u hu => by simp at hu) (by simp) (by simp) (by rw [← hFT, Z.out]; exact Nat.le_refl _) ?_)
  intro v' w2 hown' hgrow' hne'
  obtain rfl : v' = .slice none 0 0 := by simpa using hne'
  rw [← hFT] at hgrow'
  have g2 : Below (w.alloc FT).heap.size (w.alloc FT) w2 := ⟨hgrow'.os, hgrow'.tape, hgrow'.output, hgrow'.size, fun i hi => hgrow'.block i hi (by simp [Value.ownBlock])⟩
  have G2 := Lib.hid (bnext G1.out g2)
  clear hown' hgrow' hne' g2
  go_wp2_with fail
  refine (sortStable0_any _ _).mono ?_
  rintro e w3 ⟨rfl, rfl⟩
  go_wp2
  go_ret
  exact ⟨rfl, G2.out⟩

set_option maxHeartbeats 2000000 in
theorem sortedIndices_any (v : Value) (xs : List Bk) (wf : ∀ b ∈ xs, b.Wf) (w : World) (hs : SliceOf w v xs) (hn : xs.length ≤ 1048576) :
    Calls Try.prog 76 #[v] w fun e w' => ∃ A cap, e = .returned (.slice A xs.length cap) ∧ (0 < xs.length → ∃ g, A = some ⟨g, 0, none⟩ ∧ w.heap.size ≤ g ∧ RowI w' g xs.length (srt xs)) ∧ Below w.heap.size w w' := by
  obtain ⟨A, c, rfl, hat⟩ := hs
  have G1 := Lib.hid (show Below w.heap.size w (w.alloc (.cells #[.slice A xs.length c] 27)) from (Below.refl _ _).alloc (Nat.le_refl _) _)
  have HS := Lib.hid ((show SliceOf w (.slice A xs.length c) xs from ⟨A, c, rfl, hat⟩).below G1.out)
  have HB := Lib.hid (show (w.alloc (.cells #[.slice A xs.length c] 27)).cell? ⟨w.heap.size, 0, none⟩ = some (.slice A xs.length c) from cell_of_row _ _ 0 _ _ _ (heap_alloc_new w _))
  have Z := Lib.hid (show (w.alloc (.cells #[.slice A xs.length c] 27)).heap.size = w.heap.size + 1 by simp)
  have WF := Lib.hid wf
  have HA := Lib.hid hat
  clear hat wf
  go_enter Try.func76, Try.ntmps76
  go_wp2_with fail
  refine (indicesOf_any _ xs _ HS.out hn).mono ?_
  rintro e w2 ⟨gi, rfl, hgi, hri, g2⟩
  have HRI := Lib.hid hri
  have G2 := Lib.hid g2
  clear hri
  by_cases h0 : xs.length = 0
  · have e0 : ((xs.length : Nat) : Int) = 0 := by omega
    rw [h0]
    go_wp2_with fail
    refine (inOrder0_any w.heap.size gi 0 _).mono ?_
    rintro e w3 ⟨rfl, g3⟩
    go_wp2
    go_ret
    exact ⟨none, 0, by rw [h0]; rfl, fun h => absurd h (by omega), bnext (bnext G1.out g2) g3⟩
  · have h1 : 0 < xs.length := by omega
    obtain ⟨ga, oa, rfl, hga, hba⟩ := HA.out h1
    have z := Z.out
    have zz := g2.size
    have CC := Lib.hid (inOrder_any w.heap.size ga oa c gi xs.length xs WF.out w2 h1 hn HRI.out ((g2.cell (p := ⟨w.heap.size, 0, none⟩) (show w.heap.size < (w.alloc (.cells #[.slice (some ⟨ga, oa, none⟩) xs.length c] 27)).heap.size by omega)).trans HB.out) ((hba.below G1.out hga).below g2 (by omega)) (by omega) (by omega))
    clear hba z zz
    go_wp2_with fail
    refine (CC.out).mono ?_
    rintro e w3 ⟨g, cap, rfl, hg, hr, g3⟩
    have HR := Lib.hid hr
    clear hr CC
    have zz := (bnext G1.out g2).size
    go_wp2
    go_ret
    exact ⟨_, cap, rfl, fun _ => ⟨g, rfl, by omega, HR.out⟩, bnext (bnext G1.out g2) g3⟩

end Go.Proofs.Ytjfhpgomaahgoab
