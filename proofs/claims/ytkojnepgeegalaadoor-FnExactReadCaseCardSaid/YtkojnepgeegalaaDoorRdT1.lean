/- ReadAct, by the program: contracts. Condition: the two error variables hold two different errors of errors.New's make; a text no longer than told. -/
import Derived.Test.YtkojnepgeegalaaDoorRdT0
import Derived.Test.YtkojnepgeegalaaDoorRdV1
namespace Go.Proofs.YtkojnepgeegalaaDoor
set_option linter.unusedSimpArgs false
set_option linter.unusedVariables false
set_option maxRecDepth 100000
open Go.RowKit

theorem within8A (x : UInt8) (w : World) :
    Calls Tryd.prog 79 #[.int .u8 (x.toNat : Int), .int .u8 97, .int .u8 122] w fun e w' => e = .returned (.bool (isLow x)) ∧ w = w' := by
  unfold isLow
  by_cases h1 : (97 : Int) ≤ (x.toNat : Int)
  · by_cases h2 : (x.toNat : Int) ≤ 122
    · rw [decide_eq_true (by omega)]
      go_enter Tryd.func79, Tryd.ntmps79
      go_wp2
      go_ret
      exact ⟨rfl, rfl⟩
    · rw [decide_eq_false (by omega)]
      go_enter Tryd.func79, Tryd.ntmps79
      go_wp2
      go_ret
      exact ⟨rfl, rfl⟩
  · have h1' : (x.toNat : Int) < 97 := by omega
    rw [decide_eq_false (by omega)]
    go_enter Tryd.func79, Tryd.ntmps79
    go_wp2
    go_ret
    exact ⟨rfl, rfl⟩
theorem word_text {T : ByteArray} {p j : Nat} (h : p + j ≤ T.size) : T.extract p (p + j) = strOf ((restT T p).take j) := by
  rw [extract_of, show p + j - p = j by omega]
  rfl
theorem wordS_of {T : ByteArray} {p j : Nat} (hl : ∀ x ∈ (restT T p).take j, isLow x = true) (hn : NoLow (restT T (p + j))) : WordS T p ((restT T p).take j) (p + j) :=
  ⟨by rw [← restT_add, List.take_append_drop], hl, hn⟩
set_option maxHeartbeats 8000000 in
theorem word_any (g : Nat) (hg : g ≠ 0) (T : ByteArray) (hT : T.size ≤ 1048576) (p : Nat) (f : Bool) (y : Addr) (w : World) (h : Rd w g T p f y) (hs : Syn w y) :
    Calls Tryd.prog 78 #[.pointer (some ⟨g, 0, none⟩)] w fun e w' => ∃ (wd : List UInt8) (q : Nat), e = .returned (.string (strOf wd)) ∧ WordS T p wd q ∧ Rd w' g T q f y ∧ Gr g w w' := by
  have S := Lib.hid hs
  have hp := h.le
  have c1 := h.c1
  have H := Lib.hid h
  clear h hs
  go_enter Tryd.func78, Tryd.ntmps78
  go_wp2
  clear c1
  go_loopw [] (fun wr => ∃ (j : Nat), p + j ≤ T.size ∧ (∀ x ∈ (restT T p).take j, isLow x = true) ∧ Rd wr g T (p + j) f y ∧ Gr g w wr) (fun wr => T.size - posR wr g)
  case atStart => exact ⟨0, hp, fun _ h => (by simp at h), H.out, Gr.refl _ _⟩
  case round =>
    obtain ⟨j, hj, hd, r, gr⟩ := hrel
    have HD := Lib.hid hd
    have R := Lib.hid r
    have G := Lib.hid gr
    have AE := Lib.hid (fun W (hb : Below wr.heap.size wr W) => atEnd_any g T (p + j) f y W (r.below hb))
    obtain ⟨q, eq⟩ : ∃ q, q = p + j := ⟨_, rfl⟩
    rw [← eq] at AE R hj
    have hpos := r.pos
    rw [← eq] at hpos
    have HPO := Lib.hid hpos
    have EQ := Lib.hid eq
    have hpq : p ≤ q := by omega
    clear hd gr r hpos eq
    by_cases hend : q = T.size
    · have ND := Lib.hid (show NoLow (restT T q) by rw [restT_end (by omega)]; trivial)
      rw [decide_eq_true hend] at AE
      have HE := Lib.hid hend
      clear hend
      have HX := Lib.hid (show T.extract p q = strOf ((restT T p).take j) by rw [EQ.out]; exact word_text (by have := EQ.out; omega))
      have p0 := belowBy_cell R.out.lt R.out.c0
      have p1 := belowBy_cell R.out.lt R.out.c1
      go_wp2
      refine wp_region_below (by kernel_rfl) (by kernel_rfl) ?_
      iterate 15 (first | go_big_quiet_step ((go_at_call 45; with_reducible exact calls_below (AE.out _ (BelowBy.h _)))) | quiet_step ((go_at_call 45; with_reducible exact calls_below (AE.out _ (BelowBy.h _)))))
      refine wpQuiet_nil ?_
      rintro w2 ⟨⟨_, hq⟩, rfl⟩
      have R2 := Lib.hid (R.out.below hq)
      have G2 := Lib.hid (G.out.trans (Gr.of hq))
      clear p0 p1 hq
      have p0 := belowBy_cell R2.out.lt R2.out.c0
      have p1 := belowBy_cell R2.out.lt R2.out.c1
      have k0 : (0 : Int) ≤ (p : Int) := by omega
      have k1 : (p : Int) ≤ (q : Int) := by omega
      have k2 : (q : Int) ≤ (T.size : Int) := by omega
      go_wp2
      refine wp_region_below (by kernel_rfl) (by kernel_rfl) ?_
      iterate 11 (first | go_big_quiet_step (fail) | quiet_step (fail))
      refine wpQuiet_nil ?_
      rintro w3 ⟨⟨_, hq⟩, rfl⟩
      have R3 := Lib.hid (R2.out.below hq)
      have G3 := Lib.hid (G2.out.trans (Gr.of hq))
      clear p0 p1 hq
      go_wp2
      go_ret
      exact ⟨(restT T p).take j, q, by rw [HX.out]; rfl, by have h := ND.out; rw [EQ.out] at h ⊢; exact wordS_of HD.out h, R3.out, G3.out⟩
    have hlt : q < T.size := by omega
    rw [decide_eq_false hend] at AE
    have iq0 : (0 : Int) ≤ (q : Int) := by omega
    have iq1 : (q : Int) < (T.size : Int) := by omega
    cases hdg : isLow T[q]
    · have ND := Lib.hid (show NoLow (restT T q) by rw [restT_cons hlt]; exact hdg)
      have WD := Lib.hid (fun W => within8A T[q] W)
      rw [hdg] at WD
      clear hdg hend
      have HX := Lib.hid (show T.extract p q = strOf ((restT T p).take j) by rw [EQ.out]; exact word_text (by have := EQ.out; omega))
      have p0 := belowBy_cell R.out.lt R.out.c0
      have p1 := belowBy_cell R.out.lt R.out.c1
      go_wp2
      refine wp_region_below (by kernel_rfl) (by kernel_rfl) ?_
      iterate 15 (first | go_big_quiet_step ((first | (go_at_call 45; with_reducible exact calls_below (AE.out _ (BelowBy.h _))) | (go_at_call 79; with_reducible exact calls_same_below (WD.out _)))) | quiet_step ((first | (go_at_call 45; with_reducible exact calls_below (AE.out _ (BelowBy.h _))) | (go_at_call 79; with_reducible exact calls_same_below (WD.out _)))))
      refine wpQuiet_nil ?_
      rintro w2 ⟨⟨_, hq⟩, rfl⟩
      have R2 := Lib.hid (R.out.below hq)
      have G2 := Lib.hid (G.out.trans (Gr.of hq))
      clear p0 p1 hq
      have p0 := belowBy_cell R2.out.lt R2.out.c0
      have p1 := belowBy_cell R2.out.lt R2.out.c1
      have k0 : (0 : Int) ≤ (p : Int) := by omega
      have k1 : (p : Int) ≤ (q : Int) := by omega
      have k2 : (q : Int) ≤ (T.size : Int) := by omega
      go_wp2
      refine wp_region_below (by kernel_rfl) (by kernel_rfl) ?_
      iterate 11 (first | go_big_quiet_step (fail) | quiet_step (fail))
      refine wpQuiet_nil ?_
      rintro w3 ⟨⟨_, hq⟩, rfl⟩
      have R3 := Lib.hid (R2.out.below hq)
      have G3 := Lib.hid (G2.out.trans (Gr.of hq))
      clear p0 p1 hq
      go_wp2
      go_ret
      exact ⟨(restT T p).take j, q, by rw [HX.out]; rfl, by have h := ND.out; rw [EQ.out] at h ⊢; exact wordS_of HD.out h, R3.out, G3.out⟩
    · have WD := Lib.hid (fun W => within8A T[q] W)
      rw [hdg] at WD
      have ET : (restT T p).take (j + 1) = (restT T p).take j ++ [T[q]] := by
        have h := take_rest (T := T) (p := p) (j := j) (by have := EQ.out; omega)
        have e := EQ.out
        subst e
        exact h
      have HD2 := Lib.hid (show ∀ x ∈ (restT T p).take (j + 1), isLow x = true by
        rw [ET]
        intro x hx
        rcases List.mem_append.1 hx with h | h
        · exact HD.out x h
        · rw [List.mem_singleton] at h; rw [h]; exact hdg)
      obtain ⟨q2, eq2⟩ : ∃ q2, q2 = q + 1 := ⟨_, rfl⟩
      have m5 : IntKind.i64.wrap ((q : Int) + 1) = (q2 : Int) := by rw [show (q2 : Int) = (q : Int) + 1 by omega]; exact IntWalk.i64_in _ (by omega)
      have q2le : q2 ≤ T.size := by omega
      have EQ2 := Lib.hid (show q2 = p + (j + 1) by have := EQ.out; omega)
      have EQ3 := Lib.hid eq2
      have p0 := belowBy_cell R.out.lt R.out.c0
      have p1 := belowBy_cell R.out.lt R.out.c1
      clear hdg hend ET eq2
      go_wp2
      refine wp_region_below (by kernel_rfl) (by kernel_rfl) ?_
      iterate 15 (first | go_big_quiet_step ((first | (go_at_call 45; with_reducible exact calls_below (AE.out _ (BelowBy.h _))) | (go_at_call 79; with_reducible exact calls_same_below (WD.out _)))) | quiet_step ((first | (go_at_call 45; with_reducible exact calls_below (AE.out _ (BelowBy.h _))) | (go_at_call 79; with_reducible exact calls_same_below (WD.out _)))))
      refine wpQuiet_nil ?_
      rintro w2 ⟨⟨_, hq⟩, rfl⟩
      have R2 := Lib.hid (R.out.below hq)
      have G2 := Lib.hid (G.out.trans (Gr.of hq))
      clear p0 p1 hq
      have c1 := R2.out.c1
      have fz := R2.out.fz 1
      have R4 := Lib.hid (R2.out.to (q := q2) q2le)
      have G4 := Lib.hid (G2.out.set 1 (.int .i64 (q2 : Int)))
      have HM := Lib.hid (show T.size - posR (w2.setCell ⟨g, 1, none⟩ (.int .i64 (q2 : Int))) g < T.size - posR wr g by rw [R4.out.pos, HPO.out]; have := EQ3.out; omega)
      have R5 := Lib.hid (show Rd (w2.setCell ⟨g, 1, none⟩ (.int .i64 (q2 : Int))) g T (p + (j + 1)) f y by rw [← EQ2.out]; exact R4.out)
      go_wp2
      exact ⟨⟨j + 1, by have := EQ2.out; omega, HD2.out, R5.out, G4.out⟩, HM.out⟩
/-- The words in memory. -/
structure WordsAt (w : World) (g : Nat) : Prop where
  c : ∀ k, k < 6 → w.cell? ⟨g, k, none⟩ = some (.string (strOf (acW.getD k [])))
  lt : g < w.heap.size
theorem words_new (w : World) (t : TypeId) : WordsAt (w.alloc (.cells #[.string (strOf (acW.getD 0 [])), .string (strOf (acW.getD 1 [])), .string (strOf (acW.getD 2 [])), .string (strOf (acW.getD 3 [])), .string (strOf (acW.getD 4 [])), .string (strOf (acW.getD 5 []))] t)) w.heap.size := by
  refine ⟨fun k hk => ?_, by simp⟩
  rw [cell_of_row _ _ k _ _ _ (heap_alloc_new w _)]
  match k, hk with
  | 0, _ => rfl
  | 1, _ => rfl
  | 2, _ => rfl
  | 3, _ => rfl
  | 4, _ => rfl
  | 5, _ => rfl
theorem WordsAt.gr {w w' : World} {g k : Nat} (h : WordsAt w g) (hg : Gr k w w') (hne : g ≠ k) : WordsAt w' g :=
  ⟨fun j hj => (World.cell?_of_block (hg.block g h.lt (fun e => hne (by injection e)))).trans (h.c j hj), Nat.lt_of_lt_of_le h.lt hg.size⟩
theorem strOf_inj {a b : List UInt8} (h : strOf a = strOf b) : a = b := by
  have := congrArg (fun s : ByteArray => s.data.toList) h
  simpa [strOf] using this
theorem strOf_toL {X : List UInt8} : (strOf X).toList = X := by
  rw [ByteArray.toList_eq]
  simp [strOf]
theorem strOf_ne {a b : List UInt8} (h : a ≠ b) : ((strOf a).toList == (strOf b).toList) = false := by
  rw [strOf_toL, strOf_toL, beq_eq_false_iff_ne]
  exact h
set_option maxHeartbeats 1000000 in
theorem actWords_any (w : World) : Calls Tryd.prog 77 #[] w fun e w' => e = .returned (.slice (some ⟨w.heap.size, 0, none⟩) 6 6) ∧ WordsAt w' w.heap.size ∧ Below w.heap.size w w' := by
  have HW := Lib.hid (words_new w 9)
  have HB := Lib.hid ((Below.refl w.heap.size w).alloc (Nat.le_refl _) (.cells #[.string (strOf (acW.getD 0 [])), .string (strOf (acW.getD 1 [])), .string (strOf (acW.getD 2 [])), .string (strOf (acW.getD 3 [])), .string (strOf (acW.getD 4 [])), .string (strOf (acW.getD 5 []))] 9))
  go_enter Tryd.func77, Tryd.ntmps77
  go_wp2
  go_ret
  exact ⟨rfl, HW.out, HB.out⟩
set_option maxHeartbeats 2000000 in
theorem indexW_yes (g i : Nat) (hi : i < 6) (w : World) (h : WordsAt w g) :
    Calls Tryd.prog 76 #[.slice (some ⟨g, 0, none⟩) 6 6, .string (strOf (acW.getD i []))] w fun e w' => e = .returned (.int .i64 (i : Int)) ∧ w = w' := by
  have HC := Lib.hid h.c
  obtain ⟨sv, esv⟩ : ∃ sv, strOf (acW.getD i []) = sv := ⟨_, rfl⟩
  have ESV := Lib.hid esv
  rw [esv]
  clear h esv
  go_enter Tryd.func76, Tryd.ntmps76
  go_wp2
  go_loopw [8] (fun i_ wr => ∃ j : Nat, j ≤ i ∧ i_ = .int .i64 (j : Int) ∧ w = wr) (fun i_ _ => i - (intOf i_).toNat)
  case atStart => exact ⟨0, Nat.zero_le _, rfl, rfl⟩
  case round =>
    obtain ⟨j, hj, rfl, hw⟩ := hrel
    subst hw
    have q0 := HC.out j (by omega)
    have j6 : (j : Int) < 6 := by omega
    have NE := Lib.hid (fun (h : j ≠ i) => show (sv.toList == (strOf (acW.getD j [])).toList) = false by
      rw [← ESV.out]
      exact strOf_ne (fun e => h (acW_inj _ (by omega) _ hi e.symm)))
    have EE := Lib.hid (fun (h : j = i) => show strOf (acW.getD j []) = sv by rw [h]; exact ESV.out)
    generalize strOf (acW.getD j []) = s at q0 NE EE
    by_cases hji : j = i
    · have e := EE.out hji
      rw [e] at q0
      obtain rfl := hji
      clear e
      go_wp2
      go_ret
      exact ⟨rfl, rfl⟩
    · have d2 := NE.out hji
      go_wp2
      exact ⟨⟨j + 1, by omega, by go_num, trivial⟩, by simp only [intOf]; omega⟩
set_option maxHeartbeats 2000000 in
theorem indexW_no (g : Nat) (wd : List UInt8) (hn : wd ∉ acW) (w : World) (h : WordsAt w g) :
    Calls Tryd.prog 76 #[.slice (some ⟨g, 0, none⟩) 6 6, .string (strOf wd)] w fun e w' => e = .returned (.int .i64 (-1)) ∧ w = w' := by
  have HC := Lib.hid h.c
  have NE := Lib.hid (fun (j : Nat) (hj : j < 6) => strOf_ne (a := wd) (b := acW.getD j []) (fun e => hn (by rw [e]; exact acW_mem hj)))
  generalize strOf wd = sv at NE ⊢
  clear h hn
  go_enter Tryd.func76, Tryd.ntmps76
  go_wp2
  go_loopw [8] (fun i_ wr => ∃ j : Nat, j ≤ 6 ∧ i_ = .int .i64 (j : Int) ∧ w = wr) (fun i_ _ => 6 - (intOf i_).toNat)
  case atStart => exact ⟨0, Nat.zero_le _, rfl, rfl⟩
  case round =>
    obtain ⟨j, hj, rfl, hw⟩ := hrel
    subst hw
    by_cases hlt : j < 6
    · have q0 := HC.out j hlt
      have j6 : (j : Int) < 6 := by omega
      have d2 := NE.out j hlt
      generalize strOf (acW.getD j []) = s at q0 d2
      go_wp2
      exact ⟨⟨j + 1, by omega, by go_num, trivial⟩, by simp only [intOf]; omega⟩
    · obtain rfl : j = 6 := by omega
      go_wp2
      go_ret
      exact ⟨rfl, rfl⟩
def AB (W : World) (g : Nat) (a b c : Int) : Prop := W.heap[g]? = some (.cells #[.int .i8 a, .int .i8 b, .int .i8 c] 42 (0, 0))
section
variable {W W' : World} {g k : Nat} {a b c : Int}
theorem AB.lt (h : AB W g a b c) : g < W.heap.size := (Array.getElem?_eq_some_iff.1 h).1
theorem AB.gr (h : AB W g a b c) (hg : Gr k W W') (hne : g ≠ k) : AB W' g a b c := (hg.block g h.lt (fun e => hne (by injection e))).trans h
theorem AB.fz (h : AB W g a b c) (i : Nat) : W.frozen? ⟨g, i, none⟩ = false := frozen_of_row W g i _ _ h
theorem AB.c0 (h : AB W g a b c) : W.cell? ⟨g, 0, none⟩ = some (.int .i8 a) := cell_of_row W g 0 _ _ _ h
theorem AB.c1 (h : AB W g a b c) : W.cell? ⟨g, 1, none⟩ = some (.int .i8 b) := cell_of_row W g 1 _ _ _ h
theorem AB.c2 (h : AB W g a b c) : W.cell? ⟨g, 2, none⟩ = some (.int .i8 c) := cell_of_row W g 2 _ _ _ h
theorem AB.s1 (h : AB W g a b c) (z : Int) : AB (W.setCell ⟨g, 1, none⟩ (.int .i8 z)) g a z c := by
  unfold AB at *
  rw [heap_setCell_same _ _ _ _ _ _ h]
  rfl
theorem AB.s2 (h : AB W g a b c) (z : Int) : AB (W.setCell ⟨g, 2, none⟩ (.int .i8 z)) g a b z := by
  unfold AB at *
  rw [heap_setCell_same _ _ _ _ _ _ h]
  rfl
theorem AB.all (h : AB W g a b c) (x y z : Int) : AB (((W.setCell ⟨g, 0, none⟩ (.int .i8 x)).setCell ⟨g, 1, none⟩ (.int .i8 y)).setCell ⟨g, 2, none⟩ (.int .i8 z)) g x y z := by
  unfold AB at *
  have h1 := heap_setCell_same _ _ 0 _ _ (.int .i8 x) h
  have h2 := heap_setCell_same _ _ 1 _ _ (.int .i8 y) h1
  have h3 := heap_setCell_same _ _ 2 _ _ (.int .i8 z) h2
  simpa using h3
end
theorem gr3 {w W : World} {k : Nat} (x y z : Int) (h0 : Gr k w W) : Gr k w (((W.setCell ⟨w.heap.size, 0, none⟩ (.int .i8 x)).setCell ⟨w.heap.size, 1, none⟩ (.int .i8 y)).setCell ⟨w.heap.size, 2, none⟩ (.int .i8 z)) := by
  have h1 := h0.grown ((Gr.refl w.heap.size _).set 0 (.int .i8 x)) (own0 w)
  have h2 := h1.grown ((Gr.refl w.heap.size _).set 1 (.int .i8 y)) (own0 w)
  have h3 := h2.grown ((Gr.refl w.heap.size _).set 2 (.int .i8 z)) (own0 w)
  exact h3
theorem rd3 {W : World} {k g q : Nat} {T : ByteArray} {f : Bool} {yy : Addr} (x y z : Int) (h0 : Rd W k T q f yy) (hne : k ≠ g) : Rd (((W.setCell ⟨g, 0, none⟩ (.int .i8 x)).setCell ⟨g, 1, none⟩ (.int .i8 y)).setCell ⟨g, 2, none⟩ (.int .i8 z)) k T q f yy := by
  have h1 := h0.gr ((Gr.refl g _).set 0 (.int .i8 x)) hne
  have h2 := h1.gr ((Gr.refl g _).set 1 (.int .i8 y)) hne
  have h3 := h2.gr ((Gr.refl g _).set 2 (.int .i8 z)) hne
  exact h3
/-- Where the reader of an act stands: the result's box, the reader. -/
structure ASt (w W : World) (g : Nat) (T : ByteArray) (y : Addr) (q : Nat) (f : Bool) : Prop where
  rb : AB W w.heap.size 0 0 0
  rd : Rd W g T q f y
  sy : Syn W y
  gr : Gr g w W
theorem ASt.nx {w W W' : World} {g : Nat} {T : ByteArray} {y : Addr} {q q' : Nat} {f f' : Bool} (hs : Syn w y) (hn : g ≠ 0) (hl : g < w.heap.size) (h : ASt w W g T y q f) (hg : Gr g W W') (r : Rd W' g T q' f' y) : ASt w W' g T y q' f' :=
  ⟨h.rb.gr hg (by omega), r, hs.gr (h.gr.trans hg) hn, h.gr.trans hg⟩
theorem ASt.bx {w W W' : World} {g : Nat} {T : ByteArray} {y : Addr} {q : Nat} {f : Bool} (hs : Syn w y) (hn : g ≠ 0) (hl : g < w.heap.size) (h : ASt w W g T y q f) (hb : Below W.heap.size W W') : ASt w W' g T y q f :=
  h.nx hs hn hl (Gr.of hb) (h.rd.below hb)
/-- A write to a block of the call's own. -/
theorem ASt.kx {w W W' : World} {g k : Nat} {T : ByteArray} {y : Addr} {q : Nat} {f : Bool} (hs : Syn w y) (hn : g ≠ 0) (hl : g < w.heap.size) (hk : w.heap.size < k) (h : ASt w W g T y q f) (hg : Gr k W W') : ASt w W' g T y q f := by
  have k2 : Gr g w W' := h.gr.grown hg (fun b hb => .inl (by injection hb with hb; omega))
  exact ⟨h.rb.gr hg (by omega), h.rd.gr hg (by omega), hs.gr k2 hn, k2⟩
theorem ast_start (w : World) {g : Nat} {T : ByteArray} {y : Addr} {q : Nat} {f : Bool} (hs : Syn w y) (hn : g ≠ 0) (h : Rd w g T q f y) : ASt w (w.alloc (.cells #[.int .i8 0, .int .i8 0, .int .i8 0] 42)) g T y q f := by
  have b0 := (Below.refl w.heap.size w).alloc (Nat.le_refl _) (.cells #[.int .i8 0, .int .i8 0, .int .i8 0] 42)
  exact ⟨heap_alloc_new w _, h.below b0, hs.gr (Gr.of (g := g) b0) hn, Gr.of b0⟩
/-- What may be of an act. -/
def AcB (x : Nat × Nat × Nat) : Prop := x.1 < 6 ∧ x.2.1 ≤ 49 ∧ x.2.2 ≤ 59
set_option maxHeartbeats 8000000 in
theorem act_any (g : Nat) (hg : g ≠ 0) (T : ByteArray) (hT : T.size ≤ 1048576) (p : Nat) (f : Bool) (y : Addr) (w : World) (h : Rd w g T p f y) (hs : Syn w y) :
    Calls Tryd.prog 53 #[.pointer (some ⟨g, 0, none⟩)] w fun e w' => ∃ (x : Nat × Nat × Nat) (q : Nat) (f' : Bool), e = .returned (.agg #[.int .i8 (x.1 : Int), .int .i8 (x.2.1 : Int), .int .i8 (x.2.2 : Int)]) ∧ (ActS T p f x q f' ∧ AcB x) ∧ Rd w' g T q f' y ∧ Gr g w w' := by
  have HS := Lib.hid hs
  have HL := Lib.hid h.lt
  have X0 := Lib.hid (ast_start w hs hg h)
  clear h hs
  go_enter Tryd.func53, Tryd.ntmps53
  go_upto_region 1 with (fail)
  generalize World.alloc _ _ = W0 at X0 ⊢
  have ZW := X0.out.rb.lt
  go_wp2_with fail
  refine (actWords_any W0).mono ?_
  rintro e w1 ⟨rfl, hW, h1⟩
  have X1 := Lib.hid (X0.out.bx HS.out hg HL.out h1)
  have WA := Lib.hid hW
  have hgW : g < W0.heap.size := X0.out.rd.lt
  clear hW h1
  go_wp2_with fail
  refine (word_any g hg T hT p f y w1 X1.out.rd X1.out.sy).mono ?_
  rintro e w2 ⟨wd, q, rfl, hwd, r2, g2⟩
  have WS := Lib.hid hwd
  have X2 := Lib.hid (X1.out.nx HS.out hg HL.out g2 r2)
  have WB := Lib.hid (WA.out.gr g2 (by omega))
  clear hwd r2 g2
  by_cases hin : wd ∈ acW
  case neg =>
    have AS := Lib.hid (actS_none (f := f) WS.out hin (0, 0, 0))
    go_wp2_with fail
    refine (indexW_no W0.heap.size wd hin w2 WB.out).mono ?_
    rintro e w' ⟨rfl, rfl⟩
    clear hin
    go_wp2_with fail
    refine (fail_any g T q f y w2 X2.out.rd X2.out.sy).mono ?_
    rintro e w3 ⟨rfl, r3, g3⟩
    have X3 := Lib.hid (X2.out.nx HS.out hg HL.out g3 r3)
    clear r3 g3
    have r0 := X3.out.rb.c0
    have r1 := X3.out.rb.c1
    have r2 := X3.out.rb.c2
    have fz := X3.out.rb.fz
    have PR := Lib.hid (X3.out.rb.all (0 : Int) (0 : Int) (0 : Int))
    have GR := Lib.hid (gr3 (0 : Int) (0 : Int) (0 : Int) X3.out.gr)
    have RD := Lib.hid (rd3 (g := w.heap.size) (0 : Int) (0 : Int) (0 : Int) X3.out.rd (Nat.ne_of_lt HL.out))
    go_wp2
    have q0 := PR.out.c0
    have q1 := PR.out.c1
    have q2 := PR.out.c2
    exact bodyPost_ret (v := .agg #[.int .i8 (0 : Int), .int .i8 (0 : Int), .int .i8 (0 : Int)]) (by simp [results, Tryd.results53, go_sem, q0, q1, q2]) rfl ⟨(0, 0, 0), q, true, rfl, ⟨AS.out q, ⟨by show 0 < 6; omega, by show 0 ≤ 49; omega, by show 0 ≤ 59; omega⟩⟩, RD.out, GR.out⟩
  obtain ⟨i, hi, hd⟩ : ∃ i, i < 6 ∧ wd = acW.getD i [] := by
    obtain ⟨i, hi, e⟩ := List.getElem_of_mem hin
    exact ⟨i, hi, by rw [List.getD_eq_getElem?_getD, List.getElem?_eq_getElem hi]; exact e.symm⟩
  have HD := Lib.hid hd
  have IX := Lib.hid (show Calls Tryd.prog 76 #[.slice (some ⟨W0.heap.size, 0, none⟩) 6 6, .string (strOf wd)] w2 fun e w' => e = .returned (.int .i64 (i : Int)) ∧ w2 = w' from by
    rw [hd]
    exact indexW_yes W0.heap.size i hi w2 WB.out)
  have hw1 : IntKind.i8.wrap (i : Int) = (i : Int) := IntWalk.i8_in _ (by omega)
  clear hin hd
  go_wp2_with fail
  refine IX.out.mono ?_
  rintro e w' ⟨rfl, rfl⟩
  have z2 : w.heap.size < w2.heap.size := X2.out.rb.lt
  have ba := (Below.refl w2.heap.size w2).alloc (Nat.le_refl _) (.cells #[.int .i8 (i : Int), .int .i8 0, .int .i8 0] 42)
  have X4 := Lib.hid (X2.out.bx HS.out hg HL.out ba)
  have A4 := Lib.hid (show AB (w2.alloc (.cells #[.int .i8 (i : Int), .int .i8 0, .int .i8 0] 42)) w2.heap.size (i : Int) 0 0 from heap_alloc_new w2 _)
  clear ba IX
  go_upto_region 6 with (fail)
  generalize World.alloc _ _ = W4 at X4 A4 ⊢
  clear hw1
  have a0 := A4.out.c0
  by_cases h5 : i = 5
  · subst h5
    have AS := Lib.hid (actS_day (f := f) WS.out HD.out)
    have a1 := A4.out.c1
    have a2 := A4.out.c2
    have r0 := X4.out.rb.c0
    have r1 := X4.out.rb.c1
    have r2 := X4.out.rb.c2
    have fz := X4.out.rb.fz
    have PR := Lib.hid (X4.out.rb.all (5 : Int) (0 : Int) (0 : Int))
    have GR := Lib.hid (gr3 (5 : Int) (0 : Int) (0 : Int) X4.out.gr)
    have RD := Lib.hid (rd3 (g := w.heap.size) (5 : Int) (0 : Int) (0 : Int) X4.out.rd (Nat.ne_of_lt HL.out))
    go_wp2
    have q0 := PR.out.c0
    have q1 := PR.out.c1
    have q2 := PR.out.c2
    exact bodyPost_ret (v := .agg #[.int .i8 (5 : Int), .int .i8 (0 : Int), .int .i8 (0 : Int)]) (by simp [results, Tryd.results53, go_sem, q0, q1, q2]) rfl ⟨(5, 0, 0), q, f, rfl, ⟨AS.out, ⟨by show 5 < 6; omega, by show 0 ≤ 49; omega, by show 0 ≤ 59; omega⟩⟩, RD.out, GR.out⟩
  have b5 : ((i : Int) == 5) = false := by rw [beq_eq_false_iff_ne]; omega
  have b5' : ¬ ((i : Int) = 5) := by omega
  have hi4 : i ≤ 4 := by omega
  have hgA : g ≠ w2.heap.size := by have := X2.out.rd.lt; omega
  clear h5 hi
  go_wp2_with fail
  refine (skip_any g hg T hT q f y 32 32 rfl W4 X4.out.rd X4.out.sy).mono ?_
  rintro e w5 ⟨q1, f1, rfl, hk1, r5, g5⟩
  have K1 := Lib.hid hk1
  have X5 := Lib.hid (X4.out.nx HS.out hg HL.out g5 r5)
  have A5 := Lib.hid (A4.out.gr g5 (Ne.symm hgA))
  clear hk1 r5 g5 a0
  go_wp2_with fail
  refine (number_any g hg T hT q1 f1 y 49 (by omega) w5 X5.out.rd X5.out.sy).mono ?_
  rintro e w6 ⟨n, q2, f2, rfl, hn, r6, g6⟩
  have nb := num_in (by omega) hn
  obtain ⟨a, rfl⟩ : ∃ a : Nat, n = (a : Int) := ⟨n.toNat, by omega⟩
  have N2 := Lib.hid hn
  have X6 := Lib.hid (X5.out.nx HS.out hg HL.out g6 r6)
  have A6 := Lib.hid (A5.out.gr g6 (Ne.symm hgA))
  have ha : a ≤ 49 := by omega
  have hwa : IntKind.i8.wrap (a : Int) = (a : Int) := IntWalk.i8_in _ (by omega)
  have a1 := A6.out.c1
  have fz := A6.out.fz 1
  have X7 := Lib.hid (X6.out.kx HS.out hg HL.out z2 ((Gr.refl w2.heap.size w6).set 1 (.int .i8 (a : Int))))
  have A7 := Lib.hid (A6.out.s1 (a : Int))
  clear hn r6 g6 nb
  go_upto_region 10 with (fail)
  generalize World.setCell _ _ _ = W7 at X7 A7 ⊢
  clear a1 fz hwa
  go_wp2_with fail
  refine (skip_any g hg T hT q2 f2 y 32 32 rfl W7 X7.out.rd X7.out.sy).mono ?_
  rintro e w8 ⟨q3, f3, rfl, hk3, r8, g8⟩
  have K3 := Lib.hid hk3
  have X8 := Lib.hid (X7.out.nx HS.out hg HL.out g8 r8)
  have A8 := Lib.hid (A7.out.gr g8 (Ne.symm hgA))
  clear hk3 r8 g8
  go_wp2_with fail
  refine (number_any g hg T hT q3 f3 y 59 (by omega) w8 X8.out.rd X8.out.sy).mono ?_
  rintro e w9 ⟨n, q4, f4, rfl, hn, r9, g9⟩
  have nb := num_in (by omega) hn
  obtain ⟨b, rfl⟩ : ∃ b : Nat, n = (b : Int) := ⟨n.toNat, by omega⟩
  have AS := Lib.hid (actS_go (f := f) WS.out hi4 HD.out K1.out N2.out K3.out hn)
  have X9 := Lib.hid (X8.out.nx HS.out hg HL.out g9 r9)
  have A9 := Lib.hid (A8.out.gr g9 (Ne.symm hgA))
  have hb : b ≤ 59 := by omega
  have hwb : IntKind.i8.wrap (b : Int) = (b : Int) := IntWalk.i8_in _ (by omega)
  have a2 := A9.out.c2
  have fz := A9.out.fz 2
  have XA := Lib.hid (X9.out.kx HS.out hg HL.out z2 ((Gr.refl w2.heap.size w9).set 2 (.int .i8 (b : Int))))
  have AA := Lib.hid (A9.out.s2 (b : Int))
  clear hn r9 g9 nb
  go_upto_region 12 with (fail)
  generalize World.setCell _ _ _ = WA2 at XA AA ⊢
  clear a2 fz hwb
  have a0 := AA.out.c0
  have a1 := AA.out.c1
  have a2 := AA.out.c2
  have r0 := XA.out.rb.c0
  have r1 := XA.out.rb.c1
  have r2 := XA.out.rb.c2
  have fz := XA.out.rb.fz
  have PR := Lib.hid (XA.out.rb.all (i : Int) (a : Int) (b : Int))
  have GR := Lib.hid (gr3 (i : Int) (a : Int) (b : Int) XA.out.gr)
  have RD := Lib.hid (rd3 (g := w.heap.size) (i : Int) (a : Int) (b : Int) XA.out.rd (Nat.ne_of_lt HL.out))
  go_wp2
  have q0 := PR.out.c0
  have q1 := PR.out.c1
  have q2 := PR.out.c2
  exact bodyPost_ret (v := .agg #[.int .i8 (i : Int), .int .i8 (a : Int), .int .i8 (b : Int)]) (by simp [results, Tryd.results53, go_sem, q0, q1, q2]) rfl ⟨(i, a, b), q4, f4, rfl, ⟨AS.out, ⟨by show i < 6; omega, ha, hb⟩⟩, RD.out, GR.out⟩
end Go.Proofs.YtkojnepgeegalaaDoor
