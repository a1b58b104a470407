/- The reader, by the program: a numeral: a contract. Condition: the error variable holds an error of errors.New's make; a text no longer than told. -/
import Derived.Test.YtkojnepgeegalaaDoorRd2
namespace Go.Proofs.YtkojnepgeegalaaDoor
set_option linter.unusedSimpArgs false
set_option linter.unusedVariables false
set_option maxRecDepth 100000
open Go.RowKit

/-- What reading a numeral says. -/
def NumR (T : ByteArray) (p : Nat) (f : Bool) (most n : Int) (q : Nat) (f' : Bool) : Prop :=
  (NumOk most (restT T p) n (restT T q) ∧ q = p + (dec n).length ∧ f' = f) ∨ (NoNum most (restT T p) ∧ n = 0 ∧ f' = true)
/-- Where the reader stands. -/
def posR (w : World) (g : Nat) : Nat := (intOf ((w.cell? ⟨g, 1, none⟩).getD (.int .i64 0))).toNat
theorem Rd.pos {w : World} {g : Nat} {T : ByteArray} {p : Nat} {f : Bool} {y : Addr} (h : Rd w g T p f y) : posR w g = p := by
  unfold posR
  rw [h.c1]
  rfl
theorem take_rest {T : ByteArray} {p j : Nat} (h : p + j < T.size) : (restT T p).take (j + 1) = (restT T p).take j ++ [T[p + j]] := by
  have e := restT_add T p j
  rw [restT_cons h] at e
  have hl : j < (restT T p).length := by rw [restT_len]; omega
  rw [List.take_add_one, List.getElem?_eq_getElem hl]
  rw [List.drop_eq_getElem_cons hl] at e
  injection e with e1 _
  rw [e1]
  rfl
theorem head_rest {T : ByteArray} {p : Nat} (h : p < T.size) : (restT T p).head? = some T[p] := by rw [restT_cons h]; rfl
theorem within8T (x : UInt8) (w : World) :
    Calls Tryd.prog 79 #[.int .u8 (x.toNat : Int), .int .u8 48, .int .u8 57] w fun e w' => e = .returned (.bool (isDig x)) ∧ w = w' := by
  unfold isDig
  by_cases h1 : (48 : Int) ≤ (x.toNat : Int)
  · by_cases h2 : (x.toNat : Int) ≤ 57
    · rw [decide_eq_true (by omega)]
      go_enter Tryd.func79, Tryd.ntmps79
      go_wp2
      go_ret
      exact ⟨rfl, rfl⟩
    · rw [decide_eq_false (by omega)]
      go_enter Tryd.func79, Tryd.ntmps79
      go_wp2
      go_ret
      exact ⟨rfl, rfl⟩
  · have h1' : (x.toNat : Int) < 48 := by omega
    rw [decide_eq_false (by omega)]
    go_enter Tryd.func79, Tryd.ntmps79
    go_wp2
    go_ret
    exact ⟨rfl, rfl⟩
set_option maxHeartbeats 8000000 in
theorem number_any (g : Nat) (hg : g ≠ 0) (T : ByteArray) (hT : T.size ≤ 1048576) (p : Nat) (f : Bool) (y : Addr) (most : Int) (hm : 0 ≤ most ∧ most ≤ 1000000) (w : World) (h : Rd w g T p f y) (hs : Syn w y) :
    Calls Tryd.prog 55 #[.pointer (some ⟨g, 0, none⟩), .int .i64 most] w fun e w' => ∃ (n : Int) (q : Nat) (f' : Bool), e = .returned (.int .i64 n) ∧ NumR T p f most n q f' ∧ Rd w' g T q f' y ∧ Gr g w w' := by
  obtain ⟨hm0, hm1⟩ := hm
  have S := Lib.hid hs
  have hp := h.le
  have c1 := h.c1
  have H := Lib.hid h
  have hw1 : IntKind.i64.wrap ((p : Int) + 1) = (p : Int) + 1 := IntWalk.i64_in _ (by omega)
  clear h hs
  go_enter Tryd.func55, Tryd.ntmps55
  go_wp2
  clear c1
  go_loopw [6] (fun n_ wr => ∃ (j : Nat) (n : Int), p + j ≤ T.size ∧ n_ = .int .i64 n ∧ n = ((valD ((restT T p).take j) : Nat) : Int) ∧ (∀ x ∈ (restT T p).take j, isDig x = true) ∧ n ≤ 10 * most + 9 ∧ Rd wr g T (p + j) f y ∧ Gr g w wr) (fun _ wr => T.size - posR wr g)
  case atStart => exact ⟨0, 0, hp, rfl, rfl, fun _ h => (by simp at h), by omega, H.out, Gr.refl _ _⟩
  case round =>
    obtain ⟨j, n, hj, rfl, en, hd, hn, r, gr⟩ := hrel
    have EN := Lib.hid en
    have HD := Lib.hid hd
    have R := Lib.hid r
    have G := Lib.hid gr
    have n0 : 0 ≤ n := by omega
    have AE := Lib.hid (fun W (hb : Below wr.heap.size wr W) => atEnd_any g T (p + j) f y W (r.below hb))
    obtain ⟨q, eq⟩ : ∃ q, q = p + j := ⟨_, rfl⟩
    rw [← eq] at AE R hj
    have hpos := r.pos
    rw [← eq] at hpos
    have HPO := Lib.hid hpos
    clear hd gr r hpos
    by_cases hgr : most < n
    · -- too great a number
      have NN := Lib.hid (show NoNum most (restT T p) from num_great HD.out (by rw [← EN.out]; exact hgr))
      have hj0 : 0 < j := by
        rcases Nat.eq_zero_or_pos j with e | e
        · exfalso
          rw [e] at en
          have : n = 0 := en
          omega
        · exact e
      have q1 : p < q := by omega
      have dn : decide (n ≤ most) = false := decide_eq_false (by omega)
      have bg : decide (most < n) = true := decide_eq_true hgr
      have bq : ((q : Int) == (p : Int)) = false := by simp; omega
      have ix0 : (0 : Int) ≤ (p : Int) := by omega
      have ix1 : (p : Int) < (T.size : Int) := by omega
      have p0 := belowBy_cell R.out.lt R.out.c0
      have p1 := belowBy_cell R.out.lt R.out.c1
      have EQ := Lib.hid eq
      clear eq en
      go_wp2
      refine wp_region_below (by kernel_rfl) (by kernel_rfl) ?_
      iterate 20 (first | go_big_quiet_step (fail) | quiet_step (fail))
      refine wpQuiet_nil ?_
      rintro w2 ⟨⟨_, hq⟩, rfl⟩
      have R2 := Lib.hid (R.out.below hq)
      have G2 := Lib.hid (G.out.trans (Gr.of hq))
      have FA := Lib.hid (fail_any g T q f y w2 R2.out (S.out.gr G2.out hg))
      have c0 := R2.out.c0
      have c1 := R2.out.c1
      clear p0 p1 hq
      by_cases hl : (p : Int) + 1 < (q : Int)
      · have bl : decide ((p : Int) + 1 < (q : Int)) = true := decide_eq_true hl
        by_cases h8 : T[p] = 48
        · have b8 : ((T[p].toNat : Int) == 48) = true := by rw [h8]; rfl
          clear hl h8
          go_wp2_with fail
          refine FA.out.mono ?_
          rintro e w4 ⟨rfl, r4, g4⟩
          have R4 := Lib.hid r4
          have G4 := Lib.hid (G2.out.trans g4)
          clear r4 g4 c0 c1
          go_wp2
          go_ret
          exact ⟨0, q, true, rfl, .inr ⟨NN.out, rfl, rfl⟩, R4.out, G4.out⟩
        · have b8 : ((T[p].toNat : Int) == 48) = false := by
            simp only [beq_eq_false_iff_ne, ne_eq]
            exact fun e => h8 (UInt8.toNat_inj.1 (by have : (48 : UInt8).toNat = 48 := rfl; omega))
          clear hl h8
          go_wp2_with fail
          refine FA.out.mono ?_
          rintro e w4 ⟨rfl, r4, g4⟩
          have R4 := Lib.hid r4
          have G4 := Lib.hid (G2.out.trans g4)
          clear r4 g4 c0 c1
          go_wp2
          go_ret
          exact ⟨0, q, true, rfl, .inr ⟨NN.out, rfl, rfl⟩, R4.out, G4.out⟩
      · have bl : decide ((p : Int) + 1 < (q : Int)) = false := decide_eq_false hl
        clear hl
        go_wp2_with fail
        refine FA.out.mono ?_
        rintro e w4 ⟨rfl, r4, g4⟩
        have R4 := Lib.hid r4
        have G4 := Lib.hid (G2.out.trans g4)
        clear r4 g4 c0 c1
        go_wp2
        go_ret
        exact ⟨0, q, true, rfl, .inr ⟨NN.out, rfl, rfl⟩, R4.out, G4.out⟩
    have dn : decide (n ≤ most) = true := decide_eq_true (by omega)
    have bg : decide (most < n) = false := decide_eq_false hgr
    by_cases hend : q = T.size
    · -- the text has ended
      have ND := Lib.hid (show NoDig (restT T q) by rw [restT_end (by omega)]; trivial)
      rw [decide_eq_true hend] at AE
      have p0 := belowBy_cell R.out.lt R.out.c0
      have p1 := belowBy_cell R.out.lt R.out.c1
      have HE := Lib.hid hend
      have EQ := Lib.hid eq
      clear eq en hend
      go_wp2
      refine wp_region_below (by kernel_rfl) (by kernel_rfl) ?_
      iterate 20 (first | go_big_quiet_step ((go_at_call 45; with_reducible exact calls_below (AE.out _ (BelowBy.h _)))) | quiet_step ((go_at_call 45; with_reducible exact calls_below (AE.out _ (BelowBy.h _)))))
      refine wpQuiet_nil ?_
      rintro w2 ⟨⟨_, hq⟩, rfl⟩
      have R2 := Lib.hid (R.out.below hq)
      have G2 := Lib.hid (G.out.trans (Gr.of hq))
      have FA := Lib.hid (fail_any g T q f y w2 R2.out (S.out.gr G2.out hg))
      have c0 := R2.out.c0
      have c1 := R2.out.c1
      clear p0 p1 hq
      by_cases hj0 : j = 0
      · have qp : q = p := by have := EQ.out; omega
        have NN := Lib.hid (show NoNum most (restT T p) from num_none (by rw [← qp]; exact ND.out))
        have bq : ((q : Int) == (p : Int)) = true := by simp; omega
        have bl : decide ((p : Int) + 1 < (q : Int)) = false := decide_eq_false (by omega)
        clear qp hj0
        go_wp2_with fail
        refine FA.out.mono ?_
        rintro e w4 ⟨rfl, r4, g4⟩
        have R4 := Lib.hid r4
        have G4 := Lib.hid (G2.out.trans g4)
        clear r4 g4 c0 c1
        go_wp2
        go_ret
        exact ⟨0, q, true, rfl, .inr ⟨NN.out, rfl, rfl⟩, R4.out, G4.out⟩
      have hjp : 1 ≤ j := by omega
      have q1 : p < q := by have := EQ.out; omega
      have hpT : p < T.size := by omega
      have bq : ((q : Int) == (p : Int)) = false := by simp; omega
      have ix0 : (0 : Int) ≤ (p : Int) := by omega
      have ix1 : (p : Int) < (T.size : Int) := by omega
      by_cases hl : (p : Int) + 1 < (q : Int)
      · have bl : decide ((p : Int) + 1 < (q : Int)) = true := decide_eq_true hl
        have hj1 : 1 < j := by have := EQ.out; omega
        by_cases h8 : T[p] = 48
        · have b8 : ((T[p].toNat : Int) == 48) = true := by rw [h8]; rfl
          have hjl : j ≤ (restT T p).length := by rw [restT_len]; have := EQ.out; omega
          have NN := Lib.hid (show NoNum most (restT T p) from num_lead hj1 hjl HD.out (by rw [restT_add, ← EQ.out]; exact ND.out) (by rw [head_rest hpT, h8]))
          clear hl h8 hjl
          go_wp2_with fail
          refine FA.out.mono ?_
          rintro e w4 ⟨rfl, r4, g4⟩
          have R4 := Lib.hid r4
          have G4 := Lib.hid (G2.out.trans g4)
          clear r4 g4 c0 c1
          go_wp2
          go_ret
          exact ⟨0, q, true, rfl, .inr ⟨NN.out, rfl, rfl⟩, R4.out, G4.out⟩
        · have b8 : ((T[p].toNat : Int) == 48) = false := by
            simp only [beq_eq_false_iff_ne, ne_eq]
            exact fun e => h8 (UInt8.toNat_inj.1 (by have : (48 : UInt8).toNat = 48 := rfl; omega))
          have HNL : ¬ (1 < j ∧ (restT T p).head? = some 48) := fun h => h8 (by have := h.2; rw [head_rest hpT] at this; injection this)
          have hjl : j ≤ (restT T p).length := by rw [restT_len]; have := EQ.out; omega
          have OG := num_good (most := most) (l := restT T p) (j := j) (by omega) hjl HD.out (by rw [restT_add, ← EQ.out]; exact ND.out) HNL (by rw [← EN.out]; omega)
          have OK := Lib.hid (show NumOk most (restT T p) n (restT T q) by rw [EN.out, EQ.out, ← restT_add]; exact OG.1)
          have QE := Lib.hid (show q = p + (dec n).length by rw [EN.out, OG.2, List.length_take, Nat.min_eq_left hjl]; exact EQ.out)
          clear OG HNL hjl
          clear hl h8
          go_wp2
          go_ret
          exact ⟨n, q, f, rfl, .inl ⟨OK.out, QE.out, rfl⟩, R2.out, G2.out⟩
      · have bl : decide ((p : Int) + 1 < (q : Int)) = false := decide_eq_false hl
        have HNL : ¬ (1 < j ∧ (restT T p).head? = some 48) := fun h => by have := EQ.out; omega
        have hjl : j ≤ (restT T p).length := by rw [restT_len]; have := EQ.out; omega
        have OG := num_good (most := most) (l := restT T p) (j := j) (by omega) hjl HD.out (by rw [restT_add, ← EQ.out]; exact ND.out) HNL (by rw [← EN.out]; omega)
        have OK := Lib.hid (show NumOk most (restT T p) n (restT T q) by rw [EN.out, EQ.out, ← restT_add]; exact OG.1)
        have QE := Lib.hid (show q = p + (dec n).length by rw [EN.out, OG.2, List.length_take, Nat.min_eq_left hjl]; exact EQ.out)
        clear OG HNL hjl
        clear hl
        go_wp2
        go_ret
        exact ⟨n, q, f, rfl, .inl ⟨OK.out, QE.out, rfl⟩, R2.out, G2.out⟩
    have hlt : q < T.size := by omega
    rw [decide_eq_false hend] at AE
    have iq0 : (0 : Int) ≤ (q : Int) := by omega
    have iq1 : (q : Int) < (T.size : Int) := by omega
    cases hdg : isDig T[q]
    · -- no digit
      have ND := Lib.hid (show NoDig (restT T q) by rw [restT_cons hlt]; exact hdg)
      have WD := Lib.hid (fun W => within8T T[q] W)
      rw [hdg] at WD
      have p0 := belowBy_cell R.out.lt R.out.c0
      have p1 := belowBy_cell R.out.lt R.out.c1
      have EQ := Lib.hid eq
      clear eq en hdg hend
      go_wp2
      refine wp_region_below (by kernel_rfl) (by kernel_rfl) ?_
      iterate 20 (first | go_big_quiet_step ((first | (go_at_call 45; with_reducible exact calls_below (AE.out _ (BelowBy.h _))) | (go_at_call 79; with_reducible exact calls_same_below (WD.out _)))) | quiet_step ((first | (go_at_call 45; with_reducible exact calls_below (AE.out _ (BelowBy.h _))) | (go_at_call 79; with_reducible exact calls_same_below (WD.out _)))))
      refine wpQuiet_nil ?_
      rintro w2 ⟨⟨_, hq⟩, rfl⟩
      have R2 := Lib.hid (R.out.below hq)
      have G2 := Lib.hid (G.out.trans (Gr.of hq))
      have FA := Lib.hid (fail_any g T q f y w2 R2.out (S.out.gr G2.out hg))
      have c0 := R2.out.c0
      have c1 := R2.out.c1
      clear p0 p1 hq
      by_cases hj0 : j = 0
      · have qp : q = p := by have := EQ.out; omega
        have NN := Lib.hid (show NoNum most (restT T p) from num_none (by rw [← qp]; exact ND.out))
        have bq : ((q : Int) == (p : Int)) = true := by simp; omega
        have bl : decide ((p : Int) + 1 < (q : Int)) = false := decide_eq_false (by omega)
        clear qp hj0
        go_wp2_with fail
        refine FA.out.mono ?_
        rintro e w4 ⟨rfl, r4, g4⟩
        have R4 := Lib.hid r4
        have G4 := Lib.hid (G2.out.trans g4)
        clear r4 g4 c0 c1
        go_wp2
        go_ret
        exact ⟨0, q, true, rfl, .inr ⟨NN.out, rfl, rfl⟩, R4.out, G4.out⟩
      have hjp : 1 ≤ j := by omega
      have q1 : p < q := by have := EQ.out; omega
      have hpT : p < T.size := by omega
      have bq : ((q : Int) == (p : Int)) = false := by simp; omega
      have ix0 : (0 : Int) ≤ (p : Int) := by omega
      have ix1 : (p : Int) < (T.size : Int) := by omega
      by_cases hl : (p : Int) + 1 < (q : Int)
      · have bl : decide ((p : Int) + 1 < (q : Int)) = true := decide_eq_true hl
        have hj1 : 1 < j := by have := EQ.out; omega
        by_cases h8 : T[p] = 48
        · have b8 : ((T[p].toNat : Int) == 48) = true := by rw [h8]; rfl
          have hjl : j ≤ (restT T p).length := by rw [restT_len]; have := EQ.out; omega
          have NN := Lib.hid (show NoNum most (restT T p) from num_lead hj1 hjl HD.out (by rw [restT_add, ← EQ.out]; exact ND.out) (by rw [head_rest hpT, h8]))
          clear hl h8 hjl
          go_wp2_with fail
          refine FA.out.mono ?_
          rintro e w4 ⟨rfl, r4, g4⟩
          have R4 := Lib.hid r4
          have G4 := Lib.hid (G2.out.trans g4)
          clear r4 g4 c0 c1
          go_wp2
          go_ret
          exact ⟨0, q, true, rfl, .inr ⟨NN.out, rfl, rfl⟩, R4.out, G4.out⟩
        · have b8 : ((T[p].toNat : Int) == 48) = false := by
            simp only [beq_eq_false_iff_ne, ne_eq]
            exact fun e => h8 (UInt8.toNat_inj.1 (by have : (48 : UInt8).toNat = 48 := rfl; omega))
          have HNL : ¬ (1 < j ∧ (restT T p).head? = some 48) := fun h => h8 (by have := h.2; rw [head_rest hpT] at this; injection this)
          have hjl : j ≤ (restT T p).length := by rw [restT_len]; have := EQ.out; omega
          have OG := num_good (most := most) (l := restT T p) (j := j) (by omega) hjl HD.out (by rw [restT_add, ← EQ.out]; exact ND.out) HNL (by rw [← EN.out]; omega)
          have OK := Lib.hid (show NumOk most (restT T p) n (restT T q) by rw [EN.out, EQ.out, ← restT_add]; exact OG.1)
          have QE := Lib.hid (show q = p + (dec n).length by rw [EN.out, OG.2, List.length_take, Nat.min_eq_left hjl]; exact EQ.out)
          clear OG HNL hjl
          clear hl h8
          go_wp2
          go_ret
          exact ⟨n, q, f, rfl, .inl ⟨OK.out, QE.out, rfl⟩, R2.out, G2.out⟩
      · have bl : decide ((p : Int) + 1 < (q : Int)) = false := decide_eq_false hl
        have HNL : ¬ (1 < j ∧ (restT T p).head? = some 48) := fun h => by have := EQ.out; omega
        have hjl : j ≤ (restT T p).length := by rw [restT_len]; have := EQ.out; omega
        have OG := num_good (most := most) (l := restT T p) (j := j) (by omega) hjl HD.out (by rw [restT_add, ← EQ.out]; exact ND.out) HNL (by rw [← EN.out]; omega)
        have OK := Lib.hid (show NumOk most (restT T p) n (restT T q) by rw [EN.out, EQ.out, ← restT_add]; exact OG.1)
        have QE := Lib.hid (show q = p + (dec n).length by rw [EN.out, OG.2, List.length_take, Nat.min_eq_left hjl]; exact EQ.out)
        clear OG HNL hjl
        clear hl
        go_wp2
        go_ret
        exact ⟨n, q, f, rfl, .inl ⟨OK.out, QE.out, rfl⟩, R2.out, G2.out⟩
    · -- a digit more
      have WD := Lib.hid (fun W => within8T T[q] W)
      rw [hdg] at WD
      have hdg2 := hdg
      unfold isDig at hdg2
      have hdg2 := of_decide_eq_true hdg2
      have ET := take_rest (T := T) (p := p) (j := j) (by omega)
      have ED : T[p + j]'(by omega) = T[q] := by congr 1; omega
      rw [ED] at ET
      obtain ⟨d, ed⟩ : ∃ d : Int, d = (T[q].toNat : Int) - 48 := ⟨_, rfl⟩
      obtain ⟨n2, en2⟩ : ∃ n2 : Int, n2 = n * 10 + d := ⟨_, rfl⟩
      have EN2 := Lib.hid (show n2 = ((valD ((restT T p).take (j + 1)) : Nat) : Int) by
        rw [ET, valD_snoc, en2, ed, en]
        omega)
      have HD2 := Lib.hid (show ∀ x ∈ (restT T p).take (j + 1), isDig x = true by
        rw [ET]
        intro x hx
        rcases List.mem_append.1 hx with h | h
        · exact HD.out x h
        · rw [List.mem_singleton] at h; rw [h]; exact hdg)
      have hn2 : n2 ≤ 10 * most + 9 := by omega
      have hn20 : 0 ≤ n2 := by omega
      have m1 : IntKind.i64.wrap (n * 10) = n * 10 := IntWalk.i64_in _ (by omega)
      have m2 : IntKind.u8.wrap ((T[q].toNat : Int) - 48) = d := by rw [← ed]; exact IntWalk.u8_in _ (by omega)
      have m3 : IntKind.i64.wrap d = d := IntWalk.i64_in _ (by omega)
      have m4 : IntKind.i64.wrap (n * 10 + d) = n2 := by rw [en2]; exact IntWalk.i64_in _ (by omega)
      obtain ⟨q2, eq2⟩ : ∃ q2, q2 = q + 1 := ⟨_, rfl⟩
      have m5 : IntKind.i64.wrap ((q : Int) + 1) = (q2 : Int) := by rw [show (q2 : Int) = (q : Int) + 1 by omega]; exact IntWalk.i64_in _ (by omega)
      have q2le : q2 ≤ T.size := by omega
      have q2e : q2 = p + (j + 1) := by omega
      have p0 := belowBy_cell R.out.lt R.out.c0
      have p1 := belowBy_cell R.out.lt R.out.c1
      have EQ := Lib.hid eq
      have EQ2 := Lib.hid q2e
      have EQ3 := Lib.hid eq2
      clear eq en hdg hend hdg2 ET ED ed en2 q2e eq2
      go_wp2
      refine wp_region_below (by kernel_rfl) (by kernel_rfl) ?_
      iterate 20 (first | go_big_quiet_step ((first | (go_at_call 45; with_reducible exact calls_below (AE.out _ (BelowBy.h _))) | (go_at_call 79; with_reducible exact calls_same_below (WD.out _)))) | quiet_step ((first | (go_at_call 45; with_reducible exact calls_below (AE.out _ (BelowBy.h _))) | (go_at_call 79; with_reducible exact calls_same_below (WD.out _)))))
      refine wpQuiet_nil ?_
      rintro w2 ⟨⟨_, hq⟩, rfl⟩
      have R2 := Lib.hid (R.out.below hq)
      have G2 := Lib.hid (G.out.trans (Gr.of hq))
      clear p0 p1 hq
      have p0 := belowBy_cell R2.out.lt R2.out.c0
      have p1 := belowBy_cell R2.out.lt R2.out.c1
      go_wp2
      refine wp_region_below (by kernel_rfl) (by kernel_rfl) ?_
      iterate 15 (first | go_big_quiet_step (fail) | quiet_step (fail))
      refine wpQuiet_nil ?_
      rintro w3 ⟨⟨_, hq⟩, rfl⟩
      have R3 := Lib.hid (R2.out.below hq)
      have G3 := Lib.hid (G2.out.trans (Gr.of hq))
      clear p0 p1 hq
      have c1 := R3.out.c1
      have fz := R3.out.fz 1
      have R4 := Lib.hid (R3.out.to (q := q2) q2le)
      have G4 := Lib.hid (G3.out.set 1 (.int .i64 (q2 : Int)))
      have HM := Lib.hid (show T.size - posR (w3.setCell ⟨g, 1, none⟩ (.int .i64 (q2 : Int))) g < T.size - posR wr g by rw [R4.out.pos, HPO.out]; have := EQ3.out; omega)
      have R5 := Lib.hid (show Rd (w3.setCell ⟨g, 1, none⟩ (.int .i64 (q2 : Int))) g T (p + (j + 1)) f y by rw [← EQ2.out]; exact R4.out)
      go_wp2
      exact ⟨⟨j + 1, n2, by have := EQ2.out; omega, rfl, EN2.out, HD2.out, hn2, R5.out, G4.out⟩, HM.out⟩
end Go.Proofs.YtkojnepgeegalaaDoor
