/- ReadAct, by the model: contracts. Condition: a text no longer than told. -/
import Derived.Test.YtkojnepgeegalaaDoorRdT2
namespace Go.Proofs.YtkojnepgeegalaaDoor
set_option linter.unusedSimpArgs false
set_option linter.unusedVariables false
set_option maxRecDepth 100000
open Go.RowKit

theorem acW_no : ∀ wd ∈ acW, (32 : UInt8) ∉ wd := by decide
theorem AcP.split {L : List UInt8} {x : Nat × Nat × Nat} (h : AcP L x) : splitL 32 L = acW.getD x.1 [] :: (if x.1 = 5 then [] else [dec (x.2.1 : Int), dec (x.2.2 : Int)]) := by
  have hn := acW_no _ (acW_mem h.ok.lt)
  rw [h.eq]
  unfold acT acR
  by_cases e : x.1 = 5
  · rw [if_pos e, if_pos e, List.append_nil, split_last _ hn]
  · rw [if_neg e, if_neg e, split_word _ _ hn, split_word _ _ (dig_not (by decide)), split_last _ (dig_not (by decide))]
theorem acP_day {L : List UInt8} {ws : List (List UInt8)} (hW : ws = splitL 32 L) (h1 : ws.length = 1) {X : List UInt8} (h0 : ws[0]? = some X) (hX : acW.getD 5 [] = X) : AcP L (5, 0, 0) := by
  refine ⟨.inl ⟨rfl, rfl, rfl⟩, ?_⟩
  match ws, h1, h0 with
  | [v], _, h0 =>
    have e : v = X := by simpa using h0
    rw [← join_split 32 L, ← hW, e, ← hX]
    rfl
theorem acP_go {L X p1 p2 : List UInt8} (hL : L = joinL 32 [X, p1, p2]) {i a b : Nat} (hi : i ≤ 4) (ha : a ≤ 49) (hb : b ≤ 59) (hX : acW.getD i [] = X) (h1 : p1 = dec (a : Int)) (h2 : p2 = dec (b : Int)) : AcP L (i, a, b) := by
  refine ⟨.inr ⟨hi, ha, hb⟩, ?_⟩
  rw [hL, h1, h2, ← hX]
  unfold acT acR
  rw [if_neg (by show i ≠ 5; omega)]
  rfl
/-- What the model's reading says. -/
def AcM (L : List UInt8) (x : Nat × Nat × Nat) (ok : Bool) : Prop := (ok = true ∧ AcP L x) ∨ (ok = false ∧ ∀ x', ¬ AcP L x')
/-- The word's place among the words: 6 if it has none. -/
structure Wpl (X : List UInt8) (m : Nat) : Prop where
  le : m ≤ 6
  iff : ∀ j, j < 6 → (acW.getD j [] = X ↔ j = m)
theorem wpl_any (X : List UInt8) : ∃ m, Wpl X m := by
  by_cases h : X ∈ acW
  · obtain ⟨i, hi, e⟩ := List.getElem_of_mem h
    have e2 : acW.getD i [] = X := by rw [List.getD_eq_getElem?_getD, List.getElem?_eq_getElem hi]; exact e
    have hi6 : i < 6 := hi
    exact ⟨i, by omega, fun j hj => ⟨fun e3 => acW_inj j hj i hi6 (e3.trans e2.symm), fun e3 => by rw [e3]; exact e2⟩⟩
  · exact ⟨6, Nat.le_refl _, fun j hj => ⟨fun e => absurd (by rw [← e]; exact acW_mem hj) h, fun e => by omega⟩⟩
def whF (m k : Nat) : Int := if m < k then (m : Int) else -1
structure LSt (w W : World) : Prop where
  rb : AB W w.heap.size 0 0 0
  bl : Below w.heap.size w W
theorem LSt.bx {w W W' : World} (h : LSt w W) (hb : Below W.heap.size W W') : LSt w W' := ⟨(hb.block _ h.rb.lt).trans h.rb, bnext h.bl hb⟩
theorem num_fail3 {p : List UInt8} {n most : Int} {ok : Bool} (hm : most ≤ 9999) (h : NumS p n ok) (hf : ok = false ∨ most < n) : ∀ z : Int, 0 ≤ z → z ≤ most → p ≠ dec z := fun z h0 h1 e => by
  rcases h with ⟨k1, k2, k3, _⟩ | ⟨_, _, k3⟩
  · rcases hf with k | k
    · rw [k1] at k; cases k
    · have := dec_inj k2 h0 (k3.symm.trans e)
      omega
  · have := k3 z h0 e
    rw [e] at this
    have := dec_short (z := z) (by omega)
    omega
/-- What the model's reading leaves. -/
def ReadsAc (L : List UInt8) (w : World) (e : Ending) (w' : World) : Prop := ∃ (x : Nat × Nat × Nat) (ok : Bool), e = .returned (.tuple #[.agg #[.int .i8 (x.1 : Int), .int .i8 (x.2.1 : Int), .int .i8 (x.2.2 : Int)], .bool ok]) ∧ AcM L x ok ∧ Below w.heap.size w w'
theorem readsAc_mk {L : List UInt8} {w w' : World} {e : Ending} (x : Nat × Nat × Nat) (ok : Bool) (h1 : e = .returned (.tuple #[.agg #[.int .i8 (x.1 : Int), .int .i8 (x.2.1 : Int), .int .i8 (x.2.2 : Int)], .bool ok])) (h2 : AcM L x ok) (h3 : Below w.heap.size w w') : ReadsAc L w e w' := ⟨x, ok, h1, h2, h3⟩
set_option maxHeartbeats 1000000 in
theorem l06Words_any (w : World) : Calls Tryd.prog 74 #[] w fun e w' => e = .returned (.slice (some ⟨w.heap.size, 0, none⟩) 6 6) ∧ WordsAt w' w.heap.size ∧ Below w.heap.size w w' := by
  have HW := Lib.hid (words_new w 9)
  have HB := Lib.hid ((Below.refl w.heap.size w).alloc (Nat.le_refl _) (.cells #[.string (strOf (acW.getD 0 [])), .string (strOf (acW.getD 1 [])), .string (strOf (acW.getD 2 [])), .string (strOf (acW.getD 3 [])), .string (strOf (acW.getD 4 [])), .string (strOf (acW.getD 5 []))] 9))
  go_enter Tryd.func74, Tryd.ntmps74
  go_wp2
  go_ret
  exact ⟨rfl, HW.out, HB.out⟩
theorem l06Person_any (n : Int) (w : World) :
    Calls Tryd.prog 75 #[.int .i64 n] w fun e w' => e = .returned (.bool (inB n 0 49)) ∧ w = w' := by
  go_enter Tryd.func75, Tryd.ntmps75
  go_wp2_with fail
  refine (l00In_any n 0 49 w).mono ?_
  rintro e w' ⟨rfl, rfl⟩
  go_wp2
  go_ret
  exact ⟨rfl, rfl⟩
set_option maxHeartbeats 8000000 in
theorem l06Read_any (T : ByteArray) (hT : T.size ≤ 1048576) (w : World) :
    Calls Tryd.prog 52 #[.string T] w (ReadsAc T.data.toList w) := by
  have X0 := Lib.hid (show LSt w (w.alloc (.cells #[.int .i8 0, .int .i8 0, .int .i8 0] 42)) from ⟨heap_alloc_new w _, (Below.refl _ _).alloc (Nat.le_refl _) _⟩)
  go_enter Tryd.func52, Tryd.ntmps52
  go_upto_region 1 with (fail)
  generalize World.alloc _ _ = W0 at X0 ⊢
  go_wp2_with fail
  refine (l01Split_any T hT 32 W0).mono ?_
  rintro e w1 ⟨u, rfl, ho1, h1⟩
  obtain ⟨ws, ews⟩ : ∃ ws, ws = splitL 32 T.data.toList := ⟨_, rfl⟩
  rw [← ews] at ho1
  have WS := Lib.hid ews
  have hlen : ws.length ≤ 1048577 := by rw [ews]; exact Nat.le_trans (splitL_len 32 _) (by rw [Array.length_toList]; exact Nat.succ_le_succ hT)
  have HWL := Lib.hid (show ∀ v ∈ ws, v.length ≤ 1048576 from fun v hv => by rw [ews] at hv; exact Nat.le_trans (split_word_len 32 _ v hv) (by rw [Array.length_toList]; exact hT))
  have hn0 : 0 < ws.length := by
    have : ws ≠ [] := by rw [ews]; exact splitL_ne _ _
    exact Nat.pos_of_ne_zero (fun e => this (List.eq_nil_of_length_eq_zero e))
  obtain ⟨As, cs, es, hsa⟩ := ownStrs ho1 rfl
  subst es
  obtain ⟨ga, oa, rfl, hga, hat⟩ := hsa hn0
  have HAT := Lib.hid hat
  have X1 := Lib.hid (X0.out.bx h1)
  obtain ⟨X, hX⟩ : ∃ X, ws[0]? = some X := ⟨ws[0], List.getElem?_eq_getElem hn0⟩
  have HX := Lib.hid hX
  have S0 := Lib.hid (show w1.cell? ⟨ga, oa, none⟩ = some (.string (strOf X)) from by
    have h := hat 0 hn0
    have e2 : ws[0] = X := Option.some.inj ((List.getElem?_eq_getElem hn0).symm.trans hX)
    rw [Nat.add_zero, e2] at h
    exact h)
  obtain ⟨m, hm⟩ := wpl_any X
  have WM := Lib.hid hm
  have hm6 := hm.le
  obtain ⟨n, hn⟩ : ∃ n, ws.length = n := ⟨_, rfl⟩
  rw [hn] at hlen hn0 ⊢
  have HN := Lib.hid hn
  have hn0i : (0 : Int) < (n : Int) := by omega
  clear ho1 h1 ews hsa hat hX hm hn
  have WF := Lib.hid (fun (x' : Nat × Nat × Nat) (h : AcP T.data.toList x') => (show x'.1 = m ∧ (if x'.1 = 5 then n = 1 else n = 3) from by
    have e := WS.out.trans h.split
    have e2 := HX.out
    rw [e] at e2
    have e3 : acW.getD x'.1 [] = X := by simpa using e2
    refine ⟨(WM.out.iff _ h.ok.lt).1 e3, ?_⟩
    have e4 := congrArg List.length e
    rw [HN.out] at e4
    by_cases h5 : x'.1 = 5
    · rw [if_pos h5] at e4 ⊢; simpa using e4
    · rw [if_neg h5] at e4 ⊢; simpa using e4))
  go_wp2_with fail
  refine (l06Words_any w1).mono ?_
  rintro e w2 ⟨rfl, hw2, h2⟩
  have X2 := Lib.hid (X1.out.bx h2)
  have A2 := Lib.hid hw2
  have S2 := Lib.hid ((h2.cell (p := ⟨ga, oa, none⟩) hga).trans S0.out)
  have hga2 : ga < w2.heap.size := Nat.lt_of_lt_of_le hga h2.size
  have HAT2 := Lib.hid (HAT.out.below h2 hga)
  clear hw2 h2
  go_wp2
  go_loopw [6, 7] (fun wh_ i_ wr => ∃ (k : Nat) (z : Int), k ≤ 6 ∧ i_ = .int .i64 (k : Int) ∧ wh_ = .int .i64 z ∧ z = whF m k ∧ Below w2.heap.size w2 wr) (fun _ i_ _ => 6 - (intOf i_).toNat)
  case atStart => exact ⟨0, -1, by omega, rfl, rfl, by unfold whF; rw [if_neg (by omega)], Below.refl _ _⟩
  case round =>
    obtain ⟨k, z, hk, rfl, rfl, hz, hb⟩ := hrel
    have HB := Lib.hid hb
    have HZ := Lib.hid hz
    have S3 := Lib.hid ((hb.cell (p := ⟨ga, oa, none⟩) hga2).trans S2.out)
    have hga3 : ga < wr.heap.size := Nat.lt_of_lt_of_le hga2 hb.size
    have XR := Lib.hid (X2.out.bx hb)
    clear hb hz
    by_cases hlt : k < 6
    · have hk6 : (k : Int) < 6 := by omega
      have cw := (HB.out.cell (p := ⟨w1.heap.size, k, none⟩) A2.out.lt).trans (A2.out.c k hlt)
      have lw : w1.heap.size < wr.heap.size := Nat.lt_of_lt_of_le A2.out.lt HB.out.size
      have p0 := belowBy_cell lw cw
      have p1 := belowBy_cell hga3 S3.out
      have E1 := Lib.hid (fun (h : k = m) => show ((strOf (acW.getD k [])).toList == (strOf X).toList) = true from by
        rw [strOf_toL, strOf_toL, (WM.out.iff k hlt).2 h]
        exact beq_self_eq_true _)
      have E2 := Lib.hid (fun (h : k ≠ m) => show ((strOf (acW.getD k [])).toList == (strOf X).toList) = false from by
        rw [strOf_toL, strOf_toL, beq_eq_false_iff_ne]
        exact fun e => h ((WM.out.iff k hlt).1 e))
      generalize strOf (acW.getD k []) = sk at p0 E1 E2
      clear cw
      by_cases hkm : k = m
      · have d := E1.out hkm
        have HZ2 := Lib.hid (show (k : Int) = whF m (k + 1) from by unfold whF; rw [if_pos (by omega), hkm])
        clear hkm
        go_wp2
        refine wp_region_below (by kernel_rfl) (by kernel_rfl) ?_
        iterate 8 (first | go_big_quiet_step (fail) | quiet_step (fail))
        refine wpQuiet_nil ?_
        rintro w3 ⟨⟨_, hq⟩, rfl⟩
        have B3 := Lib.hid (bnext HB.out hq)
        clear p0 p1 hq
        go_wp2
        exact ⟨⟨k + 1, (k : Int), by omega, by go_num, rfl, HZ2.out, B3.out⟩, by simp only [intOf]; omega⟩
      · have d := E2.out hkm
        have HZ2 := Lib.hid (show z = whF m (k + 1) from by
          rw [HZ.out]
          unfold whF
          by_cases h : m < k
          · rw [if_pos h, if_pos (by omega)]
          · rw [if_neg h, if_neg (by omega)])
        clear hkm
        go_wp2
        refine wp_region_below (by kernel_rfl) (by kernel_rfl) ?_
        iterate 8 (first | go_big_quiet_step (fail) | quiet_step (fail))
        refine wpQuiet_nil ?_
        rintro w3 ⟨⟨_, hq⟩, rfl⟩
        have B3 := Lib.hid (bnext HB.out hq)
        clear p0 p1 hq
        go_wp2
        exact ⟨⟨k + 1, z, by omega, by go_num, rfl, HZ2.out, B3.out⟩, by simp only [intOf]; omega⟩
    · obtain rfl : k = 6 := by omega
      have HAT3 := Lib.hid (HAT2.out.below HB.out hga2)
      clear hlt
      by_cases hm6' : m = 6
      · obtain rfl : z = -1 := by rw [HZ.out]; unfold whF; rw [if_neg (by omega)]
        have NO := Lib.hid (show AcM T.data.toList (0, 0, 0) false from .inr ⟨rfl, fun x' h => by have := (WF.out x' h).1; have := h.ok.lt; omega⟩)
        clear hm6'
        have r0 := XR.out.rb.c0
        have r1 := XR.out.rb.c1
        have r2 := XR.out.rb.c2
        have fz := XR.out.rb.fz
        have PR := Lib.hid (XR.out.rb.all 0 0 0)
        have GR := Lib.hid (gr3 0 0 0 (Gr.of (g := w.heap.size) XR.out.bl))
        go_wp2
        have q0 := PR.out.c0
        have q1 := PR.out.c1
        have q2 := PR.out.c2
        exact bodyPost_ret (v := .tuple #[.agg #[.int .i8 0, .int .i8 0, .int .i8 0], .bool false]) (by simp [results, Tryd.results52, go_sem, q0, q1, q2]) rfl (readsAc_mk (0, 0, 0) false rfl NO.out (low_gr GR.out))
      obtain rfl : z = (m : Int) := by rw [HZ.out]; unfold whF; rw [if_pos (by omega)]
      by_cases h5 : m = 5
      · subst h5
        by_cases h1 : n = 1
        · have b1 : ((n : Int) == 1) = true := by rw [h1]; rfl
          have b1' : (n == 1) = true := by rw [h1]; rfl
          have YE := Lib.hid (show AcM T.data.toList (5, 0, 0) true from .inl ⟨rfl, acP_day WS.out (HN.out.trans h1) HX.out ((WM.out.iff 5 (by omega)).2 rfl)⟩)
          clear h1
          have r0 := XR.out.rb.c0
          have r1 := XR.out.rb.c1
          have r2 := XR.out.rb.c2
          have fz := XR.out.rb.fz
          have PR := Lib.hid (XR.out.rb.all 5 0 0)
          have GR := Lib.hid (gr3 5 0 0 (Gr.of (g := w.heap.size) XR.out.bl))
          go_wp2
          have q0 := PR.out.c0
          have q1 := PR.out.c1
          have q2 := PR.out.c2
          exact bodyPost_ret (v := .tuple #[.agg #[.int .i8 5, .int .i8 0, .int .i8 0], .bool true]) (by simp [results, Tryd.results52, go_sem, q0, q1, q2]) rfl (readsAc_mk (5, 0, 0) true rfl YE.out (low_gr GR.out))
        · have b1 : ((n : Int) == 1) = false := by rw [beq_eq_false_iff_ne]; omega
          have b1' : (n == 1) = false := by rw [beq_eq_false_iff_ne]; omega
          have NO := Lib.hid (show AcM T.data.toList (5, 0, 0) false from .inr ⟨rfl, fun x' h => by
            obtain ⟨e1, e2⟩ := WF.out x' h
            rw [if_pos e1] at e2
            exact h1 e2⟩)
          clear h1
          have r0 := XR.out.rb.c0
          have r1 := XR.out.rb.c1
          have r2 := XR.out.rb.c2
          have fz := XR.out.rb.fz
          have PR := Lib.hid (XR.out.rb.all 5 0 0)
          have GR := Lib.hid (gr3 5 0 0 (Gr.of (g := w.heap.size) XR.out.bl))
          go_wp2
          have q0 := PR.out.c0
          have q1 := PR.out.c1
          have q2 := PR.out.c2
          exact bodyPost_ret (v := .tuple #[.agg #[.int .i8 5, .int .i8 0, .int .i8 0], .bool false]) (by simp [results, Tryd.results52, go_sem, q0, q1, q2]) rfl (readsAc_mk (5, 0, 0) false rfl NO.out (low_gr GR.out))
      have b5 : ((m : Int) == 5) = false := by rw [beq_eq_false_iff_ne]; omega
      have b5' : (m == 5) = false := by rw [beq_eq_false_iff_ne]; omega
      have b5n : ¬ ((m : Int) < 0) := by omega
      have hm4 : m ≤ 4 := by omega
      by_cases h3 : n = 3
      case neg =>
        have b3 : ((n : Int) != 3) = true := by simp; omega
        have b3' : (n != 3) = true := by simp; omega
        have NO := Lib.hid (show AcM T.data.toList (0, 0, 0) false from .inr ⟨rfl, fun x' h => by
          obtain ⟨e1, e2⟩ := WF.out x' h
          rw [if_neg (by omega)] at e2
          exact h3 e2⟩)
        clear h3
        have r0 := XR.out.rb.c0
        have r1 := XR.out.rb.c1
        have r2 := XR.out.rb.c2
        have fz := XR.out.rb.fz
        have PR := Lib.hid (XR.out.rb.all 0 0 0)
        have GR := Lib.hid (gr3 0 0 0 (Gr.of (g := w.heap.size) XR.out.bl))
        go_wp2
        have q0 := PR.out.c0
        have q1 := PR.out.c1
        have q2 := PR.out.c2
        exact bodyPost_ret (v := .tuple #[.agg #[.int .i8 0, .int .i8 0, .int .i8 0], .bool false]) (by simp [results, Tryd.results52, go_sem, q0, q1, q2]) rfl (readsAc_mk (0, 0, 0) false rfl NO.out (low_gr GR.out))
      obtain ⟨p1, p2, ep⟩ : ∃ p1 p2, ws = [X, p1, p2] := by
        have hl := HN.out.trans h3
        have h0 := HX.out
        match ws, hl, h0 with
        | [v0, v1, v2], _, h0 => exact ⟨v1, v2, by rw [show v0 = X by simpa using h0]⟩
      have V1 := Lib.hid (HAT3.out 1 (by have := HN.out; omega))
      have V2 := Lib.hid (HAT3.out 2 (by have := HN.out; omega))
      simp only [ep, List.getElem_cons_zero, List.getElem_cons_succ, strV] at V1 V2
      have L1 := Lib.hid (HWL.out p1 (by rw [ep]; simp))
      have L2 := Lib.hid (HWL.out p2 (by rw [ep]; simp))
      have JX := Lib.hid (show T.data.toList = joinL 32 [X, p1, p2] from by rw [← ep, WS.out, join_split])
      have WV := Lib.hid (fun (x' : Nat × Nat × Nat) (h : AcP T.data.toList x') => (show p1 = dec (x'.2.1 : Int) ∧ p2 = dec (x'.2.2 : Int) ∧ x'.2.1 ≤ 49 ∧ x'.2.2 ≤ 59 from by
        have h1 := (WF.out x' h).1
        have e := ep.symm.trans (WS.out.trans h.split)
        rw [if_neg (by omega)] at e
        simp only [List.cons.injEq, and_true] at e
        rcases h.ok with ⟨k, _⟩ | ⟨_, k1, k2⟩
        · omega
        · exact ⟨e.2.1, e.2.2, k1, k2⟩))
      have XP := Lib.hid (show acW.getD m [] = X from (WM.out.iff m (by omega)).2 rfl)
      subst h3
      have c1 := V1.out
      have c2 := V2.out
      clear ep
      go_wp2_with fail
      refine (l01Number_any (strOf p1) (by rw [strOf_size]; exact L1.out) wr).mono ?_
      rintro e w' ⟨n0, k0, rfl, hn, rfl⟩
      have N0 := Lib.hid (show NumS p1 n0 k0 by have h := hn; rwa [show (strOf p1).data.toList = p1 by simp [strOf]] at h)
      clear hn
      go_wp2_with fail
      refine (l01Number_any (strOf p2) (by rw [strOf_size]; exact L2.out) wr).mono ?_
      rintro e w' ⟨n1, k1, rfl, hn, rfl⟩
      have N1 := Lib.hid (show NumS p2 n1 k1 by have h := hn; rwa [show (strOf p2).data.toList = p2 by simp [strOf]] at h)
      clear hn c1 c2
      cases k0
      · have NO := Lib.hid (show AcM T.data.toList (0, 0, 0) false from .inr ⟨rfl, fun x' h => by
          obtain ⟨e1, e2, e3, e4⟩ := WV.out x' h
          exact num_fail3 (most := 49) (by omega) N0.out (.inl rfl) x'.2.1 (by omega) (by omega) e1⟩)
        have r0 := XR.out.rb.c0
        have r1 := XR.out.rb.c1
        have r2 := XR.out.rb.c2
        have fz := XR.out.rb.fz
        have PR := Lib.hid (XR.out.rb.all 0 0 0)
        have GR := Lib.hid (gr3 0 0 0 (Gr.of (g := w.heap.size) XR.out.bl))
        go_wp2
        have q0 := PR.out.c0
        have q1 := PR.out.c1
        have q2 := PR.out.c2
        exact bodyPost_ret (v := .tuple #[.agg #[.int .i8 0, .int .i8 0, .int .i8 0], .bool false]) (by simp [results, Tryd.results52, go_sem, q0, q1, q2]) rfl (readsAc_mk (0, 0, 0) false rfl NO.out (low_gr GR.out))
      cases k1
      · have NO := Lib.hid (show AcM T.data.toList (0, 0, 0) false from .inr ⟨rfl, fun x' h => by
          obtain ⟨e1, e2, e3, e4⟩ := WV.out x' h
          exact num_fail3 (most := 59) (by omega) N1.out (.inl rfl) x'.2.2 (by omega) (by omega) e2⟩)
        have r0 := XR.out.rb.c0
        have r1 := XR.out.rb.c1
        have r2 := XR.out.rb.c2
        have fz := XR.out.rb.fz
        have PR := Lib.hid (XR.out.rb.all 0 0 0)
        have GR := Lib.hid (gr3 0 0 0 (Gr.of (g := w.heap.size) XR.out.bl))
        go_wp2
        have q0 := PR.out.c0
        have q1 := PR.out.c1
        have q2 := PR.out.c2
        exact bodyPost_ret (v := .tuple #[.agg #[.int .i8 0, .int .i8 0, .int .i8 0], .bool false]) (by simp [results, Tryd.results52, go_sem, q0, q1, q2]) rfl (readsAc_mk (0, 0, 0) false rfl NO.out (low_gr GR.out))
      have hda : 0 ≤ n0 ∧ p1 = dec n0 := by
        rcases N0.out with ⟨_, h1, h2, _⟩ | ⟨h, _⟩
        · exact ⟨h1, h2⟩
        · cases h
      have hdb : 0 ≤ n1 ∧ p2 = dec n1 := by
        rcases N1.out with ⟨_, h1, h2, _⟩ | ⟨h, _⟩
        · exact ⟨h1, h2⟩
        · cases h
      have PE := Lib.hid (l06Person_any n0 wr)
      by_cases ha : 49 < n0
      · have NO := Lib.hid (show AcM T.data.toList (0, 0, 0) false from .inr ⟨rfl, fun x' h => by
          obtain ⟨e1, e2, e3, e4⟩ := WV.out x' h
          exact num_fail3 (most := 49) (by omega) N0.out (.inr ha) x'.2.1 (by omega) (by omega) e1⟩)
        rw [show inB n0 0 49 = false from by unfold inB; exact decide_eq_false (by omega)] at PE
        clear ha hda hdb
        go_wp2_with fail
        refine PE.out.mono ?_
        rintro e w' ⟨rfl, rfl⟩
        have r0 := XR.out.rb.c0
        have r1 := XR.out.rb.c1
        have r2 := XR.out.rb.c2
        have fz := XR.out.rb.fz
        have PR := Lib.hid (XR.out.rb.all 0 0 0)
        have GR := Lib.hid (gr3 0 0 0 (Gr.of (g := w.heap.size) XR.out.bl))
        go_wp2
        have q0 := PR.out.c0
        have q1 := PR.out.c1
        have q2 := PR.out.c2
        exact bodyPost_ret (v := .tuple #[.agg #[.int .i8 0, .int .i8 0, .int .i8 0], .bool false]) (by simp [results, Tryd.results52, go_sem, q0, q1, q2]) rfl (readsAc_mk (0, 0, 0) false rfl NO.out (low_gr GR.out))
      rw [show inB n0 0 49 = true from by unfold inB; exact decide_eq_true (by omega)] at PE
      by_cases hb : 59 < n1
      · have gb1 : decide (60 ≤ n1) = true := decide_eq_true (by omega)
        have NO := Lib.hid (show AcM T.data.toList (0, 0, 0) false from .inr ⟨rfl, fun x' h => by
          obtain ⟨e1, e2, e3, e4⟩ := WV.out x' h
          exact num_fail3 (most := 59) (by omega) N1.out (.inr hb) x'.2.2 (by omega) (by omega) e2⟩)
        clear ha hb hda hdb
        go_wp2_with fail
        refine PE.out.mono ?_
        rintro e w' ⟨rfl, rfl⟩
        have r0 := XR.out.rb.c0
        have r1 := XR.out.rb.c1
        have r2 := XR.out.rb.c2
        have fz := XR.out.rb.fz
        have PR := Lib.hid (XR.out.rb.all 0 0 0)
        have GR := Lib.hid (gr3 0 0 0 (Gr.of (g := w.heap.size) XR.out.bl))
        go_wp2
        have q0 := PR.out.c0
        have q1 := PR.out.c1
        have q2 := PR.out.c2
        exact bodyPost_ret (v := .tuple #[.agg #[.int .i8 0, .int .i8 0, .int .i8 0], .bool false]) (by simp [results, Tryd.results52, go_sem, q0, q1, q2]) rfl (readsAc_mk (0, 0, 0) false rfl NO.out (low_gr GR.out))
      obtain ⟨a, rfl⟩ : ∃ a : Nat, n0 = (a : Int) := ⟨n0.toNat, by omega⟩
      obtain ⟨b, rfl⟩ : ∃ b : Nat, n1 = (b : Int) := ⟨n1.toNat, by omega⟩
      have YE := Lib.hid (show AcM T.data.toList (m, a, b) true from .inl ⟨rfl, acP_go JX.out hm4 (by omega) (by omega) XP.out hda.2 hdb.2⟩)
      have gb1 : decide (60 ≤ (b : Int)) = false := decide_eq_false (by omega)
      have gb2 : decide (60 ≤ b) = false := decide_eq_false (by omega)
      have hw0 : IntKind.i8.wrap (m : Int) = (m : Int) := IntWalk.i8_in _ (by omega)
      have hw1 : IntKind.i8.wrap (a : Int) = (a : Int) := IntWalk.i8_in _ (by omega)
      have hw2 : IntKind.i8.wrap (b : Int) = (b : Int) := IntWalk.i8_in _ (by omega)
      clear ha hb hda hdb
      go_wp2_with fail
      refine PE.out.mono ?_
      rintro e w' ⟨rfl, rfl⟩
      have r0 := XR.out.rb.c0
      have r1 := XR.out.rb.c1
      have r2 := XR.out.rb.c2
      have fz := XR.out.rb.fz
      have PR := Lib.hid (XR.out.rb.all (m : Int) (a : Int) (b : Int))
      have GR := Lib.hid (gr3 (m : Int) (a : Int) (b : Int) (Gr.of (g := w.heap.size) XR.out.bl))
      go_wp2
      have q0 := PR.out.c0
      have q1 := PR.out.c1
      have q2 := PR.out.c2
      exact bodyPost_ret (v := .tuple #[.agg #[.int .i8 (m : Int), .int .i8 (a : Int), .int .i8 (b : Int)], .bool true]) (by simp [results, Tryd.results52, go_sem, q0, q1, q2]) rfl (readsAc_mk (m, a, b) true rfl YE.out (low_gr GR.out))
end Go.Proofs.YtkojnepgeegalaaDoor
