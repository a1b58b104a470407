/- The books that are kept, by the model: contracts. Condition: at most 60 books, whose numbers lie within their kinds. -/
import Derived.Test.YtgfffbnodinkcabDoorSpecLong
import Derived.Test.YtgfffbnodinkcabDoorKeptD
namespace Go.Proofs.YtgfffbnodinkcabDoor
set_option linter.unusedSimpArgs false
set_option linter.unusedVariables false
set_option maxRecDepth 100000
open Go.RowKit

set_option maxHeartbeats 8000000 in
theorem l03Behind_any (v0 : Value) (xs : List Bk) (wf : ∀ b ∈ xs, b.Wf) (w : World) (hs : SliceOf w v0 xs) (h60 : xs.length ≤ 60) :
    Calls Tryd.prog 75 #[v0] w fun e w' => ∃ g, e = .returned (.slice (some ⟨g, 0, none⟩) xs.length xs.length) ∧ w'.ownsRow w.heap.size 2 1 (.slice (some ⟨g, 0, none⟩) xs.length xs.length) xs.length ((backs xs).map (Value.int .i64)) ∧ Below w.heap.size w w' := by
  obtain ⟨A, c, rfl, hs⟩ := hs
  obtain ⟨i0, hi, hz0, hz1, hz2⟩ := info_parts infoInt64
  have hmk := fun W => run_make_rowN (P := Tryd.prog) 41 2 i0 _ Tryd.underlying41 hi hz0 .i64 .i64 xs.length xs.length (Nat.le_refl _) (by rw [hz2]; omega) (by omega) W
  rw [hz1, Nat.mul_one] at hmk
  have H0 := Lib.hid (made_row w (geP xs.reverse) 2 xs.length (by unfold maxLen; omega))
  rw [← bakR_zero] at H0
  have HS := Lib.hid hs
  have WF := Lib.hid wf
  clear hi hz0 hz1 hz2 hs wf
  go_enter Tryd.func75, Tryd.ntmps75
  go_wp2
  go_loopw [4] (fun i_ wr => ∃ (m : Nat) (z : Int), z = (xs.length : Int) - 1 - m ∧ m ≤ xs.length ∧ i_ = .int .i64 z ∧ wr.ownsRow w.heap.size 2 1 (.slice (some ⟨w.heap.size, 0, none⟩) xs.length xs.length) xs.length ((bakR (geP xs.reverse) xs.length m).map (Value.int .i64)) ∧ Below w.heap.size w wr) (fun i_ _ => (intOf i_ + 1).toNat)
  case atStart => exact ⟨0, _, by omega, Nat.zero_le _, rfl, H0.out, (Below.refl _ _).alloc (Nat.le_refl _) _⟩
  case round =>
    obtain ⟨m, z, hz, hm, rfl, hrow, hb⟩ := hrel
    have HR := Lib.hid hrow
    clear hrow
    by_cases hlt : m < xs.length
    · obtain ⟨i, him⟩ : ∃ i, i + 1 + m = xs.length := ⟨xs.length - 1 - m, by omega⟩
      obtain rfl : z = (i : Int) := by omega
      have HZ := Lib.hid hz
      obtain ⟨ga, oa, rfl, hga, hat⟩ := HS.out (by omega)
      have HAT := Lib.hid hat
      have hix : i < xs.length := by omega
      clear hat hz
      obtain ⟨wo, rfl⟩ : ∃ wo : World, wo = wr := ⟨_, rfl⟩
      go_wp2
      go_loopw [5, 6] (fun n_ k_ wr => ∃ d k : Nat, d ≤ m ∧ k = i + 1 + d ∧ k_ = .int .i64 (k : Int) ∧ n_ = .int .i64 (mostDn (geP xs.reverse m) (chains (geP xs.reverse) m) m d) ∧ wr.ownsRow w.heap.size 2 1 (.slice (some ⟨w.heap.size, 0, none⟩) xs.length xs.length) xs.length ((bakR (geP xs.reverse) xs.length m).map (Value.int .i64)) ∧ Below w.heap.size w wr) (fun _ k_ _ => xs.length - (intOf k_).toNat)
      case atStart => exact ⟨0, i + 1, Nat.zero_le _, rfl, by first | rfl | go_num, rfl, HR.out, hb⟩
      case round =>
        obtain ⟨d, k, hd, hkd, rfl, rfl, hown, hb⟩ := hrel
        have OW1 := Lib.hid hown
        have hbd := mostDn_bd (geP xs.reverse m) (chains (geP xs.reverse) m) m m (by omega) (fun k => (chains_bd (geP xs.reverse) m k).2) d
        have zg := Nat.lt_of_lt_of_le hga hb.size
        have HKD := Lib.hid hkd
        by_cases hki : d < m
        · have hkx : k < xs.length := by omega
          obtain ⟨t, ht⟩ : ∃ t, t = m - 1 - d := ⟨_, rfl⟩
          have hk1 : k + 1 + t = xs.length := by omega
          have htm : t < m := by omega
          have A1 := Lib.hid ((HAT.out.below hb hga).at_ zg hkx)
          have A0 := Lib.hid ((HAT.out.below hb hga).at_ zg hix)
          have PE := Lib.hid (geP_rev WF.out him hk1)
          have MS := Lib.hid (show mostDn (geP xs.reverse m) (chains (geP xs.reverse) m) m (d + 1) = if geP xs.reverse m t then max (mostDn (geP xs.reverse m) (chains (geP xs.reverse) m) m d) ((chains (geP xs.reverse) m).getD t 0) else mostDn (geP xs.reverse m) (chains (geP xs.reverse) m) m d by rw [ht]; rfl)
          have b2 := chains_bd (geP xs.reverse) m t
          have CA := Lib.hid (bakR_at (geP xs.reverse) hk1 htm hm)
          clear hown hkd ht
          go_wp2
          refine wp_region_below (by kernel_rfl) (by kernel_rfl) ?_
          repeat (first | go_big_quiet_step ((go_at_call 71; exact calls_below (l01Usual_any xs[k] xs[i] (WF.out _ (List.getElem_mem _)) (WF.out _ (List.getElem_mem _)) _ _ _ _ _ (A1.out.next (BelowBy.h _)) (A0.out.next (BelowBy.h _))))) | quiet_step ((go_at_call 71; exact calls_below (l01Usual_any xs[k] xs[i] (WF.out _ (List.getElem_mem _)) (WF.out _ (List.getElem_mem _)) _ _ _ _ _ (A1.out.next (BelowBy.h _)) (A0.out.next (BelowBy.h _))))))
          refine wpQuiet_nil ?_
          rintro wq ⟨⟨_, hq⟩, rfl⟩
          have g1 := hb.trans (hq.mono hb.size)
          have OW2 := Lib.hid (ownsBelow OW1.out hq)
          generalize usual xs[k] xs[i] = r at PE ⊢
          generalize mostDn (geP xs.reverse m) (chains (geP xs.reverse) m) m d = M at *
          cases ho : geP xs.reverse m t
          · have hr : r < 0 := by have h := PE.out.symm.trans ho; have := of_decide_eq_false h; omega
            have MS2 := Lib.hid (show mostDn (geP xs.reverse m) (chains (geP xs.reverse) m) m (d + 1) = M by rw [MS.out, ho]; rfl)
            clear ho
            go_wp2
            go_roundw
            case rel => exact ⟨d + 1, k + 1, by omega, by have := HKD.out; omega, by go_num, by rw [MS2.out], OW2.out, g1⟩
            case measure => simp [intOf]; omega
          · have hr : 0 ≤ r := by have h := PE.out.symm.trans ho; exact of_decide_eq_true h
            have c1 := (OW2.out.cellAt k (by omega)).trans CA.out
            have MS2 := Lib.hid (show mostDn (geP xs.reverse m) (chains (geP xs.reverse) m) m (d + 1) = max M ((chains (geP xs.reverse) m).getD t 0) by rw [MS.out, ho]; rfl)
            generalize (chains (geP xs.reverse) m).getD t 0 = C at *
            have MX := Lib.hid (show (if M < C then C else M) = max M C by rw [Int.max_def]; split <;> split <;> omega)
            have N0 := Lib.hid (fun W => l00Max_any M C _ MX.out W)
            clear ho
            generalize max M C = X at *
            go_wp2_with fail
            refine (N0.out _).mono ?_
            rintro e w9 ⟨rfl, rfl⟩
            go_wp2
            go_roundw
            case rel => exact ⟨d + 1, k + 1, by omega, by have := HKD.out; omega, by go_num, by rw [MS2.out], OW2.out, g1⟩
            case measure => simp [intOf]; omega
        · obtain rfl : d = m := by omega
          obtain rfl : k = xs.length := by omega
          obtain ⟨u, hu⟩ := bakR_has (geP xs.reverse) hix hm
          have c1 := (hown.cellAt i (by omega)).trans hu
          have fz := hown.frozenAt
          have RS := Lib.hid (bakR_set (geP xs.reverse) him)
          rw [mostDn_all] at hbd ⊢
          generalize mostTo (geP xs.reverse d) (chains (geP xs.reverse) d) d = M at *
          have wr1 : IntKind.i64.wrap (M + 1) = M + 1 := IntWalk.i64_in _ (by omega)
          clear hown hu hkd
          go_wp2
          go_roundw
          case rel => exact ⟨d + 1, (i : Int) - 1, by omega, by omega, by go_num, by rw [← RS.out]; exact (OW1.out.stored i _).1, hb.setCell (p := ⟨w.heap.size, i, none⟩) (Nat.le_refl _) _⟩
          case measure => simp [intOf]
    · obtain rfl : m = xs.length := by omega
      obtain rfl : z = -1 := by omega
      have E := Lib.hid (bakR_all xs)
      clear hz
      go_wp2
      go_ret
      exact ⟨_, rfl, by rw [← E.out]; exact HR.out, hb⟩

/-- The index of the last one that is kept, -1 if there is none. -/
def lastI (ks : List Nat) : Int := if ks.length = 0 then -1 else (ks.getLastD 0 : Int)

set_option maxHeartbeats 8000000 in
theorem l03Kept_any (v0 : Value) (xs : List Bk) (wf : ∀ b ∈ xs, b.Wf) (w : World) (hs : SliceOf w v0 xs) (h60 : xs.length ≤ 60) :
    Calls Tryd.prog 64 #[v0] w fun e w' => ∃ v, e = .returned v ∧ w'.ownsRow w.heap.size 2 1 v (keptL xs).length ((keptL xs).map (Value.int .i64)) ∧ Below w.heap.size w w' := by
  have HS0 := Lib.hid hs
  obtain ⟨A, c, rfl, hs⟩ := hs
  obtain ⟨i0, hi0, hz0, hz1, hz2⟩ := info_parts infoInt64
  have HS := Lib.hid hs
  have WF := Lib.hid wf
  have BD := Lib.hid (fun k (h : k < xs.length) => backs_bd xs h)
  have BA := Lib.hid (fun k (h : k < xs.length) => show ((backs xs).map (Value.int .i64))[k]? = some (.int .i64 ((backs xs).getD k 0)) by rw [List.getElem?_map, List.getD_eq_getElem?_getD, List.getElem?_eq_getElem (by rw [backs_length]; exact h)]; rfl)
  have MB := Lib.hid (mostTo_all_bd xs)
  clear hs wf
  go_enter Tryd.func64, Tryd.ntmps64
  go_wp2_with fail
  refine (l03Behind_any _ xs WF.out _ HS0.out h60).mono ?_
  rintro e w1 ⟨gb, rfl, ho1, h1⟩
  have O1 := Lib.hid ho1
  have BL : ((backs xs).length : Int) = xs.length := by rw [backs_length]
  clear ho1 BL
  go_wp2
  go_loopw [4, 5] (fun m_ k_ wr => ∃ k : Nat, k ≤ xs.length ∧ k_ = .int .i64 (k : Int) ∧ m_ = .int .i64 (mostTo (fun _ => true) (backs xs) k) ∧ wr = w1) (fun _ k_ _ => xs.length - (intOf k_).toNat)
  case atStart => exact ⟨0, Nat.zero_le _, rfl, rfl, rfl⟩
  case round =>
    obtain ⟨k, hk, rfl, rfl, rfl⟩ := hrel
    have mb := MB.out k hk
    by_cases hlt : k < xs.length
    · have c1 := (O1.out.cellAt k (by omega)).trans (BA.out k hlt)
      have MS := Lib.hid (show mostTo (fun _ => true) (backs xs) (k + 1) = max (mostTo (fun _ => true) (backs xs) k) ((backs xs).getD k 0) from rfl)
      generalize mostTo (fun _ => true) (backs xs) k = M at *
      generalize (backs xs).getD k 0 = C at *
      have MX := Lib.hid (show (if M < C then C else M) = max M C by rw [Int.max_def]; split <;> split <;> omega)
      have N0 := Lib.hid (fun W => l00Max_any M C _ MX.out W)
      generalize max M C = X at *
      go_wp2_with fail
      refine (N0.out _).mono ?_
      rintro e w9 ⟨rfl, rfl⟩
      go_wp2
      go_roundw
      case rel => exact ⟨k + 1, by omega, by go_num, by rw [MS.out], by first | rfl | trivial⟩
      case measure => simp [intOf]; omega
    · obtain rfl : k = xs.length := by omega
      have MO := Lib.hid (show mostTo (fun _ => true) (backs xs) xs.length = mostOf xs from rfl)
      rw [MO.out] at mb ⊢
      have hsz := h1.size
      obtain ⟨w2, rfl⟩ : ∃ w2 : World, w2 = wr := ⟨_, rfl⟩
      have hgb2 : gb < w2.heap.size := (O1.out.lt gb rfl).2
      have hw2 := hsz
      have H0 := Lib.hid (show (w2.alloc (.cells #[] 2)).ownsRow w2.heap.size 2 1 (.slice (some ⟨w2.heap.size, 0, none⟩) 0 0) 0 ((([] : List Nat).map fun n : Nat => (n : Int)).map (Value.int .i64)) from
        ⟨rfl, .inr ⟨w2.heap.size, 0, #[], rfl, Nat.le_refl _, heap_alloc_new w2 _, Nat.le_refl _, Nat.zero_le _, rfl, rfl⟩⟩)
      have O2 := Lib.hid (ownsBelow O1.out ((Below.refl w2.heap.size w2).alloc (Nat.le_refl _) (.cells #[] 2)))
      have h2 := h1.alloc hsz (.cells #[] 2)
      go_wp2
      go_loopw [6, 4, 7, 8] (fun v_ m_ l_ i_ wr => ∃ (i : Nat) (ks : List Nat), i ≤ xs.length ∧ ks = keptTo xs i ∧ 0 ≤ mostOf xs - (ks.length : Int) ∧ i_ = .int .i64 (i : Int) ∧ m_ = .int .i64 (mostOf xs - (ks.length : Int)) ∧ l_ = .int .i64 (lastI ks) ∧ wr.ownsRow w2.heap.size 2 1 v_ ks.length ((ks.map fun n : Nat => (n : Int)).map (Value.int .i64)) ∧ wr.ownsRow w.heap.size 2 1 (.slice (some ⟨gb, 0, none⟩) xs.length xs.length) xs.length ((backs xs).map (Value.int .i64)) ∧ Below w.heap.size w wr ∧ Below w2.heap.size w2 wr) (fun _ _ _ i_ _ => xs.length - (intOf i_).toNat)
      case atStart => exact ⟨0, [], Nat.zero_le _, rfl, by simpa using mb.1, rfl, by simp, rfl, H0.out, O2.out, h2, (Below.refl _ _).alloc (Nat.le_refl _) _⟩
      case round =>
        obtain ⟨i, ks, hi, hks, hm0, rfl, rfl, rfl, hown, ho, hb, hbw⟩ := hrel
        have BW := Lib.hid hbw
        obtain ⟨A3, c3, rfl⟩ := vlen_own1 hown
        have hgbl : gb < wr.heap.size := (ho.lt gb rfl).2
        have hlow : w2.heap.size ≤ wr.heap.size := hbw.size
        have OW := Lib.hid hown
        have OB := Lib.hid ho
        have HKS := Lib.hid hks
        have hlen : ks.length ≤ i := by rw [hks]; exact keptTo_len xs i
        have hlast : 0 < ks.length → ks.getLastD 0 < i := by rw [hks]; exact last_lt xs i
        have HLA := Lib.hid hlast
        have MX := Lib.hid mb
        clear hown ho hks hlast mb
        obtain ⟨wo, rfl⟩ : ∃ wo : World, wo = wr := ⟨_, rfl⟩
        have hsz := hb.size
        by_cases hlt : i < xs.length
        · by_cases hpos : 0 < mostOf xs - (ks.length : Int)
          · have bd := BD.out i hlt
            have c1 := (OB.out.cellAt i (by omega)).trans (BA.out i hlt)
            obtain ⟨M, hM⟩ : ∃ M, M = mostOf xs - (ks.length : Int) := ⟨_, rfl⟩
            have ML := Lib.hid (show mostOf xs - ((ks ++ [i]).length : Int) = M - 1 by rw [hM]; simp; omega)
            have LS := Lib.hid (show lastI (ks ++ [i]) = (i : Int) by unfold lastI; rw [if_neg (by simp), last_snoc])
            have HMM := Lib.hid hM
            have hM60 : M ≤ 60 := by have := (MX.out).2; omega
            have n1 : IntKind.i64.wrap (M - 1) = M - 1 := IntWalk.i64_in _ (by omega)
            by_cases heq : (backs xs).getD i 0 = mostOf xs - (ks.length : Int)
            · by_cases h0 : ks.length = 0
              · have TK := Lib.hid (kept_take HKS.out (take_first heq h0))
                have l0 : lastI ks = -1 := by unfold lastI; rw [if_pos h0]
                rw [← hM] at heq hpos hm0 ⊢
                rw [l0]
                rw [heq] at c1 bd
                have c1 := belowBy_cell hgbl c1
                have HEQ := Lib.hid heq
                clear l0 heq hM h0
                go_wp2
                refine wp_region_below (by kernel_rfl) (by kernel_rfl) ?_
                repeat (first | go_big_quiet_step (fail) | quiet_step (fail))
                refine wpQuiet_nil ?_
                rintro wq ⟨⟨_, hq⟩, rfl⟩
                have g1 := Lib.hid (bnext hb hq)
                have OWq := Lib.hid (ownsBelow OW.out hq)
                have OBq := Lib.hid (ownsBelow OB.out hq)
                go_wp2_with (at_builtin; refine wpList_append_own _ rfl (.tmp 54) (.tmp 56) _ rfl w2.heap.size 2 i0 (.int .i64 0) 1 8 Tryd.underlying41 hi0 hz0 hz1 hz2 rfl (by decide) _ _ _ rfl (OWq.out.alloc _) ⟨wq.heap.size, 0, none⟩ 1 1 [.int .i64 (i : Int)] rfl rfl ?c1a ?c2a ?c3a ?c4a ?c5a ?_)
                case c1a => exact cell_one_new _ _ _
                case c2a => (intro u hu; simp at hu; subst hu; rfl)
                case c3a => (unfold maxLen; omega)
                case c4a => omega
                case c5a => (have := hq.size; simp; omega)
                intro v' w4 hown' hgrow' _
                have OW4 := Lib.hid hown'
                have B4 := Lib.hid ((g1.out.alloc g1.out.size _).grown hgrow' (by simp; have := g1.out.size; omega) (fun k hk => by have := (OWq.out.lt k hk).1; omega))
                have BW4 := Lib.hid (((bnext BW.out hq).alloc (bnext BW.out hq).size _).grown hgrow' (by simp; have := (bnext BW.out hq).size; omega) (fun k hk => (OWq.out.lt k hk).1))
                have OB4 := Lib.hid (ownsOther (OBq.out.alloc _) hgrow' (fun k hk e => by obtain rfl : gb = k := Option.some.inj hk; have := (OWq.out.lt gb e.symm).1; omega))
                clear hown' hgrow'
                go_wp2
                go_roundw
                case rel => exact ⟨i + 1, ks ++ [i], by omega, TK.out, by rw [ML.out]; omega, by go_num, by rw [ML.out], by rw [LS.out], by simpa using OW4.out, OB4.out, B4.out, BW4.out⟩
                case measure => simp [intOf]; omega
              · have hl := HLA.out (by omega)
                obtain ⟨l, hle⟩ : ∃ l, ks.getLastD 0 = l := ⟨_, rfl⟩
                rw [hle] at hl
                have hlx : l < xs.length := by omega
                have TL := Lib.hid (take_later WF.out heq h0 hle hlt hlx)
                have l0 : lastI ks = (l : Int) := by unfold lastI; rw [if_neg h0, hle]
                obtain ⟨ga, oa, e1, hga, hat⟩ := HS.out (by omega)
                subst e1
                have zg := Nat.lt_of_lt_of_le hga hb.size
                have A1 := Lib.hid ((hat.below hb hga).at_ zg hlt)
                have A0 := Lib.hid ((hat.below hb hga).at_ zg hlx)
                have hl0 : ¬ ((l : Int) < 0) := by omega
                rw [← hM] at heq hpos hm0 ⊢
                rw [l0]
                rw [heq] at c1 bd
                have c1 := belowBy_cell hgbl c1
                have HEQ := Lib.hid heq
                have L0 := Lib.hid l0
                clear heq hM h0 hat hle l0
                go_wp2
                refine wp_region_below (by kernel_rfl) (by kernel_rfl) ?_
                repeat (first | go_big_quiet_step ((go_at_call 71; exact calls_below (l01Usual_any xs[i] xs[l] (WF.out _ (List.getElem_mem _)) (WF.out _ (List.getElem_mem _)) _ _ _ _ _ (A1.out.next (BelowBy.h _)) (A0.out.next (BelowBy.h _))))) | quiet_step ((go_at_call 71; exact calls_below (l01Usual_any xs[i] xs[l] (WF.out _ (List.getElem_mem _)) (WF.out _ (List.getElem_mem _)) _ _ _ _ _ (A1.out.next (BelowBy.h _)) (A0.out.next (BelowBy.h _))))))
                refine wpQuiet_nil ?_
                rintro wq ⟨⟨_, hq⟩, rfl⟩
                have g1 := Lib.hid (bnext hb hq)
                have OWq := Lib.hid (ownsBelow OW.out hq)
                have OBq := Lib.hid (ownsBelow OB.out hq)
                generalize usual xs[i] xs[l] = r at TL ⊢
                cases ht : takeB xs ks i
                · have hr : ¬ 0 ≤ r := of_decide_eq_false (TL.out.symm.trans ht)
                  have hr2 : r < 0 := by omega
                  have TK := Lib.hid (kept_leave HKS.out ht)
                  clear ht
                  go_wp2
                  go_roundw
                  case rel => exact ⟨i + 1, ks, by omega, TK.out, by rw [← HMM.out]; omega, by go_num, by rw [← HMM.out], by rw [L0.out], OWq.out, OBq.out, g1.out, bnext BW.out hq⟩
                  case measure => simp [intOf]; omega
                · have hr : 0 ≤ r := of_decide_eq_true (TL.out.symm.trans ht)
                  have TK := Lib.hid (kept_take HKS.out ht)
                  clear ht
                  go_wp2_with (at_builtin; refine wpList_append_own _ rfl (.tmp 54) (.tmp 56) _ rfl w2.heap.size 2 i0 (.int .i64 0) 1 8 Tryd.underlying41 hi0 hz0 hz1 hz2 rfl (by decide) _ _ _ rfl (OWq.out.alloc _) ⟨wq.heap.size, 0, none⟩ 1 1 [.int .i64 (i : Int)] rfl rfl ?c1b ?c2b ?c3b ?c4b ?c5b ?_)
                  case c1b => exact cell_one_new _ _ _
                  case c2b => (intro u hu; simp at hu; subst hu; rfl)
                  case c3b => (unfold maxLen; omega)
                  case c4b => omega
                  case c5b => (have := hq.size; simp; omega)
                  intro v' w4 hown' hgrow' _
                  have OW4 := Lib.hid hown'
                  have B4 := Lib.hid ((g1.out.alloc g1.out.size _).grown hgrow' (by simp; have := g1.out.size; omega) (fun k hk => by have := (OWq.out.lt k hk).1; omega))
                  have BW4 := Lib.hid (((bnext BW.out hq).alloc (bnext BW.out hq).size _).grown hgrow' (by simp; have := (bnext BW.out hq).size; omega) (fun k hk => (OWq.out.lt k hk).1))
                  have OB4 := Lib.hid (ownsOther (OBq.out.alloc _) hgrow' (fun k hk e => by obtain rfl : gb = k := Option.some.inj hk; have := (OWq.out.lt gb e.symm).1; omega))
                  clear hown' hgrow'
                  go_wp2
                  go_roundw
                  case rel => exact ⟨i + 1, ks ++ [i], by omega, TK.out, by rw [ML.out]; omega, by go_num, by rw [ML.out], by rw [LS.out], by simpa using OW4.out, OB4.out, B4.out, BW4.out⟩
                  case measure => simp [intOf]; omega
            · have TK := Lib.hid (kept_leave HKS.out (take_no heq))
              have hne2 : (backs xs).getD i 0 ≠ M := by rw [hM]; exact heq
              generalize (backs xs).getD i 0 = C at *
              have e1 : (C == M) = false := beq_eq_false_iff_ne.2 hne2
              rw [← hM] at hpos hm0 ⊢
              clear heq hM
              have c1 := belowBy_cell hgbl c1
              generalize hLI : lastI ks = LI at *
              have HLI := Lib.hid hLI
              clear hLI
              go_wp2
              refine wp_region_below (by kernel_rfl) (by kernel_rfl) ?_
              repeat (first | go_big_quiet_step (fail) | quiet_step (fail))
              refine wpQuiet_nil ?_
              rintro wq ⟨⟨_, hq⟩, rfl⟩
              have g1 := Lib.hid (bnext hb hq)
              have OWq := Lib.hid (ownsBelow OW.out hq)
              have OBq := Lib.hid (ownsBelow OB.out hq)
              go_wp2
              go_roundw
              case rel => exact ⟨i + 1, ks, by omega, TK.out, by rw [← HMM.out]; omega, by go_num, by rw [← HMM.out], by rw [HLI.out], OWq.out, OBq.out, g1.out, bnext BW.out hq⟩
              case measure => simp [intOf]; omega
          · have E := Lib.hid (kept_stop (xs := xs) (i := i) (by rw [← HKS.out]; omega) (xs.length - i) (by omega))
            have e1 : mostOf xs - (ks.length : Int) = 0 := by omega
            rw [e1]
            clear e1
            go_wp2
            go_ret
            exact ⟨_, rfl, by unfold keptL; rw [show xs.length = i + (xs.length - i) by omega, E.out, ← HKS.out, List.length_map]; exact ownsMono OW.out hw2, hb⟩
        · obtain rfl : i = xs.length := by omega
          go_wp2
          go_ret
          exact ⟨_, rfl, by unfold keptL; rw [← HKS.out, List.length_map]; exact ownsMono OW.out hw2, hb⟩

end Go.Proofs.YtgfffbnodinkcabDoor
