/- Whether a table is a proof, by the program: contracts. Condition: a valid case and list, a table no longer than slices can be. -/
import Derived.Test.YtonclaakaaidlaaIsTable
namespace Go.Proofs.Ytonclaakaaidlaa
set_option linter.unusedSimpArgs false
set_option linter.unusedVariables false
set_option maxRecDepth 100000
open Go.RowKit

noncomputable def cellB (c : Cs) (xs : List Bk) (t : List (List Int)) (s i : Nat) : Bool := @decide (StepsTo c xs t s i (cntR c s xs i)) (Classical.propDecidable _)
theorem cellB_yes {c : Cs} {xs : List Bk} {t : List (List Int)} {s i : Nat} (h : StepsTo c xs t s i (cntR c s xs i)) : cellB c xs t s i = true := by unfold cellB; exact @decide_eq_true _ (Classical.propDecidable _) h
theorem cellB_no {c : Cs} {xs : List Bk} {t : List (List Int)} {s i : Nat} (h : ¬ StepsTo c xs t s i (cntR c s xs i)) : cellB c xs t s i = false := by unfold cellB; exact @decide_eq_false _ (Classical.propDecidable _) h
theorem cellB_out {c : Cs} {xs : List Bk} {t : List (List Int)} {s i : Nat} (h : cellB c xs t s i = true) : StepsTo c xs t s i (cntR c s xs i) := by unfold cellB at h; exact @of_decide_eq_true _ (Classical.propDecidable _) h
theorem cellB_not {c : Cs} {xs : List Bk} {t : List (List Int)} {s i : Nat} (h : cellB c xs t s i = false) : ¬ StepsTo c xs t s i (cntR c s xs i) := by unfold cellB at h; exact @of_decide_eq_false _ (Classical.propDecidable _) h
theorem cost_price {c : Cs} {s : Nat} {ps : List Bk} (h : fitsB c s ps = true) : measV 2 ps.length (freeB c ps) = priceS c s ps false := by
  have hf : freeS c s ps = freeB c ps := by unfold freeS; rw [h]; rfl
  have hn := freeS_nonneg c s ps
  rw [h, hf] at hn
  simp only [decide_eq_true_eq] at hn
  have hnn : ¬ freeB c ps < 0 := by omega
  unfold priceS measV useI
  rw [hf]
  by_cases h0 : ps.length = 0
  · rw [if_neg hnn, if_pos h0, if_pos h0]; simp
  · rw [if_neg hnn, if_neg h0, if_neg h0]; simp
/-- Each row that the program lists fits. -/
theorem fits_within {c : Cs} {s : Nat} {xs : List Bk} {i : Nat} (hc : caseB c = true) (hi : i ≤ xs.length) : ∀ d, d < cntR c s xs i → fitsB c s (part xs i (i + d)) = true
  | 0, _ => by rw [Nat.add_zero, part_nil]; exact fits_nil s hc
  | d + 1, h => by
    have key : ∀ f k, i ≤ k → fitsB c s (part xs i k) = true → ∀ k', k ≤ k' → k' ≤ reachF c s xs i f k → fitsB c s (part xs i k') = true := by
      intro f
      induction f with
      | zero => intro k _ hk k' h1 h2; rw [reachF] at h2; obtain rfl : k' = k := by omega
                exact hk
      | succ f ih =>
        intro k hik hk k' h1 h2
        rw [reachF] at h2
        by_cases hf : fitsB c s (part xs i (k + 1)) = true
        · rw [if_pos hf] at h2
          by_cases e : k' = k
          · subst e; exact hk
          · exact ih (k + 1) (by omega) hf k' (by omega) h2
        · rw [if_neg hf] at h2
          obtain rfl : k' = k := by omega
          exact hk
    refine key (xs.length - i) i (Nat.le_refl _) (by rw [part_nil]; exact fits_nil s hc) _ (by omega) ?_
    unfold cntR reach at h
    omega

set_option maxHeartbeats 16000000 in
theorem isProvedAt_any (c : Cs) (hv : Value) (A : Option Addr) (m : Nat) (v : Value) (xs : List Bk) (t : List (List Int)) (s i : Nat) (wc : c.Wf) (wf : ∀ b ∈ xs, b.Wf) (wt : ∀ zs ∈ t, ∀ z ∈ zs, (Lit.int .i64 z).wf = true) (w : World) (sc : IntsOf .i16 w hv c.hs) (h1 : caseB c = true) (sl : SliceOf w (.slice A xs.length m) xs) (hm : xs.length ≤ m) (h2 : okB xs = true) (ht : TabOf w v t) (hF : FormP c xs t) (hs : s < c.hs.length) (hi : i < xs.length + 1) :
    Calls Try.prog 117 #[.agg #[.int .i16 c.wi, .int .i32 c.lo, hv], .slice A xs.length m, v, .int .i64 (s : Int), .int .i64 (i : Int)] w fun e w' => e = .returned (.bool (cellB c xs t s i)) ∧ Below w.heap.size w w' := by
  obtain ⟨cl1, cl2⟩ := caseB_lens h1
  have h60 := okB_len h2
  have G0 := Lib.hid (show Below w.heap.size w (w.alloc (.cells #[.int .i16 c.wi, .int .i32 c.lo, hv] 53)) by go_grown)
  have HC := Lib.hid (sc.below G0.out)
  have SL := Lib.hid (sl.below G0.out)
  have WC := Lib.hid wc
  have WF := Lib.hid wf
  have K1 := Lib.hid h1
  have K2 := Lib.hid h2
  have HF := Lib.hid hF
  have HT := Lib.hid ht
  obtain ⟨T, cT, rfl, -⟩ := ht
  obtain ⟨g0, o0, rfl, hg0⟩ := HT.out.some_ (by have := HF.out.len; omega)
  have HT0 := Lib.hid (HT.out.below G0.out)
  have HLT := Lib.hid hF.len
  rw [hF.len] at HT HT0 ⊢
  obtain ⟨H, qh, rfl, -⟩ := sc
  obtain ⟨gs, os, cs, p0, p1, -⟩ := HT.out.num G0.out (s := s) (i := i) (by have := HLT.out; omega) (hF.rows s (by omega)) hi
  obtain ⟨tz1, tz2⟩ := tv_in wt s i
  have tz3 := hF.least s (by omega) i hi
  generalize hz : tv t s i = z at p1 tz1 tz2 tz3
  have HZ := Lib.hid hz
  have hin : i ≤ xs.length := by omega
  have hs1 : s < c.hs.length + 1 := by omega
  clear sl wc wf wt h1 h2 hF hz tz1
  go_enter Try.func117, Try.ntmps117
  go_wp2_with fail
  generalize World.alloc _ _ = W0 at G0 HC SL HT0 p0 p1 ⊢
  refine (rowsFrom_any c _ A m xs s i WF.out _ HC.out hs K1.out SL.out hm K2.out hin).mono ?_
  rintro e w1 ⟨u, rfl, ho, g1⟩
  clear p0 p1
  have hcn0 : 0 < cntR c s xs i := by unfold cntR; omega
  have hcnm : i + cntR c s xs i ≤ xs.length + 1 := by have := reach_le (c := c) (s := s) hin; unfold cntR; omega
  obtain ⟨N, hN⟩ : ∃ N, N = cntR c s xs i := ⟨_, rfl⟩
  rw [← hN] at ho hcn0 hcnm
  have HN := Lib.hid hN
  clear hN
  obtain ⟨gr, capr, rfl⟩ : ∃ gr capr, u = .slice (some ⟨gr, 0, none⟩) N capr := by
    rcases ho.2 with ⟨_, h⟩ | ⟨g, cap, cur, h, _⟩
    · omega
    · exact ⟨g, cap, h⟩
  have HO := Lib.hid ho
  have hgb : gr < w1.heap.size := (ho.lt gr rfl).2
  have HT1 := Lib.hid (HT0.out.below g1)
  clear ho
  go_wp2
  go_loopw [28] (fun d_ wr => ∃ d : Nat, d ≤ N ∧ d_ = .int .i64 (d : Int) ∧ StepsTo c xs t s i d ∧ Below w1.heap.size w1 wr) (fun d_ _ => N - (intOf d_).toNat)
  case atStart => exact ⟨0, by omega, rfl, fun _ h => absurd h (Nat.not_lt_zero _), Below.refl _ _⟩
  case round =>
    obtain ⟨d, hd, rfl, hst, hb⟩ := hrel
    have ST := Lib.hid hst
    clear hst
    by_cases hlt : d < N
    · obtain ⟨k, hk⟩ : ∃ k, k = i + d := ⟨_, rfl⟩
      have hik : i ≤ k := by omega
      have hkn : k ≤ xs.length := by omega
      have HK := Lib.hid hk
      have hfit := fits_within (c := c) (s := s) K1.out hin d (by rw [← HN.out]; exact hlt)
      rw [← hk] at hfit
      have pl : (part xs i k).length = k - i := part_length hkn
      have fb := freeS_bd c s (part xs i k) WC.out (part_wf i k WF.out) (by rw [pl]; omega)
      have fe : freeS c s (part xs i k) = freeB c (part xs i k) := by unfold freeS; rw [hfit]; rfl
      rw [fe] at fb
      obtain ⟨fb1, fb2⟩ := fb
      have pb0 := priceS_fit (b := false) hfit
      have pb := (priceS_bd c s (part xs i k) false WC.out (part_wf i k WF.out) (by rw [pl]; omega)).2
      have CP := Lib.hid (cost_price hfit)
      rw [pl] at CP
      have SP := Lib.hid (show StepP c xs t s i k = (tv t (s + 1) k = -1 ∨ (z ≠ -1 ∧ z - priceS c s (part xs i k) false ≤ tv t (s + 1) k)) by unfold StepP; rw [HZ.out])
      have ho := ownBelow HO.out hb
      have e0 := (ho.cellAt (d * 3 + 0) (by omega)).trans (fromCs_at c A xs i d 0 (by omega) _ (by have := HN.out; omega))
      have e1 := (ho.cellAt (d * 3 + 1) (by omega)).trans (fromCs_at c A xs i d 1 (by omega) _ (by have := HN.out; omega))
      have e2 := (ho.cellAt (d * 3 + 2) (by omega)).trans (fromCs_at c A xs i d 2 (by omega) _ (by have := HN.out; omega))
      rw [← hk] at e0 e1 e2
      simp only [rowCs, List.getElem?_cons_zero, List.getElem?_cons_succ, Nat.add_zero] at e0 e1 e2
      have kd : k - i ≤ 60 := by omega
      clear ho hk fe pl hfit
      generalize freeB c (part xs i k) = fr at *
      generalize priceS c s (part xs i k) false = pr at *
      have G2 : Below wr.heap.size wr (wr.alloc (.cells #[.int .i64 (i : Int), .slice (subA A i k) (k - i) (k - i), .int .i64 fr] 133)) := by go_grown
      go_wp2
      have X := heap_alloc_new wr (.cells #[.int .i64 (i : Int), .slice (subA A i k) (k - i) (k - i), .int .i64 fr] 133)
      have hWz : wr.heap.size < (wr.alloc (.cells #[.int .i64 (i : Int), .slice (subA A i k) (k - i) (k - i), .int .i64 fr] 133)).heap.size := by simp
      generalize World.alloc _ _ = W at G2 X hWz ⊢
      have x0 := cell_of_row W _ 0 _ _ _ X
      have x1 := cell_of_row W _ 1 _ _ _ X
      have x2 := cell_of_row W _ 2 _ _ _ X
      simp only [List.getElem?_toArray, List.getElem?_cons_zero, List.getElem?_cons_succ] at x0 x1 x2
      have XH := Lib.hid X
      have hb2 := bnext hb G2
      have bW := Lib.hid hb2
      have FR := Lib.hid (show i < i + 1 ∧ -2100000 ≤ fr ∧ fr ≤ 2100000 from ⟨by omega, by omega, by omega⟩)
      obtain ⟨gq, oq, cq, q0, q1, hgq⟩ := HT1.out.num hb2 (s := s + 1) (i := k) (by have := HLT.out; omega) (HF.out.rows (s + 1) (by omega)) (show k < xs.length + 1 by omega)
      have hg1 : g0 < W.heap.size := by have := G0.out.size; have := g1.size; have := hb2.size; omega
      have hg2 : gq < W.heap.size := by have := hb2.size; omega
      generalize tv t (s + 1) k = r at *
      have x0 := belowBy_cell hWz x0
      have x1 := belowBy_cell hWz x1
      have x2 := belowBy_cell hWz x2
      have q0 := belowBy_cell hg1 q0
      have q1 := belowBy_cell hg2 q1
      have CB := Lib.hid (fun W' => behind_any (subA A i k) i k fr W' hik (by omega))
      clear X e0 e1 e2
      refine wp_region_below (by kernel_rfl) (by kernel_rfl) ?_
      repeat (go_big_quiet_step ((go_at_call 113; exact calls_below (CB.out _))))
      refine wpQuiet_nil ?_
      rintro wq ⟨⟨_, hq⟩, rfl⟩
      clear x0 x1 x2 q0 q1
      have bq := Lib.hid (bnext bW.out hq)
      by_cases hr : r = -1
      · have d1 : (r == -1) = true := by rw [hr]; rfl
        have OKS := Lib.hid (show StepP c xs t s i k by rw [SP.out]; exact .inl hr)
        clear hr
        go_wp2
        go_roundw
        case rel => exact ⟨d + 1, by omega, by go_num, ST.out.succ (by rw [← HK.out]; exact OKS.out), bq.out⟩
        case measure => simp [intOf]; omega
      · have d1 : (r == -1) = false := by rw [beq_eq_false_iff_ne]; exact hr
        by_cases hz0 : z = -1
        · have d2 : (z == -1) = true := by rw [hz0]; rfl
          have E := Lib.hid (cellB_no (c := c) (xs := xs) (t := t) (s := s) (i := i) (fun h => by
            have h5 := h d (by rw [← HN.out]; exact hlt)
            rw [← HK.out, SP.out] at h5
            rcases h5 with h5 | h5
            · exact hr h5
            · exact h5.1 hz0))
          clear hr hz0
          go_wp2
          go_ret
          exact ⟨by rw [E.out]; rfl, bnext (bnext G0.out g1) bq.out⟩
        · have d2 : (z == -1) = false := by rw [beq_eq_false_iff_ne]; exact hz0
          have X3 := (hq.block wr.heap.size hWz).trans XH.out
          have x0 := cell_of_row wq _ 0 _ _ _ X3
          have x1 := cell_of_row wq _ 1 _ _ _ X3
          have x2 := cell_of_row wq _ 2 _ _ _ X3
          simp only [List.getElem?_toArray, List.getElem?_cons_zero, List.getElem?_cons_succ] at x0 x1 x2
          have CO := Lib.hid (fun W' => CP.out ▸ of_any 2 (by decide) (subA A i k) i (k - i) fr W' kd FR.out.2.1 FR.out.2.2)
          have hw1 : IntKind.i64.wrap (z - pr) = z - pr := IntWalk.i64_in _ (by omega)
          clear X3
          by_cases hgt : r < z - pr
          · have E := Lib.hid (cellB_no (c := c) (xs := xs) (t := t) (s := s) (i := i) (fun h => by
              have h5 := h d (by rw [← HN.out]; exact hlt)
              rw [← HK.out, SP.out] at h5
              rcases h5 with h5 | h5
              · exact hr h5
              · omega))
            clear hr hz0
            go_wp2_with fail
            refine (CO.out _).mono ?_
            rintro e w9 ⟨rfl, g9⟩
            clear x0 x1 x2
            go_wp2
            go_ret
            exact ⟨by rw [E.out]; rfl, bnext (bnext G0.out g1) (bnext bq.out g9)⟩
          · have OKS := Lib.hid (show StepP c xs t s i k by rw [SP.out]; exact .inr ⟨hz0, by omega⟩)
            have hgt' : ¬ (z - pr > r) := by omega
            clear hr hz0
            go_wp2_with fail
            refine (CO.out _).mono ?_
            rintro e w9 ⟨rfl, g9⟩
            clear x0 x1 x2
            go_wp2
            go_roundw
            case rel => exact ⟨d + 1, by omega, by go_num, ST.out.succ (by rw [← HK.out]; exact OKS.out), bnext bq.out g9⟩
            case measure => simp [intOf]; omega
    · obtain rfl : d = N := by omega
      have E := Lib.hid (cellB_yes (c := c) (xs := xs) (t := t) (s := s) (i := i) (by rw [← HN.out]; exact ST.out))
      go_wp2
      go_ret
      exact ⟨by rw [E.out]; rfl, bnext (bnext G0.out g1) hb⟩

end Go.Proofs.Ytonclaakaaidlaa
