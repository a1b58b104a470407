/- Layouts with the least sum, by the program: contracts. Condition: numbers within their kinds, slices no longer than can be. -/
import Derived.Test.YtpamflkefgpdpaaLtB
import Derived.BigRegion
namespace Go.Proofs.Ytpamflkefgpdpaa
set_option linter.unusedSimpArgs false
set_option linter.unusedVariables false
set_option maxRecDepth 100000
open Go.RowKit

theorem okB_get3 {xs : List Bk} (h : okB xs = true) {b : Bk} (hb : b ∈ xs) : bookB b = true := by
  unfold okB at h
  simp only [Bool.and_eq_true, List.all_eq_true, decide_eq_true_eq] at h
  exact h.1 b hb
theorem bookB_ww {b : Bk} (h : bookB b = true) : 0 ≤ b.wi ∧ 0 ≤ b.we := by
  unfold bookB inB at h
  simp only [Bool.and_eq_true, decide_eq_true_eq] at h
  omega
theorem totW_take (ps : List Bk) (j : Nat) : ∀ k, k ≤ j → totW (ps.take j) k = totW ps k
  | 0, _ => rfl
  | k + 1, h => by
    rw [totW, totW, totW_take ps j k (by omega)]
    congr 2
    rw [List.getD_eq_getElem?_getD, List.getD_eq_getElem?_getD, List.getElem?_take, if_pos (by omega)]
theorem totE_take (ps : List Bk) (j : Nat) : ∀ k, k ≤ j → totE (ps.take j) k = totE ps k
  | 0, _ => rfl
  | k + 1, h => by
    rw [totE, totE, totE_take ps j k (by omega)]
    congr 2
    rw [List.getD_eq_getElem?_getD, List.getD_eq_getElem?_getD, List.getElem?_take, if_pos (by omega)]
theorem tot_mono {ps : List Bk} (ok : ∀ b ∈ ps, bookB b = true) (k : Nat) : ∀ d, k + d ≤ ps.length → totW ps k ≤ totW ps (k + d) ∧ totE ps k ≤ totE ps (k + d)
  | 0, _ => ⟨Int.le_refl _, Int.le_refl _⟩
  | d + 1, h => by
    have ih := tot_mono ok k d (by omega)
    have hb := bookB_ww (ok ps[k + d] (List.getElem_mem (by omega)))
    rw [show k + (d + 1) = (k + d) + 1 by omega, totW, totE, getD_in_books (by omega)]
    omega
theorem fits_take {c : Cs} {s : Nat} {ps : List Bk} (ok : ∀ b ∈ ps, bookB b = true) (h : fitsB c s ps = true) (j : Nat) : fitsB c s (ps.take j) = true := by
  unfold fitsB at h ⊢
  simp only [Bool.and_eq_true, decide_eq_true_eq, List.all_eq_true] at h ⊢
  obtain ⟨h1, h2, h3⟩ := h
  have hl : (ps.take j).length ≤ j := by rw [List.length_take]; omega
  have hl2 : (ps.take j).length ≤ ps.length := by rw [List.length_take]; omega
  obtain ⟨m1, m2⟩ := tot_mono ok (ps.take j).length (ps.length - (ps.take j).length) (by omega)
  rw [show (ps.take j).length + (ps.length - (ps.take j).length) = ps.length by omega] at m1 m2
  refine ⟨?_, fun b hb => h2 b (List.mem_of_mem_take hb), ?_⟩
  · rw [totW_take ps j _ hl]; omega
  · rw [totE_take ps j _ hl]; omega
/-- Beyond the rows that fit none does. -/
theorem fits_beyond {c : Cs} {s : Nat} {xs : List Bk} {i k : Nat} (hc : caseB c = true) (ok : okB xs = true) (hk : i + cntR c s xs i ≤ k) (hkn : k ≤ xs.length) : fitsB c s (part xs i k) = false := by
  have hi : i ≤ xs.length := by omega
  cases hf : fitsB c s (part xs i k) with
  | false => rfl
  | true =>
    exfalso
    have okp : ∀ b ∈ part xs i k, bookB b = true := fun b hb => okB_get3 ok (List.mem_of_mem_drop (List.mem_of_mem_take hb))
    have hpre : ∀ k', k' ≤ k → fitsB c s (part xs i k') = true := by
      intro k' h'
      have := fits_take okp hf (k' - i)
      have e : (part xs i k).take (k' - i) = part xs i k' := by
        unfold part
        rw [List.take_take]
        congr 1
        omega
      rwa [e] at this
    -- the search would have gone on
    have key : ∀ f k', i ≤ k' → k' ≤ k → xs.length - k' = f → k ≤ reachF c s xs i f k' := by
      intro f
      induction f with
      | zero => intro k' h1 h2 h3; rw [reachF]; omega
      | succ f ih =>
        intro k' h1 h2 h3
        rw [reachF]
        by_cases e : k' = k
        · subst e
          split
          · exact Nat.le_trans (by omega) (reachF_le c s xs i f (k' + 1)).1
          · exact Nat.le_refl _
        · rw [if_pos (hpre (k' + 1) (by omega))]
          exact ih (k' + 1) (by omega) (by omega) (by omega)
    have hr := key (xs.length - i) i (Nat.le_refl _) (by omega) rfl
    unfold cntR reach at hk
    omega

set_option maxHeartbeats 16000000 in
theorem leastLayout_any (u : Bool) (c : Cs) (hv : Value) (A : Option Addr) (m : Nat) (xs : List Bk) (wc : c.Wf) (wf : ∀ b ∈ xs, b.Wf) (w : World) (sc : IntsOf .i16 w hv c.hs) (mc : c.hs.length ≤ maxLen) (sl : SliceOf w (.slice A xs.length m) xs) (hm : xs.length ≤ m) (ml : xs.length ≤ maxLen) :
    Calls Try.prog 56 #[.agg #[.int .i16 c.wi, .int .i32 c.lo, hv], .slice A xs.length m, .int .i64 ((uM u : Nat) : Int)] w fun e w' => ∃ uu, e = .returned (.tuple #[uu, .int .i64 (llV c xs u), .int .i64 (llC c xs u)]) ∧ w'.ownsRow w.heap.size 2 1 uu (llL c xs u).length ((llL c xs u).map (Value.int .i64)) ∧ Below w.heap.size w w' := by
  have HB := Lib.hid (CaseAt.new (t := 50) sc)
  have G0 := Lib.hid (show Below w.heap.size w (w.alloc (.cells #[.int .i16 c.wi, .int .i32 c.lo, hv] 50)) by go_grown)
  have HC := Lib.hid (sc.below G0.out)
  have SL := Lib.hid (sl.below G0.out)
  have WC := Lib.hid wc
  have WF := Lib.hid wf
  have MC := Lib.hid mc
  have ML := Lib.hid ml
  have ZP := Lib.hid (show w.heap.size < (w.alloc (.cells #[.int .i16 c.wi, .int .i32 c.lo, hv] 50)).heap.size by simp)
  obtain ⟨i0, hi0, hz0, hz1, hz2⟩ := info_parts infoInt64L
  obtain ⟨H, qh, rfl, -⟩ := sc
  clear wf sl wc mc ml
  rcases ll_cases c xs u with ⟨h1, h2, h3, h4, h5⟩ | ⟨h1, h2, k1, k2, hv0, h3, h4, h5⟩ | ⟨h1, h2, k1, k2, hv0, h3, h4, h5⟩
  · have E3 := Lib.hid h3
    have E4 := Lib.hid h4
    have E5 := Lib.hid h5
    have HA := Lib.hid h1
    clear h1 h2 h3 h4 h5
    go_enter Try.func56, Try.ntmps56
    go_wp2_with fail
    generalize World.alloc _ _ = W0 at HB HC G0 SL ZP ⊢
    refine (validBoth_any c _ _ xs _ HC.out MC.out SL.out ML.out).mono ?_
    rintro e w1 ⟨rfl, g1⟩
    rw [HA.out]
    go_wp2
    refine bodyPost_ret (v := .tuple #[.slice none 0 0, .int .i64 0, .int .i64 1]) (by simp [results, Try.results56, go_sem]) rfl ?_
    exact ⟨_, by rw [E4.out, E3.out], by rw [E5.out]; exact ⟨rfl, .inl ⟨rfl, rfl⟩⟩, bnext G0.out g1⟩
  · have E3 := Lib.hid h3
    have E4 := Lib.hid h4
    have E5 := Lib.hid h5
    have HA := Lib.hid h1
    have K1 := Lib.hid k1
    have K2 := Lib.hid k2
    have HV0 := Lib.hid hv0
    have h60 := okB_len k2
    obtain ⟨cl1, cl2⟩ := caseB_lens k1
    clear h1 h2 h3 h4 h5 k1 k2 hv0
    go_enter Try.func56, Try.ntmps56
    go_wp2_with fail
    generalize World.alloc _ _ = W0 at HB HC G0 SL ZP ⊢
    refine (validBoth_any c _ _ xs _ HC.out MC.out SL.out ML.out).mono ?_
    rintro e w1 ⟨rfl, g1⟩
    rw [HA.out]
    obtain ⟨c0, c1, c2, cz, -⟩ := HB.out.below g1
    go_wp2_with fail
    refine (leastTable_any u c _ A m xs WC.out WF.out _ (HC.out.below g1) K1.out (SL.out.below g1) hm K2.out).mono ?_
    rintro e w2 ⟨g, rfl, hg, ht, g2⟩
    obtain ⟨b, t0, -, -, -, -, tn⟩ := ht.at_ (s := 0) (by omega) rfl
    have y0 := (tn 0 (by omega)).1
    rw [numR_getD (by omega), HV0.out] at y0
    clear c0 c1 c2 ht tn
    go_wp2
    refine bodyPost_ret (v := .tuple #[.slice none 0 0, .int .i64 0, .int .i64 6]) (by simp [results, Try.results56, go_sem]) rfl ?_
    exact ⟨_, by rw [E4.out, E3.out], by rw [E5.out]; exact ⟨rfl, .inl ⟨rfl, rfl⟩⟩, bnext (bnext G0.out g1) g2⟩
  · have E3 := Lib.hid h3
    have E4 := Lib.hid h4
    have E5 := Lib.hid h5
    have HA := Lib.hid h1
    have K1 := Lib.hid k1
    have K2 := Lib.hid k2
    have HV0 := Lib.hid hv0
    have h60 := okB_len k2
    obtain ⟨cl1, cl2⟩ := caseB_lens k1
    clear h1 h2 h3 h4 h5 k1 k2 hv0
    go_enter Try.func56, Try.ntmps56
    go_wp2_with fail
    generalize World.alloc _ _ = W0 at HB HC G0 SL ZP ⊢
    refine (validBoth_any c _ _ xs _ HC.out MC.out SL.out ML.out).mono ?_
    rintro e w1 ⟨rfl, g1⟩
    rw [HA.out]
    obtain ⟨c0, c1, c2, cz, -⟩ := HB.out.below g1
    go_wp2_with fail
    refine (leastTable_any u c _ A m xs WC.out WF.out _ (HC.out.below g1) K1.out (SL.out.below g1) hm K2.out).mono ?_
    rintro e w2 ⟨g, rfl, hg, ht, g2⟩
    obtain ⟨b, t0, tlo, -, tb, -, tn⟩ := ht.at_ (s := 0) (by omega) rfl
    have y0 := (tn 0 (by omega)).1
    rw [numR_getD (by omega)] at y0
    have T2 := Lib.hid ht
    have lg := ht.lt
    have G2 := Lib.hid (bnext (bnext G0.out g1) g2)
    have GG := Lib.hid (bnext g1 g2)
    have TT0 := Lib.hid t0
    have Y0 := Lib.hid y0
    obtain ⟨v, hvv⟩ : ∃ v, numV c xs u 0 0 = v := ⟨_, rfl⟩
    have HVV := Lib.hid hvv
    rw [hvv] at y0 Y0
    have d1 : (v == -1) = false := by rw [beq_eq_false_iff_ne, ← hvv]; exact HV0.out
    have AT0 := Lib.hid (show AtP c xs u 0 from ⟨Nat.zero_le _, HV0.out⟩)
    clear hvv c0 c1 c2 ht tn g1 g2
    have c2 := (HB.out.below GG.out).c2
    go_wp2
    clear c2 t0 y0
    go_loopw [10, 11, 30] (fun v_ a_ s_ wr => ∃ s at_ : Nat, at_ = atF c xs u s ∧ s ≤ c.hs.length ∧ AtP c xs u s ∧ a_ = .int .i64 (at_ : Int) ∧ s_ = .int .i64 (s : Int) ∧ wr.ownsRow w2.heap.size 2 1 v_ (endTo c xs u s).length ((endTo c xs u s).map (Value.int .i64)) ∧ Below w2.heap.size w2 wr) (fun _ _ s_ _ => c.hs.length - (intOf s_).toNat)
    case atStart => exact ⟨0, 0, rfl, Nat.zero_le _, AT0.out, rfl, rfl, ⟨rfl, .inl ⟨rfl, rfl⟩⟩, Below.refl _ _⟩
    case round =>
      obtain ⟨s, i, hi, hs, hat, rfl, rfl, hown, hb⟩ := hrel
      have OW := Lib.hid hown
      have HI := Lib.hid hi
      have AT := Lib.hid hat
      have hin : i ≤ xs.length := by rw [hi]; exact hat.le
      have hel := endTo_length c xs u s
      have HB2 := Lib.hid hb
      clear hown hi hat
      by_cases hlt : s < c.hs.length
      · have G3 := Lib.hid (bnext GG.out hb)
        obtain ⟨c0, c1, c2, cz, -⟩ := HB.out.below G3.out
        go_wp2_with fail
        refine (bestRow_any u c _ A m xs s i WC.out WF.out _ (HC.out.below G3.out) K1.out (SL.out.below G3.out) hm K2.out g _ (T2.out.below HB2.out) hlt (by omega)).mono ?_
        rintro e w3 ⟨X, a, k, f, rfl, hak, hk60, hkk, g3⟩
        clear c0 c1 c2
        have KK := Lib.hid (show k = atF c xs u (s + 1) by rw [hkk, atF, ← HI.out])
        have AN := Lib.hid ((AT.out.step hlt).1)
        clear hkk
        go_wp2_with fail
        refine (behind_any X a k f _ hak hk60).mono ?_
        rintro e w4 ⟨rfl, g4⟩
        have OW3 := Lib.hid (ownBelow OW.out (bnext g3 g4))
        have B3 := Lib.hid (bnext HB2.out (bnext g3 g4))
        have hsz := B3.out.size
        clear g3 g4
        go_wp2_with (at_builtin; refine wpList_append_own _ rfl (.tmp 41) (.tmp 43) _ rfl w2.heap.size 2 i0 (.int .i64 0) 1 8 Try.underlying22 hi0 hz0 hz1 hz2 rfl (by decide) _ _ _ rfl (OW3.out.alloc _) ⟨w4.heap.size, 0, none⟩ 1 1 [.int .i64 (k : Int)] rfl rfl ?c1a ?c2a ?c3a ?c4a ?c5a ?_)
        case c1a => exact cell_one_new _ _ _
        case c2a => (intro u hu; simp at hu; subst hu; rfl)
        case c3a => (unfold maxLen; omega)
        case c4a => omega
        case c5a => (simp; omega)
        intro v' w5 hown' hgrow' _
        have OW' := Lib.hid hown'
        have g5 : Below w2.heap.size w2 w5 := (B3.out.alloc hsz _).grown hgrow' (by simp; omega) (fun k hk => (OW3.out.lt k hk).1)
        clear hown' hgrow'
        go_wp2
        go_roundw
        case rel => exact ⟨s + 1, k, KK.out, by omega, AN.out, rfl, by go_num, by rw [endTo, ← KK.out]; simpa [endTo_length] using OW'.out, g5⟩
        case measure => simp [intOf]; omega
      · obtain rfl : s = c.hs.length := by omega
        have t0 := (HB2.out.cell (p := ⟨g, 0, none⟩) lg).trans TT0.out
        have y0 := (HB2.out.cell (p := ⟨b, 0, none⟩) tb).trans Y0.out
        obtain ⟨Ao, co, rfl⟩ := vlen_own1 OW.out
        have OF := Lib.hid (ownsMono OW.out (show w.heap.size ≤ w2.heap.size from G2.out.size))
        have BF := Lib.hid (bnext G2.out hb)
        clear hb hlt
        go_wp2
        go_quiet (fail)
        go_wp2
        refine bodyPost_ret (v := .tuple #[.slice Ao (endTo c xs u c.hs.length).length co, .int .i64 v, .int .i64 0]) (by simp [results, Try.results56, go_sem]) rfl ?_
        exact ⟨_, by rw [E4.out, E3.out, HVV.out], by rw [E5.out]; exact OF.out, by repeat (first | exact BF.out | refine below_drewN ?_ _)⟩
end Go.Proofs.Ytpamflkefgpdpaa
