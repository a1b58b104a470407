/- Layouts with the least sum, by the model; LeastCost and FewestShelves, both sides: contracts. Condition: numbers within their kinds, slices no longer than can be. -/
import Derived.Test.YtpamflkefgpdpaaLtC
namespace Go.Proofs.Ytpamflkefgpdpaa
set_option linter.unusedSimpArgs false
set_option linter.unusedVariables false
set_option maxRecDepth 100000
open Go.RowKit

set_option maxHeartbeats 16000000 in
theorem l02Best_any (u : Bool) (c : Cs) (hv : Value) (A : Option Addr) (m : Nat) (xs : List Bk) (wc : c.Wf) (wf : ∀ b ∈ xs, b.Wf) (gc : Nat) (w : World) (hc : CaseAt w gc c hv) (mc : c.hs.length ≤ maxLen) (sl : SliceOf w (.slice A xs.length m) xs) (hm : xs.length ≤ m) (ml : xs.length ≤ maxLen) :
    Calls Try.prog 55 #[.pointer (some ⟨gc, 0, none⟩), .slice A xs.length m, .bool u] w fun e w' => ∃ uu, e = .returned (.tuple #[uu, .int .i64 (llV c xs u), .int .i64 (llC c xs u)]) ∧ w'.ownsRow w.heap.size 2 1 uu (llL c xs u).length ((llL c xs u).map (Value.int .i64)) ∧ Below w.heap.size w w' := by
  have HC := Lib.hid hc
  have SL := Lib.hid sl
  have WC := Lib.hid wc
  have WF := Lib.hid wf
  have MC := Lib.hid mc
  have ML := Lib.hid ml
  have zc := hc.lt
  obtain ⟨i0, hi0, hz0, hz1, hz2⟩ := info_parts infoInt64L
  obtain ⟨H, qh, rfl, -⟩ := hc.hs
  clear wf sl wc mc ml hc
  rcases ll_cases c xs u with ⟨h1, h2, h3, h4, h5⟩ | ⟨h1, h2, k1, k2, hv0, h3, h4, h5⟩ | ⟨h1, h2, k1, k2, hv0, h3, h4, h5⟩
  · have E2 := Lib.hid h2
    have E3 := Lib.hid h3
    have E4 := Lib.hid h4
    have E5 := Lib.hid h5
    clear h1 h2 h3 h4 h5
    go_enter Try.func55, Try.ntmps55
    go_wp2_with fail
    refine (l02Asked_any c _ _ xs WC.out WF.out _ _ HC.out MC.out SL.out ML.out).mono ?_
    rintro e w1 ⟨rfl, g1⟩
    rw [E2.out]
    have hle := g1.size
    have OW := Lib.hid (show (w1.alloc (.cells #[] 2)).ownsRow w.heap.size 2 1 (.slice (some ⟨w1.heap.size, 0, none⟩) 0 0) 0 [] from ⟨rfl, .inr ⟨w1.heap.size, 0, #[], rfl, hle, heap_alloc_new w1 _, Nat.le_refl _, Nat.zero_le _, rfl, rfl⟩⟩)
    go_wp2
    refine bodyPost_ret (v := .tuple #[.slice (some ⟨w1.heap.size, 0, none⟩) 0 0, .int .i64 0, .int .i64 1]) (by simp [results, Try.results55, go_sem]) rfl ?_
    exact ⟨_, by rw [E4.out, E3.out], by rw [E5.out]; exact OW.out, g1.alloc hle _⟩
  · have E2 := Lib.hid h2
    have E3 := Lib.hid h3
    have E4 := Lib.hid h4
    have E5 := Lib.hid h5
    have K1 := Lib.hid k1
    have K2 := Lib.hid k2
    have HV0 := Lib.hid hv0
    have h60 := okB_len k2
    obtain ⟨cl1, cl2⟩ := caseB_lens k1
    clear h1 h2 h3 h4 h5 k1 k2 hv0
    go_enter Try.func55, Try.ntmps55
    go_wp2_with fail
    refine (l02Asked_any c _ _ xs WC.out WF.out _ _ HC.out MC.out SL.out ML.out).mono ?_
    rintro e w1 ⟨rfl, g1⟩
    rw [E2.out]
    go_wp2_with fail
    refine (l02Table_any u c _ A m xs WC.out WF.out _ _ (HC.out.below g1) K1.out (SL.out.below g1) hm K2.out).mono ?_
    rintro e w2 ⟨g, rfl, hg, ht, g2⟩
    obtain ⟨b, t0, -, -, -, -, tn⟩ := ht.at_ (s := 0) (by omega) rfl
    have y0 := (tn 0 (by omega)).1
    rw [numR_getD (by omega), HV0.out] at y0
    have hle := (bnext g1 g2).size
    have OW := Lib.hid (show (w2.alloc (.cells #[] 2)).ownsRow w.heap.size 2 1 (.slice (some ⟨w2.heap.size, 0, none⟩) 0 0) 0 [] from ⟨rfl, .inr ⟨w2.heap.size, 0, #[], rfl, hle, heap_alloc_new w2 _, Nat.le_refl _, Nat.zero_le _, rfl, rfl⟩⟩)
    clear ht tn
    go_wp2
    refine bodyPost_ret (v := .tuple #[.slice (some ⟨w2.heap.size, 0, none⟩) 0 0, .int .i64 0, .int .i64 6]) (by simp [results, Try.results55, go_sem]) rfl ?_
    exact ⟨_, by rw [E4.out, E3.out], by rw [E5.out]; exact OW.out, (bnext g1 g2).alloc hle _⟩
  · have E2 := Lib.hid h2
    have E3 := Lib.hid h3
    have E4 := Lib.hid h4
    have E5 := Lib.hid h5
    have K1 := Lib.hid k1
    have K2 := Lib.hid k2
    have HV0 := Lib.hid hv0
    have h60 := okB_len k2
    obtain ⟨cl1, cl2⟩ := caseB_lens k1
    have NB := Lib.hid (fun s k (h : k ≤ xs.length) => numV_bd (c := c) (xs := xs) (u := u) (s := s) (i := k) WC.out WF.out k1 h60 (by omega) h)
    have FITS := Lib.hid (fun s i (hi : i ≤ xs.length) => price_fit_bd (u := u) (s := s) (i := i) WC.out WF.out k1 h60 hi)
    clear h1 h2 h3 h4 h5 k1 k2 hv0
    go_enter Try.func55, Try.ntmps55
    go_wp2_with fail
    refine (l02Asked_any c _ _ xs WC.out WF.out _ _ HC.out MC.out SL.out ML.out).mono ?_
    rintro e w1 ⟨rfl, g1⟩
    rw [E2.out]
    go_wp2_with fail
    refine (l02Table_any u c _ A m xs WC.out WF.out _ _ (HC.out.below g1) K1.out (SL.out.below g1) hm K2.out).mono ?_
    rintro e w2 ⟨g, rfl, hg, ht, g2⟩
    obtain ⟨b, t0, tlo, -, tb, -, tn⟩ := ht.at_ (s := 0) (by omega) rfl
    have y0 := (tn 0 (by omega)).1
    rw [numR_getD (by omega)] at y0
    have T2 := Lib.hid ht
    have lg := ht.lt
    have G2 := Lib.hid (bnext g1 g2)
    have TT0 := Lib.hid t0
    obtain ⟨v, hvv⟩ : ∃ v, numV c xs u 0 0 = v := ⟨_, rfl⟩
    have HVV := Lib.hid hvv
    rw [hvv] at y0
    have Y0 := Lib.hid y0
    have vb := (NB.out 0 0 (Nat.zero_le _)).1
    have vne : v ≠ -1 := by rw [← hvv]; exact HV0.out
    rw [hvv] at vb
    have d1 : ¬ (v < 0) := by omega
    have AT0 := Lib.hid (show AtP c xs u 0 from ⟨Nat.zero_le _, HV0.out⟩)
    have hle := G2.out.size
    have OW0 := Lib.hid (show (w2.alloc (.cells #[] 2)).ownsRow w2.heap.size 2 1 (.slice (some ⟨w2.heap.size, 0, none⟩) 0 0) (endTo c xs u 0).length ((endTo c xs u 0).map (Value.int .i64)) from ⟨rfl, .inr ⟨w2.heap.size, 0, #[], rfl, Nat.le_refl _, heap_alloc_new w2 _, Nat.le_refl _, Nat.zero_le _, rfl, rfl⟩⟩)
    have HCB := Lib.hid (HC.out.below G2.out)
    clear hvv ht tn g1 g2 vne vb
    go_wp2
    clear t0 y0
    go_loopw [11, 12, 13] (fun v_ a_ s_ wr => ∃ s at_ : Nat, at_ = atF c xs u s ∧ s ≤ c.hs.length ∧ AtP c xs u s ∧ a_ = .int .i64 (at_ : Int) ∧ s_ = .int .i64 (s : Int) ∧ wr.ownsRow w2.heap.size 2 1 v_ (endTo c xs u s).length ((endTo c xs u s).map (Value.int .i64)) ∧ Below w2.heap.size w2 wr) (fun _ _ s_ _ => c.hs.length - (intOf s_).toNat)
    case atStart => exact ⟨0, 0, rfl, Nat.zero_le _, AT0.out, rfl, rfl, OW0.out, (Below.refl _ _).alloc (Nat.le_refl _) _⟩
    case round =>
      obtain ⟨s, i, hi, hs, hat, rfl, rfl, hown, hb⟩ := hrel
      have OW := Lib.hid hown
      have HI := Lib.hid hi
      have AT := Lib.hid hat
      have hin : i ≤ xs.length := by rw [hi]; exact hat.le
      have hel := endTo_length c xs u s
      have HB2 := Lib.hid hb
      have c2 := (HCB.out.below hb).c2
      clear hown hi hat hb
      by_cases hlt : s < c.hs.length
      · obtain ⟨an, e, e1, e2, e3, e4⟩ := AT.out.step hlt
        rw [← HI.out] at e1 e2 e3 e4
        have AN := Lib.hid an
        have E2' := Lib.hid e2
        have E3' := Lib.hid e3
        have E4' := Lib.hid e4
        have hc3 := (cntR_le (c := c) (s := s) hin).2
        obtain ⟨vs, hvs⟩ : ∃ vs, numV c xs u s i = vs := ⟨_, rfl⟩
        rw [hvs] at E3' E4'
        have HVS := Lib.hid hvs
        clear an e2 e3 e4 hvs
        obtain ⟨wo, rfl⟩ : ∃ wo : World, wo = wr := ⟨_, rfl⟩
        have hs1 : s + 1 < c.hs.length + 1 := by omega
        have hs0 : s < c.hs.length + 1 := by omega
        go_wp2
        clear c2
        go_loopw [12, 14] (fun a_ k_ wz => ∃ k : Nat, i + e ≤ k ∧ k ≤ xs.length ∧ a_ = .int .i64 (i : Int) ∧ k_ = .int .i64 (k : Int) ∧ Below wo.heap.size wo wz) (fun _ k_ _ => (intOf k_).toNat)
        case atStart => exact ⟨xs.length, by omega, Nat.le_refl _, rfl, rfl, Below.refl _ _⟩
        case round =>
          obtain ⟨k, hek, hkn, rfl, rfl, hbz⟩ := hrel
          have HBZ := Lib.hid (bnext HB2.out hbz)
          have hge : (i : Int) ≤ (k : Int) := by omega
          have hik : i ≤ k := by omega
          have hsl := run_part2 A xs.length m i k hik (by omega)
          have BW := Lib.hid (bnext G2.out HBZ.out)
          go_wp2_with fail
          refine (l02Price_any c _ _ (part xs i k) s u WC.out (part_wf i k WF.out) gc _ (HC.out.below BW.out) MC.out hlt ((SL.out.below BW.out).part hik hkn (show k ≤ m by omega)) (by rw [part_length hkn]; omega)).mono ?_
          rintro e' w3 ⟨rfl, g3⟩
          clear hsl
          have B3 := Lib.hid (bnext HBZ.out g3)
          have OB := Lib.hid (ownBelow OW.out (bnext hbz g3))
          have TT3 := Lib.hid (T2.out.below B3.out)
          obtain ⟨b1, r0, -, -, -, -, rn⟩ := TT3.out.at_ (s := s + 1) hs1 rfl
          have q0 := (rn k (by omega)).1
          rw [numR_getD (by omega)] at q0
          obtain ⟨b2, p0, -, -, -, -, pn⟩ := TT3.out.at_ (s := s) hs0 rfl
          have q1 := (pn i (by omega)).1
          rw [numR_getD (by omega), HVS.out] at q1
          obtain ⟨nb1, nb2⟩ := NB.out (s + 1) k hkn
          by_cases hbey : i + cntR c s xs i ≤ k
          · have hp := priceS_not (b := u) (fits_beyond K1.out K2.out hbey hkn)
            have hpn : ¬ (0 ≤ priceS c s (part xs i k) u) := by omega
            have hk1 : i + e ≤ k - 1 := by omega
            have hk2 : (k : Int) - 1 = ((k - 1 : Nat) : Int) := by omega
            have B4 := Lib.hid (bnext hbz g3)
            clear rn pn g3
            generalize priceS c s (part xs i k) u = pr at *
            generalize numV c xs u (s + 1) k = r at *
            obtain ⟨k', hk'⟩ : ∃ k', k - 1 = k' := ⟨_, rfl⟩
            rw [hk'] at hk1 hk2
            have hkk : k' < k ∧ k' ≤ xs.length := by omega
            clear hk'
            go_wp2
            go_roundw
            case rel => exact ⟨k', hk1, hkk.2, rfl, by go_num, B4.out⟩
            case measure => simp [intOf]; omega
          · obtain ⟨d, hd⟩ : ∃ d, k = i + d := ⟨k - i, by omega⟩
            have pb := FITS.out s i hin d (by omega)
            rw [← hd] at pb
            obtain ⟨pb1, pb2⟩ := pb
            have hw1 : IntKind.i64.wrap (priceS c s (part xs i k) u + numV c xs u (s + 1) k) = priceS c s (part xs i k) u + numV c xs u (s + 1) k := IntWalk.i64_in _ (by omega)
            by_cases hde : d = e
            · subst hde
              have hv1 : numV c xs u (s + 1) k + priceS c s (part xs i k) u = vs := by rw [hd]; exact E3'.out
              have KK := Lib.hid (show k = atF c xs u (s + 1) by rw [hd]; exact E2'.out.symm)
              have hr1 : numV c xs u (s + 1) k ≠ -1 := by rw [KK.out]; exact AN.out.ok
              have hr0 : 0 ≤ numV c xs u (s + 1) k := by omega
              have d2 : (priceS c s (part xs i k) u + numV c xs u (s + 1) k == vs) = true := by rw [beq_iff_eq]; omega
              have B5 := Lib.hid (bnext (Below.refl w2.heap.size w2) B3.out)
              have hsz := B3.out.size
              have HD := Lib.hid hd
              clear rn pn g3 hv1 hr1 hd
              generalize priceS c s (part xs i k) u = pr at *
              generalize numV c xs u (s + 1) k = r at *
              go_wp2_with (at_builtin; refine wpList_append_own _ rfl (.tmp 88) (.tmp 90) _ rfl w2.heap.size 2 i0 (.int .i64 0) 1 8 Try.underlying22 hi0 hz0 hz1 hz2 rfl (by decide) _ _ _ rfl (OB.out.alloc _) ⟨w3.heap.size, 0, none⟩ 1 1 [.int .i64 (k : Int)] rfl rfl ?c1a ?c2a ?c3a ?c4a ?c5a ?_)
              case c1a => exact cell_one_new _ _ _
              case c2a => (intro u hu; simp at hu; subst hu; rfl)
              case c3a => (unfold maxLen; omega)
              case c4a => omega
              case c5a => (simp; omega)
              intro v' w5 hown' hgrow' _
              have OW' := Lib.hid hown'
              have g5 : Below w2.heap.size w2 w5 := (B3.out.alloc hsz _).grown hgrow' (by simp; omega) (fun k hk => (OB.out.lt k hk).1)
              clear hown' hgrow'
              go_wp2
              go_roundw
              case rel => exact ⟨s + 1, k, KK.out, by omega, AN.out, rfl, by go_num, by rw [endTo, ← KK.out]; simpa [endTo_length] using OW'.out, g5⟩
              case measure => simp [intOf]; omega
            · have hne := E4'.out d (by omega) (by omega)
              rw [← hd] at hne
              have hk1 : i + e ≤ k - 1 := by omega
              have hk2 : (k : Int) - 1 = ((k - 1 : Nat) : Int) := by omega
              have B4 := Lib.hid (bnext hbz g3)
              clear rn pn g3 hd
              generalize priceS c s (part xs i k) u = pr at *
              generalize numV c xs u (s + 1) k = r at *
              obtain ⟨k', hk'⟩ : ∃ k', k - 1 = k' := ⟨_, rfl⟩
              rw [hk'] at hk1 hk2
              have hkk : k' < k ∧ k' ≤ xs.length := by omega
              clear hk'
              by_cases hr1 : r = -1
              · have hr0 : ¬ (0 ≤ r) := by omega
                clear hr1 hne
                go_wp2
                go_roundw
                case rel => exact ⟨k', hk1, hkk.2, rfl, by go_num, B4.out⟩
                case measure => simp [intOf]; omega
              · have hr0 : 0 ≤ r := by omega
                have d2 : (pr + r == vs) = false := by rw [beq_eq_false_iff_ne]; exact fun h => hne ⟨hr1, by omega⟩
                clear hr1 hne
                go_wp2
                go_roundw
                case rel => exact ⟨k', hk1, hkk.2, rfl, by go_num, B4.out⟩
                case measure => simp [intOf]; omega
      · obtain rfl : s = c.hs.length := by omega
        have t0 := (HB2.out.cell (p := ⟨g, 0, none⟩) lg).trans TT0.out
        have y0 := (HB2.out.cell (p := ⟨b, 0, none⟩) tb).trans Y0.out
        obtain ⟨Ao, co, rfl⟩ := vlen_own1 OW.out
        have OF := Lib.hid (ownsMono OW.out hle)
        have BF := Lib.hid (bnext G2.out HB2.out)
        clear hlt
        go_wp2
        go_quiet (fail)
        go_wp2
        refine bodyPost_ret (v := .tuple #[.slice Ao (endTo c xs u c.hs.length).length co, .int .i64 v, .int .i64 0]) (by simp [results, Try.results55, go_sem]) rfl ?_
        exact ⟨_, by rw [E4.out, E3.out, HVV.out], by rw [E5.out]; exact OF.out, by repeat (first | exact BF.out | refine below_drewN ?_ _)⟩
end Go.Proofs.Ytpamflkefgpdpaa
