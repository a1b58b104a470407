/- The first bad shelf, by the model: contracts. Condition: a valid case and list; numbers no longer than a slice can be. -/
import Derived.Test.YtdkdchhkfachmaaFitsOn
import Derived.Test.YtdkdchhkfachmaaReach
namespace Go.Proofs.Ytdkdchhkfachmaa
set_option linter.unusedSimpArgs false
set_option linter.unusedVariables false
set_option maxRecDepth 100000
open Go.RowKit

def badV (c : Cs) (xs : List Bk) (es : List Int) : Int := if goodN c xs es < c.hs.length then (goodN c xs es : Int) else if layB c xs es then -1 else (c.hs.length : Int)

theorem getD_ints {es : List Int} {j : Nat} (h : j < es.length) : es.getD j 0 = es[j] := by simp [List.getD, List.getElem?_eq_getElem h]
theorem okAt_short {c : Cs} {xs : List Bk} {es : List Int} {j : Nat} (h : es.length ≤ j) : okAt c xs es j = false := by
  unfold okAt
  rw [decide_eq_false (by omega)]
  rfl
theorem okAt_less {c : Cs} {xs : List Bk} {es : List Int} {j : Nat} (hj : j < es.length) (h : es[j] < fromE es j) : okAt c xs es j = false := by
  unfold okAt
  rw [getD_ints hj, decide_eq_false (show ¬ fromE es j ≤ es[j] by omega)]
  simp
theorem okAt_more {c : Cs} {xs : List Bk} {es : List Int} {j : Nat} (hj : j < es.length) (h : (xs.length : Int) < es[j]) : okAt c xs es j = false := by
  unfold okAt
  rw [getD_ints hj, decide_eq_false (show ¬ es[j] ≤ xs.length by omega)]
  simp
theorem okAt_eq {c : Cs} {xs : List Bk} {es : List Int} {j i k : Nat} (hj : j < es.length) (hi : fromE es j = i) (hk : es[j] = k) (hik : i ≤ k) (hn : k ≤ xs.length) : okAt c xs es j = fitsB c j (part xs i k) := by
  unfold okAt
  rw [getD_ints hj, hi, hk, decide_eq_true hj, decide_eq_true (by omega), decide_eq_true (by omega)]
  simp

set_option maxHeartbeats 8000000 in
theorem l02Bad_any (c : Cs) (hv : Value) (A : Option Addr) (m : Nat) (v : Value) (xs : List Bk) (es : List Int) (wc : c.Wf) (wf : ∀ b ∈ xs, b.Wf) (g : Nat) (w : World) (hc : CaseAt w g c hv) (h1 : caseB c = true) (sl : SliceOf w (.slice A xs.length m) xs) (hm : xs.length ≤ m) (h2 : okB xs = true) (se : IntsOf .i64 w v es) (me : es.length ≤ maxLen) :
    Calls Try.prog 71 #[.pointer (some ⟨g, 0, none⟩), .slice A xs.length m, v] w fun e w' => e = .returned (.int .i64 (badV c xs es)) ∧ Below w.heap.size w w' := by
  obtain ⟨cl1, cl2⟩ := caseB_lens h1
  have h60 := okB_len h2
  have HC := Lib.hid hc
  have SL := Lib.hid sl
  have WC := Lib.hid wc
  have WF := Lib.hid wf
  have mc : Hid (c.hs.length ≤ maxLen) := Lib.hid (by unfold maxLen; omega)
  obtain ⟨E, q, rfl, se⟩ := se
  have SE := Lib.hid se
  have K1 := Lib.hid h1
  obtain ⟨-, -, -, -, ⟨H, qh, rfl, -⟩⟩ := hc
  unfold maxLen at me
  clear sl se wc wf h1 h2
  go_enter Try.func71, Try.ntmps71
  go_wp2
  go_loopw [7, 8] (fun at_ s wr => ∃ j i : Nat, fromE es j = i ∧ j ≤ c.hs.length ∧ at_ = .int .i64 (i : Int) ∧ s = .int .i64 (j : Int) ∧ OkTo c xs es j ∧ Below w.heap.size w wr) (fun _ s _ => c.hs.length - (intOf s).toNat)
  case atStart => exact ⟨0, 0, rfl, Nat.zero_le _, rfl, rfl, fun _ h => absurd h (Nat.not_lt_zero _), Below.refl _ _⟩
  case round =>
    obtain ⟨j, i, hi, hj, rfl, rfl, hok, hb⟩ := hrel
    have HI := Lib.hid hi
    have OK := Lib.hid hok
    have ci := Lib.hid (HC.out.below hb)
    have c2 := ci.out.c2
    have fi := hok.from_in
    rw [hi] at fi
    obtain ⟨fi1, fi2, fi3⟩ := fi
    have hin : i ≤ xs.length := by omega
    clear hi hok fi1 fi2
    by_cases hlt : j < c.hs.length
    · by_cases hje : j < es.length
      · obtain ⟨ge, oe, rfl, hge, hate⟩ := SE.out (by omega)
        have p0 := hate.below hb hge j hje
        clear hate
        have hjd : decide (es.length ≤ j) = false := by simpa using hje
        by_cases hless : es[j] < (i : Int)
        · have E := Lib.hid (show badV c xs es = j by unfold badV; rw [goodN_bad OK.out hlt (okAt_less hje (by rw [HI.out]; exact hless)), if_pos hlt])
          go_wp2
          go_ret
          exact ⟨by rw [E.out]; rfl, hb⟩
        · by_cases hmore : (xs.length : Int) < es[j]
          · have E := Lib.hid (show badV c xs es = j by unfold badV; rw [goodN_bad OK.out hlt (okAt_more hje hmore), if_pos hlt])
            have hless' : (i : Int) ≤ es[j] := by omega
            go_wp2
            go_ret
            exact ⟨by rw [E.out]; rfl, hb⟩
          · obtain ⟨k, hk⟩ : ∃ k : Nat, es[j] = k := ⟨es[j].toNat, by omega⟩
            have hik : i ≤ k := by omega
            have hkn : k ≤ xs.length := by omega
            have hsl := run_part2 A xs.length m i k hik (by omega)
            have EO := Lib.hid (okAt_eq (c := c) hje HI.out hk hik hkn)
            have EK := Lib.hid hk
            have SP := Lib.hid ((SL.out.below hb).part hik hkn (show k ≤ m by omega))
            have PL := Lib.hid (show (part xs i k).length ≤ 1048576 by rw [part_length hkn]; omega)
            rw [hk] at p0
            clear hless hmore hk
            go_wp2_with fail
            refine (l02Free_any c _ _ (part xs i k) j WC.out (part_wf i k WF.out) g _ ci.out mc.out hlt SP.out PL.out).mono ?_
            rintro e w1 ⟨rfl, g1⟩
            have hf := freeS_neg c j (part xs i k)
            clear hsl
            generalize freeS c j (part xs i k) = fr at hf ⊢
            cases hfit : fitsB c j (part xs i k)
            · rw [hfit] at hf
              have hfr : fr < 0 := by simpa using hf
              have E := Lib.hid (show badV c xs es = j by unfold badV; rw [goodN_bad OK.out hlt (by rw [EO.out, hfit]), if_pos hlt])
              clear hf hfit
              go_wp2
              go_ret
              exact ⟨by rw [E.out]; rfl, bnext hb g1⟩
            · rw [hfit] at hf
              have hfr : ¬ fr < 0 := by simpa using hf
              have EF := Lib.hid (show okAt c xs es j = true by rw [EO.out, hfit])
              have p1 := (g1.cell (p := ⟨ge, oe + j, none⟩) (Nat.lt_of_lt_of_le hge hb.size)).trans p0
              have FS := Lib.hid (show fromE es (j + 1) = (k : Int) by rw [fromE_succ, getD_ints hje, EK.out])
              clear hf hfit p0 c2
              go_wp2
              go_roundw
              case rel => exact ⟨j + 1, k, FS.out, by omega, rfl, by go_num, OK.out.succ EF.out, bnext hb g1⟩
              case measure => simp [intOf]; omega
      · have E := Lib.hid (show badV c xs es = j by unfold badV; rw [goodN_bad OK.out hlt (okAt_short (by omega)), if_pos hlt])
        go_wp2
        go_ret
        exact ⟨by rw [E.out]; rfl, hb⟩
    · obtain rfl : j = c.hs.length := by omega
      have hle : c.hs.length ≤ es.length := fi3 (by omega)
      have EG := Lib.hid (goodN_all OK.out)
      clear hlt fi3
      by_cases hn : i = xs.length
      · have hn' : ((i : Int) != (xs.length : Int)) = false := by rw [hn]; simp
        by_cases hl : c.hs.length < es.length
        · have E := Lib.hid (show badV c xs es = c.hs.length by unfold badV; rw [EG.out, if_neg (by omega)]; unfold layB; rw [decide_eq_false (show ¬ es.length = c.hs.length by omega)]; simp)
          clear hn
          go_wp2
          go_ret
          exact ⟨by rw [E.out]; rfl, hb⟩
        · have E := Lib.hid (show badV c xs es = -1 by unfold badV; rw [EG.out, if_neg (by omega)]; unfold layB; rw [EG.out, HI.out, hn, decide_eq_true (show es.length = c.hs.length by omega)]; simp)
          clear hn
          go_wp2
          go_ret
          exact ⟨by rw [E.out]; rfl, hb⟩
      · have hn' : ((i : Int) != (xs.length : Int)) = true := by rw [bne_iff_ne]; omega
        have E := Lib.hid (show badV c xs es = c.hs.length by unfold badV; rw [EG.out, if_neg (by omega)]; unfold layB; rw [HI.out, decide_eq_false (show ¬ ((i : Int) = xs.length) by omega)]; simp)
        clear hn
        go_wp2
        go_ret
        exact ⟨by rw [E.out]; rfl, hb⟩

end Go.Proofs.Ytdkdchhkfachmaa
