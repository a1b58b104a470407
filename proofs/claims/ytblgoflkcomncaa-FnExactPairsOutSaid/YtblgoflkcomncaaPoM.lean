/- How many pairs of a list are out of order, by the model: a contract. Condition: lists no longer than can be, whose numbers lie within their kinds. -/
import Derived.Test.YtblgoflkcomncaaPoS
import Derived.Test.YtblgoflkcomncaaFields
import Derived.Test.YtblgoflkcomncaaBooksOk
import Derived.Test.YtblgoflkcomncaaQuiet
namespace Go.Proofs.Ytblgoflkcomncaa
set_option linter.unusedSimpArgs false
set_option linter.unusedVariables false
set_option maxRecDepth 100000
open Go.RowKit

set_option maxHeartbeats 8000000 in
theorem specPairsOut_any (v : Value) (xs : List Bk) (wf : ∀ b ∈ xs, b.Wf) (w : World) (hs : SliceOf w v xs) (hm : xs.length ≤ maxLen) :
    Calls Try.prog 25 #[v] w fun e w' => e = .returned (.tuple #[.int .i64 (poV xs), .int .i64 (poC xs)]) ∧ Below w.heap.size w w' := by
  have HS := Lib.hid hs
  have WF := Lib.hid wf
  obtain ⟨A, c, rfl, hat⟩ := hs
  have HA := Lib.hid hat
  clear wf hat
  cases h1 : okB xs
  · have E := Lib.hid (show poC xs = 1 by unfold poC; rw [h1]; rfl)
    have E2 := Lib.hid (show poV xs = 0 by unfold poV; rw [h1]; rfl)
    go_enter Try.func25, Try.ntmps25
    go_wp2_with fail
    refine (l01Ok_any _ xs WF.out _ HS.out hm).mono ?_
    rintro e w1 ⟨rfl, g1⟩
    rw [h1]
    go_wp2
    go_ret2
    exact ⟨by rw [E.out, E2.out]; rfl, g1⟩
  · have E := Lib.hid (show poC xs = 0 by unfold poC; rw [h1]; rfl)
    have E2 := Lib.hid (show poV xs = ((prTo xs xs.length : Nat) : Int) by unfold poV; rw [h1]; rfl)
    have h60 : xs.length ≤ 60 := by unfold okB at h1; simp at h1; exact h1.2
    go_enter Try.func25, Try.ntmps25
    go_wp2_with fail
    refine (l01Ok_any _ xs WF.out _ HS.out hm).mono ?_
    rintro e w1 ⟨rfl, g1⟩
    rw [h1]
    have HAB := Lib.hid (show 0 < xs.length → ∃ g o, A = some ⟨g, o, none⟩ ∧ g < w.heap.size ∧ BooksAt w g o xs from HA.out)
    have G1 := Lib.hid g1
    clear h1 g1
    go_wp2
    go_loopw [4, 5] (fun n_ i_ wr => ∃ (i n : Nat), i ≤ xs.length ∧ i_ = .int .i64 (i : Int) ∧ n_ = .int .i64 (n : Int) ∧ prTo xs i = n ∧ Below w.heap.size w wr) (fun _ i_ _ => xs.length - (intOf i_).toNat)
    case atStart => exact ⟨0, 0, Nat.zero_le _, rfl, rfl, rfl, G1.out⟩
    case round =>
      obtain ⟨i, n, hi, rfl, rfl, hn, hb⟩ := hrel
      have HN := Lib.hid hn
      have nb : n ≤ 3600 := by rw [← hn]; have := prTo_le xs i (by omega); omega
      have HB := Lib.hid hb
      clear hn hb
      by_cases hlt : i < xs.length
      · obtain ⟨ga, oa, rfl, hga, hat⟩ := HAB.out (by omega)
        have HAT := Lib.hid hat
        have PS := Lib.hid (prTo_succ hlt)
        clear hat
        obtain ⟨wo, rfl⟩ : ∃ wo : World, wo = wr := ⟨_, rfl⟩
        go_wp2
        go_loopw [4, 6] (fun n_ k_ wr => ∃ (k m : Nat), k ≤ i ∧ k_ = .int .i64 (k : Int) ∧ n_ = .int .i64 (m : Int) ∧ m = n + (xs.take k).countP (outP xs[i]) ∧ Below w.heap.size w wr) (fun _ k_ _ => i - (intOf k_).toNat)
        case atStart => exact ⟨0, n, Nat.zero_le _, rfl, rfl, by simp, HB.out⟩
        case round =>
          clear HB
          obtain ⟨k, m, hk, rfl, rfl, hm, hb⟩ := hrel
          have HM := Lib.hid hm
          have mb : m ≤ 3700 := by
            rw [hm]
            have : (xs.take k).countP (outP xs[i]) ≤ 60 := Nat.le_trans List.countP_le_length (by rw [List.length_take]; omega)
            omega
          have zg := Nat.lt_of_lt_of_le hga hb.size
          clear hm
          by_cases hki : k < i
          · have hkx : k < xs.length := by omega
            have A1 := Lib.hid ((HAT.out.below hb hga).at_ zg hlt)
            have A0 := Lib.hid ((HAT.out.below hb hga).at_ zg hkx)
            have MS := Lib.hid (countP_take (outP xs[i]) hkx)
            go_wp2
            refine wp_region_below (by kernel_rfl) (by kernel_rfl) ?_
            repeat (first | go_big_quiet_step ((go_at_call 82; exact calls_below (l01Usual_any xs[i] xs[k] (WF.out _ (List.getElem_mem _)) (WF.out _ (List.getElem_mem _)) _ _ _ _ _ (A1.out.next (BelowBy.h _)) (A0.out.next (BelowBy.h _))))) | quiet_step ((go_at_call 82; exact calls_below (l01Usual_any xs[i] xs[k] (WF.out _ (List.getElem_mem _)) (WF.out _ (List.getElem_mem _)) _ _ _ _ _ (A1.out.next (BelowBy.h _)) (A0.out.next (BelowBy.h _))))))
            refine wpQuiet_nil ?_
            rintro wq ⟨⟨_, hq⟩, rfl⟩
            have g1 := Lib.hid (hb.trans (hq.mono hb.size))
            by_cases r1 : usual xs[i] xs[k] < 0
            · have MS := Lib.hid (show m + 1 = n + (xs.take (k + 1)).countP (outP xs[i]) by rw [MS.out, HM.out, if_pos (by unfold outP; simpa using r1)]; omega)
              clear hq hb
              generalize usual xs[i] xs[k] = r at r1 ⊢
              go_wp2
              go_roundw
              case rel => exact ⟨k + 1, m + 1, by omega, by go_num, by go_num, MS.out, g1.out⟩
              case measure => simp [intOf]; omega
            · have MS := Lib.hid (show m = n + (xs.take (k + 1)).countP (outP xs[i]) by rw [MS.out, HM.out, if_neg (by unfold outP; simpa using r1)]; omega)
              clear hq hb
              generalize usual xs[i] xs[k] = r at r1 ⊢
              go_wp2
              go_roundw
              case rel => exact ⟨k + 1, m, by omega, by go_num, rfl, MS.out, g1.out⟩
              case measure => simp [intOf]; omega
          · obtain rfl : k = i := by omega
            have PS := Lib.hid (show prTo xs (k + 1) = m by rw [PS.out, HN.out, HM.out])
            have HB := Lib.hid hb
            clear hb
            go_wp2
            go_roundw
            case rel => exact ⟨k + 1, m, by omega, by go_num, rfl, PS.out, HB.out⟩
            case measure => simp [intOf]; omega
      · obtain rfl : i = xs.length := by omega
        go_wp2
        go_ret2
        exact ⟨by rw [E.out, E2.out, HN.out]; rfl, HB.out⟩
end Go.Proofs.Ytblgoflkcomncaa
