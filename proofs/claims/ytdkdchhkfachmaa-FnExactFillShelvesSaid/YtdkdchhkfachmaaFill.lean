/- FillShelves, by the model and by the program: contracts. Condition: lists no longer than the law tests. -/
import Derived.Test.YtdkdchhkfachmaaRowsFrom
import Derived.Test.YtdkdchhkfachmaaLaid
namespace Go.Proofs.Ytdkdchhkfachmaa
set_option linter.unusedSimpArgs false
set_option linter.unusedVariables false
set_option maxRecDepth 100000
open Go.RowKit

theorem info64f : (Try.prog.info? 2).map (fun i => (i.zero, i.size, i.bytes)) = some (some (.int .i64 0), 1, 8) := by kernel_rfl

def fsR (c : Cs) (xs : List Bk) : List Int := if askB c xs then (if fillAt c xs c.hs.length < xs.length then [] else fillEnds c xs c.hs.length) else []
def fsCode (c : Cs) (xs : List Bk) : Int := if askB c xs then (if fillAt c xs c.hs.length < xs.length then 6 else 0) else 1
theorem fsR_len (c : Cs) (xs : List Bk) : (fsR c xs).length ≤ 12 := by
  unfold fsR
  split
  · rename_i h
    have := (caseB_lens (askB_both h).1).2
    split
    · simp
    · rw [fillEnds_length]; omega
  · simp
theorem fs_cases (c : Cs) (xs : List Bk) : (askB c xs = false ∧ askCode c xs = 1 ∧ fsR c xs = [] ∧ fsCode c xs = 1) ∨
    (askB c xs = true ∧ askCode c xs = 0 ∧ fillAt c xs c.hs.length < xs.length ∧ fsR c xs = [] ∧ fsCode c xs = 6) ∨
    (askB c xs = true ∧ askCode c xs = 0 ∧ ¬ fillAt c xs c.hs.length < xs.length ∧ fsR c xs = fillEnds c xs c.hs.length ∧ fsCode c xs = 0) := by
  unfold fsR fsCode askCode
  by_cases h : askB c xs
  · right
    by_cases h2 : fillAt c xs c.hs.length < xs.length
    · left; rw [h]; simp [h2]
    · right; rw [h]; simp [h2]
  · left
    simp [h]


set_option maxHeartbeats 8000000 in
theorem specFillShelves_any (c : Cs) (hv : Value) (A : Option Addr) (m : Nat) (xs : List Bk) (wc : c.Wf) (wf : ∀ b ∈ xs, b.Wf) (w : World) (sc : IntsOf .i16 w hv c.hs) (mc : c.hs.length ≤ maxLen) (sl : SliceOf w (.slice A xs.length m) xs) (hm : xs.length ≤ m) (ml : xs.length ≤ maxLen) :
    Calls Try.prog 27 #[.agg #[.int .i16 c.wi, .int .i32 c.lo, hv], .slice A xs.length m] w fun e w' => ∃ u, e = .returned (.tuple #[u, .int .i64 (fsCode c xs)]) ∧ w'.ownsRow w.heap.size 2 1 u (fsR c xs).length ((fsR c xs).map (Value.int .i64)) ∧ Below w.heap.size w w' := by
  have G0 := Lib.hid (show Below w.heap.size w (w.alloc (.cells #[.int .i16 c.wi, .int .i32 c.lo, hv] 28)) by go_grown)
  have HB := Lib.hid (CaseAt.new (t := 28) sc)
  have HC := Lib.hid (sc.below G0.out)
  have SL := Lib.hid (sl.below G0.out)
  have WC := Lib.hid wc
  have WF := Lib.hid wf
  have MC := Lib.hid mc
  obtain ⟨H, qh, rfl, -⟩ := sc
  obtain ⟨i0, hi0, hz0, hz1, hz2⟩ := info_parts info64f
  clear sl wc wf mc
  rcases fs_cases c xs with ⟨h, h1, e1, e2⟩ | ⟨h, h1, hlt, e1, e2⟩ | ⟨h, h1, hlt, e1, e2⟩
  · have E1 := Lib.hid e1
    have E2 := Lib.hid e2
    have EQ := Lib.hid h1
    have HL := Lib.hid h
    have HA := Lib.hid h
    clear h h1 e1 e2
    go_enter Try.func27, Try.ntmps27
    go_wp2_with fail
    generalize World.alloc _ _ = W0 at G0 HB HC SL ⊢
    refine (l02Asked_any c _ _ xs WC.out WF.out _ _ HB.out MC.out SL.out ml).mono ?_
    rintro e w1 ⟨rfl, g1⟩
    rw [EQ.out]
    go_wp2
    go_ret2
    exact ⟨_, by rw [E2.out]; rfl, by rw [E1.out]; exact ⟨rfl, .inr ⟨w1.heap.size, 0, #[], rfl, by have := G0.out.size; have := g1.size; omega, heap_alloc_new w1 _, Nat.le_refl _, Nat.zero_le _, rfl, rfl⟩⟩, bnext G0.out (g1.alloc g1.size _)⟩
  · have E1 := Lib.hid e1
    have E2 := Lib.hid e2
    have EQ := Lib.hid h1
    have HL := Lib.hid hlt
    have HA := Lib.hid h
    clear h h1 e1 e2 hlt
    go_enter Try.func27, Try.ntmps27
    go_wp2_with fail
    generalize World.alloc _ _ = W0 at G0 HB HC SL ⊢
    refine (l02Asked_any c _ _ xs WC.out WF.out _ _ HB.out MC.out SL.out ml).mono ?_
    rintro e w1 ⟨rfl, g1⟩
    rw [EQ.out]
    obtain ⟨a1, a2⟩ := askB_both HA.out
    obtain ⟨cl1, cl2⟩ := caseB_lens a1
    have L60 := okB_len a2
    clear a1 a2
    have OW0 := Lib.hid (show (w1.alloc (.cells #[] 2)).ownsRow W0.heap.size 2 1 (.slice (some ⟨w1.heap.size, 0, none⟩) 0 0) (fillEnds c xs 0).length ((fillEnds c xs 0).map (Value.int .i64)) from ⟨rfl, .inr ⟨w1.heap.size, 0, #[], rfl, g1.size, heap_alloc_new w1 _, Nat.le_refl _, Nat.zero_le _, rfl, rfl⟩⟩)
    have GA := Lib.hid (g1.alloc g1.size (.cells #[] 2))
    go_wp2
    go_loopw [7, 8, 9] (fun v_ a_ s_ wr => ∃ s at_ : Nat, at_ = fillAt c xs s ∧ s ≤ c.hs.length ∧ a_ = .int .i64 (at_ : Int) ∧ s_ = .int .i64 (s : Int) ∧ wr.ownsRow W0.heap.size 2 1 v_ (fillEnds c xs s).length ((fillEnds c xs s).map (Value.int .i64)) ∧ Below W0.heap.size W0 wr) (fun _ _ s_ _ => c.hs.length - (intOf s_).toNat)
    case atStart => exact ⟨0, 0, rfl, Nat.zero_le _, rfl, rfl, OW0.out, GA.out⟩
    case round =>
      obtain ⟨s, i, hi, hs, rfl, rfl, hown, hb⟩ := hrel
      have OW := Lib.hid hown
      have HI := Lib.hid hi
      have hin : i ≤ xs.length := by rw [hi]; exact fillAt_le c xs s
      have ci := Lib.hid (HB.out.below hb)
      have c2 := ci.out.c2
      clear hown hi
      obtain ⟨wo, rfl⟩ : ∃ wo : World, wo = wr := ⟨_, rfl⟩
      have hfl := fillEnds_length c xs s
      by_cases hlt : s < c.hs.length
      · go_wp2
        clear c2
        go_loopw [10] (fun to_ wz => ∃ k : Nat, i ≤ k ∧ k ≤ xs.length ∧ reachF c s xs i (xs.length - k) k = reach c s xs i ∧ to_ = .int .i64 (k : Int) ∧ Below wo.heap.size wo wz) (fun to_ _ => xs.length - (intOf to_).toNat)
        case atStart => exact ⟨i, Nat.le_refl _, hin, rfl, rfl, Below.refl _ _⟩
        case round =>
          obtain ⟨k, hik, hkn, hre, rfl, hbz⟩ := hrel
          have HRE := Lib.hid hre
          clear hre
          by_cases hkl : k < xs.length
          · have hsl := run_part2 A xs.length m i (k + 1) (by omega) (by omega)
            rw [show ((k + 1 : Nat) : Int) = (k : Int) + 1 by omega] at hsl
            have SP := Lib.hid ((SL.out.below (bnext hb hbz)).part (show i ≤ k + 1 by omega) hkl (show k + 1 ≤ m by omega))
            have PL := Lib.hid (show (part xs i (k + 1)).length ≤ 1048576 by rw [part_length hkl]; omega)
            have hd := freeS_nonneg c s (part xs i (k + 1))
            have FNH := Lib.hid hd
            have RF := Lib.hid (show reach c s xs i = if fitsB c s (part xs i (k + 1)) then reachF c s xs i (xs.length - (k + 1)) (k + 1) else k by rw [← HRE.out, show xs.length - k = (xs.length - (k + 1)) + 1 by omega, reachF])
            clear hd
            go_wp2_with fail
            refine (l02Free_any c _ _ (part xs i (k + 1)) s WC.out (part_wf i (k + 1) WF.out) _ _ (ci.out.below hbz) MC.out hlt SP.out PL.out).mono ?_
            rintro e w3 ⟨rfl, g3⟩
            have hd := FNH.out
            clear hsl
            generalize freeS c s (part xs i (k + 1)) = fr at hd ⊢
            cases hfit : fitsB c s (part xs i (k + 1))
            · have hr : reach c s xs i = k := by rw [RF.out, hfit]; rfl
              rw [hfit] at hd
              clear hfit
              have HR := Lib.hid hr
              have OW3 := Lib.hid (ownBelow OW.out (bnext hbz g3))
              have B3 := Lib.hid (bnext hb (bnext hbz g3))
              have hsz := B3.out.size
              clear hr
              go_wp2_with (at_builtin; refine wpList_append_own _ rfl (.tmp 43) (.tmp 45) _ rfl W0.heap.size 2 i0 (.int .i64 0) 1 8 Try.underlying41 hi0 hz0 hz1 hz2 rfl (by decide) _ _ _ rfl (OW3.out.alloc _) ⟨w3.heap.size, 0, none⟩ 1 1 [.int .i64 (k : Int)] rfl rfl ?c1a ?c2a ?c3a ?c4a ?c5a ?_)
              case c1a => exact cell_one_new _ _ _
              case c2a => (intro u hu; simp at hu; subst hu; rfl)
              case c3a => (unfold maxLen; omega)
              case c4a => omega
              case c5a => (simp; omega)
              intro v' w4 hown' hgrow' _
              have OW' := Lib.hid hown'
              have g4 : Below W0.heap.size W0 w4 := (B3.out.alloc hsz _).grown hgrow' (by simp; omega) (fun k hk => (OW3.out.lt k hk).1)
              clear hown' hgrow'
              go_wp2
              go_roundw
              case rel => exact ⟨s + 1, k, by rw [fillAt, ← HI.out, HR.out], by omega, rfl, by go_num, by rw [fillEnds_succ, fillAt, ← HI.out, HR.out]; simpa [fillEnds_length] using OW'.out, g4⟩
              case measure => simp [intOf]; omega
            · have hr := Lib.hid (show reachF c s xs i (xs.length - (k + 1)) (k + 1) = reach c s xs i by rw [RF.out, hfit]; rfl)
              rw [hfit] at hd
              clear hfit
              go_wp2
              go_roundw
              case rel => exact ⟨k + 1, by omega, by omega, hr.out, by go_num, bnext hbz g3⟩
              case measure => simp [intOf]; omega
          · obtain rfl : k = xs.length := by omega
            have hr : reach c s xs i = xs.length := by rw [← HRE.out, Nat.sub_self]; rfl
            have HR := Lib.hid hr
            have OW3 := Lib.hid (ownBelow OW.out hbz)
            have B3 := Lib.hid (bnext hb hbz)
            have hsz := B3.out.size
            clear hr
            go_wp2_with (at_builtin; refine wpList_append_own _ rfl (.tmp 43) (.tmp 45) _ rfl W0.heap.size 2 i0 (.int .i64 0) 1 8 Try.underlying41 hi0 hz0 hz1 hz2 rfl (by decide) _ _ _ rfl (OW3.out.alloc _) ⟨wr.heap.size, 0, none⟩ 1 1 [.int .i64 (xs.length : Int)] rfl rfl ?c1b ?c2b ?c3b ?c4b ?c5b ?_)
            case c1b => exact cell_one_new _ _ _
            case c2b => (intro u hu; simp at hu; subst hu; rfl)
            case c3b => (unfold maxLen; omega)
            case c4b => omega
            case c5b => (simp; omega)
            intro v' w4 hown' hgrow' _
            have OW' := Lib.hid hown'
            have g4 : Below W0.heap.size W0 w4 := (B3.out.alloc hsz _).grown hgrow' (by simp; omega) (fun k hk => (OW3.out.lt k hk).1)
            clear hown' hgrow'
            go_wp2
            go_roundw
            case rel => exact ⟨s + 1, xs.length, by rw [fillAt, ← HI.out, HR.out], by omega, rfl, by go_num, by rw [fillEnds_succ, fillAt, ← HI.out, HR.out]; simpa [fillEnds_length] using OW'.out, g4⟩
            case measure => simp [intOf]; omega
      · obtain rfl : s = c.hs.length := by omega
        have HL2 := HL.out
        rw [← HI.out] at HL2
        clear hlt
        go_wp2
        go_ret2
        exact ⟨_, by rw [E2.out]; rfl, by rw [E1.out]; exact ⟨rfl, .inr ⟨wo.heap.size, 0, #[], rfl, by have := G0.out.size; have := hb.size; omega, heap_alloc_new wo _, Nat.le_refl _, Nat.zero_le _, rfl, rfl⟩⟩, bnext G0.out (hb.alloc hb.size _)⟩
  · have E1 := Lib.hid e1
    have E2 := Lib.hid e2
    have EQ := Lib.hid h1
    have HL := Lib.hid hlt
    have HA := Lib.hid h
    clear h h1 e1 e2 hlt
    go_enter Try.func27, Try.ntmps27
    go_wp2_with fail
    generalize World.alloc _ _ = W0 at G0 HB HC SL ⊢
    refine (l02Asked_any c _ _ xs WC.out WF.out _ _ HB.out MC.out SL.out ml).mono ?_
    rintro e w1 ⟨rfl, g1⟩
    rw [EQ.out]
    obtain ⟨a1, a2⟩ := askB_both HA.out
    obtain ⟨cl1, cl2⟩ := caseB_lens a1
    have L60 := okB_len a2
    clear a1 a2
    have OW0 := Lib.hid (show (w1.alloc (.cells #[] 2)).ownsRow W0.heap.size 2 1 (.slice (some ⟨w1.heap.size, 0, none⟩) 0 0) (fillEnds c xs 0).length ((fillEnds c xs 0).map (Value.int .i64)) from ⟨rfl, .inr ⟨w1.heap.size, 0, #[], rfl, g1.size, heap_alloc_new w1 _, Nat.le_refl _, Nat.zero_le _, rfl, rfl⟩⟩)
    have GA := Lib.hid (g1.alloc g1.size (.cells #[] 2))
    go_wp2
    go_loopw [7, 8, 9] (fun v_ a_ s_ wr => ∃ s at_ : Nat, at_ = fillAt c xs s ∧ s ≤ c.hs.length ∧ a_ = .int .i64 (at_ : Int) ∧ s_ = .int .i64 (s : Int) ∧ wr.ownsRow W0.heap.size 2 1 v_ (fillEnds c xs s).length ((fillEnds c xs s).map (Value.int .i64)) ∧ Below W0.heap.size W0 wr) (fun _ _ s_ _ => c.hs.length - (intOf s_).toNat)
    case atStart => exact ⟨0, 0, rfl, Nat.zero_le _, rfl, rfl, OW0.out, GA.out⟩
    case round =>
      obtain ⟨s, i, hi, hs, rfl, rfl, hown, hb⟩ := hrel
      have OW := Lib.hid hown
      have HI := Lib.hid hi
      have hin : i ≤ xs.length := by rw [hi]; exact fillAt_le c xs s
      have ci := Lib.hid (HB.out.below hb)
      have c2 := ci.out.c2
      clear hown hi
      obtain ⟨wo, rfl⟩ : ∃ wo : World, wo = wr := ⟨_, rfl⟩
      have hfl := fillEnds_length c xs s
      by_cases hlt : s < c.hs.length
      · go_wp2
        clear c2
        go_loopw [10] (fun to_ wz => ∃ k : Nat, i ≤ k ∧ k ≤ xs.length ∧ reachF c s xs i (xs.length - k) k = reach c s xs i ∧ to_ = .int .i64 (k : Int) ∧ Below wo.heap.size wo wz) (fun to_ _ => xs.length - (intOf to_).toNat)
        case atStart => exact ⟨i, Nat.le_refl _, hin, rfl, rfl, Below.refl _ _⟩
        case round =>
          obtain ⟨k, hik, hkn, hre, rfl, hbz⟩ := hrel
          have HRE := Lib.hid hre
          clear hre
          by_cases hkl : k < xs.length
          · have hsl := run_part2 A xs.length m i (k + 1) (by omega) (by omega)
            rw [show ((k + 1 : Nat) : Int) = (k : Int) + 1 by omega] at hsl
            have SP := Lib.hid ((SL.out.below (bnext hb hbz)).part (show i ≤ k + 1 by omega) hkl (show k + 1 ≤ m by omega))
            have PL := Lib.hid (show (part xs i (k + 1)).length ≤ 1048576 by rw [part_length hkl]; omega)
            have hd := freeS_nonneg c s (part xs i (k + 1))
            have FNH := Lib.hid hd
            have RF := Lib.hid (show reach c s xs i = if fitsB c s (part xs i (k + 1)) then reachF c s xs i (xs.length - (k + 1)) (k + 1) else k by rw [← HRE.out, show xs.length - k = (xs.length - (k + 1)) + 1 by omega, reachF])
            clear hd
            go_wp2_with fail
            refine (l02Free_any c _ _ (part xs i (k + 1)) s WC.out (part_wf i (k + 1) WF.out) _ _ (ci.out.below hbz) MC.out hlt SP.out PL.out).mono ?_
            rintro e w3 ⟨rfl, g3⟩
            have hd := FNH.out
            clear hsl
            generalize freeS c s (part xs i (k + 1)) = fr at hd ⊢
            cases hfit : fitsB c s (part xs i (k + 1))
            · have hr : reach c s xs i = k := by rw [RF.out, hfit]; rfl
              rw [hfit] at hd
              clear hfit
              have HR := Lib.hid hr
              have OW3 := Lib.hid (ownBelow OW.out (bnext hbz g3))
              have B3 := Lib.hid (bnext hb (bnext hbz g3))
              have hsz := B3.out.size
              clear hr
              go_wp2_with (at_builtin; refine wpList_append_own _ rfl (.tmp 43) (.tmp 45) _ rfl W0.heap.size 2 i0 (.int .i64 0) 1 8 Try.underlying41 hi0 hz0 hz1 hz2 rfl (by decide) _ _ _ rfl (OW3.out.alloc _) ⟨w3.heap.size, 0, none⟩ 1 1 [.int .i64 (k : Int)] rfl rfl ?c1a ?c2a ?c3a ?c4a ?c5a ?_)
              case c1a => exact cell_one_new _ _ _
              case c2a => (intro u hu; simp at hu; subst hu; rfl)
              case c3a => (unfold maxLen; omega)
              case c4a => omega
              case c5a => (simp; omega)
              intro v' w4 hown' hgrow' _
              have OW' := Lib.hid hown'
              have g4 : Below W0.heap.size W0 w4 := (B3.out.alloc hsz _).grown hgrow' (by simp; omega) (fun k hk => (OW3.out.lt k hk).1)
              clear hown' hgrow'
              go_wp2
              go_roundw
              case rel => exact ⟨s + 1, k, by rw [fillAt, ← HI.out, HR.out], by omega, rfl, by go_num, by rw [fillEnds_succ, fillAt, ← HI.out, HR.out]; simpa [fillEnds_length] using OW'.out, g4⟩
              case measure => simp [intOf]; omega
            · have hr := Lib.hid (show reachF c s xs i (xs.length - (k + 1)) (k + 1) = reach c s xs i by rw [RF.out, hfit]; rfl)
              rw [hfit] at hd
              clear hfit
              go_wp2
              go_roundw
              case rel => exact ⟨k + 1, by omega, by omega, hr.out, by go_num, bnext hbz g3⟩
              case measure => simp [intOf]; omega
          · obtain rfl : k = xs.length := by omega
            have hr : reach c s xs i = xs.length := by rw [← HRE.out, Nat.sub_self]; rfl
            have HR := Lib.hid hr
            have OW3 := Lib.hid (ownBelow OW.out hbz)
            have B3 := Lib.hid (bnext hb hbz)
            have hsz := B3.out.size
            clear hr
            go_wp2_with (at_builtin; refine wpList_append_own _ rfl (.tmp 43) (.tmp 45) _ rfl W0.heap.size 2 i0 (.int .i64 0) 1 8 Try.underlying41 hi0 hz0 hz1 hz2 rfl (by decide) _ _ _ rfl (OW3.out.alloc _) ⟨wr.heap.size, 0, none⟩ 1 1 [.int .i64 (xs.length : Int)] rfl rfl ?c1b ?c2b ?c3b ?c4b ?c5b ?_)
            case c1b => exact cell_one_new _ _ _
            case c2b => (intro u hu; simp at hu; subst hu; rfl)
            case c3b => (unfold maxLen; omega)
            case c4b => omega
            case c5b => (simp; omega)
            intro v' w4 hown' hgrow' _
            have OW' := Lib.hid hown'
            have g4 : Below W0.heap.size W0 w4 := (B3.out.alloc hsz _).grown hgrow' (by simp; omega) (fun k hk => (OW3.out.lt k hk).1)
            clear hown' hgrow'
            go_wp2
            go_roundw
            case rel => exact ⟨s + 1, xs.length, by rw [fillAt, ← HI.out, HR.out], by omega, rfl, by go_num, by rw [fillEnds_succ, fillAt, ← HI.out, HR.out]; simpa [fillEnds_length] using OW'.out, g4⟩
            case measure => simp [intOf]; omega
      · obtain rfl : s = c.hs.length := by omega
        have HL2 := HL.out
        rw [← HI.out] at HL2
        clear hlt
        have HL3 : ¬ ((i : Int) < (xs.length : Int)) := by omega
        go_wp2
        go_ret2
        exact ⟨_, by rw [E2.out]; rfl, by rw [E1.out]; exact ownMono OW.out (by have := G0.out.size; omega), bnext G0.out hb⟩


set_option maxHeartbeats 8000000 in
theorem fillShelves_any (c : Cs) (hv : Value) (A : Option Addr) (m : Nat) (xs : List Bk) (wc : c.Wf) (wf : ∀ b ∈ xs, b.Wf) (w : World) (sc : IntsOf .i16 w hv c.hs) (mc : c.hs.length ≤ maxLen) (sl : SliceOf w (.slice A xs.length m) xs) (hm : xs.length ≤ m) (ml : xs.length ≤ maxLen) :
    Calls Try.prog 28 #[.agg #[.int .i16 c.wi, .int .i32 c.lo, hv], .slice A xs.length m] w fun e w' => ∃ u, e = .returned (.tuple #[u, .int .i64 (fsCode c xs)]) ∧ w'.ownsRow w.heap.size 2 1 u (fsR c xs).length ((fsR c xs).map (Value.int .i64)) ∧ Below w.heap.size w w' := by
  have G0 := Lib.hid (show Below w.heap.size w (w.alloc (.cells #[.int .i16 c.wi, .int .i32 c.lo, hv] 28)) by go_grown)
  have HB := Lib.hid (CaseAt.new (t := 28) sc)
  have HC := Lib.hid (sc.below G0.out)
  have SL := Lib.hid (sl.below G0.out)
  have WC := Lib.hid wc
  have WF := Lib.hid wf
  have MC := Lib.hid mc
  obtain ⟨H, qh, rfl, -⟩ := sc
  obtain ⟨i0, hi0, hz0, hz1, hz2⟩ := info_parts info64f
  clear sl wc wf mc
  rcases fs_cases c xs with ⟨h, h1, e1, e2⟩ | ⟨h, h1, hlt, e1, e2⟩ | ⟨h, h1, hlt, e1, e2⟩
  · have E1 := Lib.hid e1
    have E2 := Lib.hid e2
    have HL := Lib.hid h
    have HA := Lib.hid h
    clear h h1 e1 e2
    go_enter Try.func28, Try.ntmps28
    go_wp2_with fail
    generalize World.alloc _ _ = W0 at G0 HB HC SL ⊢
    refine (validBoth_any c _ _ xs _ HC.out MC.out SL.out ml).mono ?_
    rintro e w1 ⟨rfl, g1⟩
    rw [HA.out]
    go_wp2
    go_ret2
    exact ⟨_, by rw [E2.out]; rfl, by rw [E1.out]; exact ⟨rfl, .inl ⟨rfl, rfl⟩⟩, bnext G0.out g1⟩
  · have E1 := Lib.hid e1
    have E2 := Lib.hid e2
    have HL := Lib.hid hlt
    have HA := Lib.hid h
    clear h h1 e1 e2 hlt
    go_enter Try.func28, Try.ntmps28
    go_wp2_with fail
    generalize World.alloc _ _ = W0 at G0 HB HC SL ⊢
    refine (validBoth_any c _ _ xs _ HC.out MC.out SL.out ml).mono ?_
    rintro e w1 ⟨rfl, g1⟩
    rw [HA.out]
    obtain ⟨a1, a2⟩ := askB_both HA.out
    obtain ⟨cl1, cl2⟩ := caseB_lens a1
    have L60 := okB_len a2
    have A1 := Lib.hid a1
    have A2 := Lib.hid a2
    clear a1 a2
    have c2' := (HB.out.below g1).c2
    go_wp2
    clear c2'
    go_loopw [6, 7, 17] (fun v_ a_ s_ wr => ∃ s at_ : Nat, at_ = fillAt c xs s ∧ s ≤ c.hs.length ∧ a_ = .int .i64 (at_ : Int) ∧ s_ = .int .i64 (s : Int) ∧ wr.ownsRow W0.heap.size 2 1 v_ (fillEnds c xs s).length ((fillEnds c xs s).map (Value.int .i64)) ∧ Below W0.heap.size W0 wr) (fun _ _ s_ _ => c.hs.length - (intOf s_).toNat)
    case atStart => exact ⟨0, 0, rfl, Nat.zero_le _, rfl, rfl, ⟨rfl, .inl ⟨rfl, rfl⟩⟩, g1⟩
    case round =>
      obtain ⟨s, i, hi, hs, rfl, rfl, hown, hb⟩ := hrel
      have OW := Lib.hid hown
      have HI := Lib.hid hi
      have hin : i ≤ xs.length := by rw [hi]; exact fillAt_le c xs s
      clear hown hi
      have hfl := fillEnds_length c xs s
      by_cases hlt : s < c.hs.length
      · have ci := Lib.hid (HB.out.below hb)
        obtain ⟨c0, c1, c2, cz, -⟩ := ci.out
        have rl := reach_le (c := c) (s := s) hin
        go_wp2_with fail
        refine (rowsFrom_any c _ A m xs s i WF.out _ (HC.out.below hb) hlt A1.out (SL.out.below hb) hm A2.out hin).mono ?_
        rintro e w2 ⟨u, rfl, ho, g2⟩
        have hcn : cntR c s xs i = reach c s xs i - i + 1 := rfl
        obtain ⟨k, hk⟩ : ∃ k, k = reach c s xs i := ⟨_, rfl⟩
        rw [← hk] at hcn rl
        have hr := hk.symm
        have HR := Lib.hid hr
        rw [hcn] at ho
        obtain ⟨hik, hkn⟩ := rl
        obtain ⟨d, hd⟩ : ∃ d, d = k - i := ⟨_, rfl⟩
        rw [← hd] at ho
        obtain ⟨g, cap, rfl⟩ : ∃ g cap, u = .slice (some ⟨g, 0, none⟩) (d + 1) cap := by
          rcases ho.2 with ⟨_, h⟩ | ⟨g, cap, cur, h, _⟩
          · omega
          · exact ⟨g, cap, h⟩
        have e0 := (ho.cellAt (d * 3 + 0) (by omega)).trans (fromCs_at c A xs i d 0 (by omega) _ (by omega))
        have e1 := (ho.cellAt (d * 3 + 1) (by omega)).trans (fromCs_at c A xs i d 1 (by omega) _ (by omega))
        have e2 := (ho.cellAt (d * 3 + 2) (by omega)).trans (fromCs_at c A xs i d 2 (by omega) _ (by omega))
        rw [show i + d = k by omega] at e0 e1 e2
        simp only [rowCs, List.getElem?_cons_zero, List.getElem?_cons_succ, Nat.add_zero] at e0 e1 e2
        have HD := Lib.hid hd
        have hd60 : d ≤ 60 := by omega
        have n1 : IntKind.i64.wrap (((d + 1 : Nat) : Int) - 1) = (d : Int) := by rw [show ((d + 1 : Nat) : Int) - 1 = (d : Int) by omega]; exact IntWalk.i64_in _ (by omega)
        have n2 : ((d + 1 : Nat) : Int) - 1 = (d : Int) := by omega
        have n3 : (d : Int) + 1 - 1 = (d : Int) := by omega
        have n4 : (0 : Int) ≤ (d : Int) := by omega
        have n5 : (d : Int) < (d : Int) + 1 := by omega
        generalize freeB c (part xs i k) = fr at *
        have OW2 := Lib.hid (ownBelow OW.out g2)
        clear ho hd hk hr hcn c0 c1 c2 cz
        go_wp2_with fail
        refine (behind_any _ i k fr _ hik (by omega)).mono ?_
        rintro e w3 ⟨rfl, g3⟩
        clear e0 e1 e2 n1 n2 n3 n5
        have OW3 := Lib.hid (ownBelow OW2.out g3)
        have B3 := Lib.hid (bnext (bnext hb g2) g3)
        have hsz := B3.out.size
        go_wp2_with (at_builtin; refine wpList_append_own _ rfl (.tmp 32) (.tmp 34) _ rfl W0.heap.size 2 i0 (.int .i64 0) 1 8 Try.underlying41 hi0 hz0 hz1 hz2 rfl (by decide) _ _ _ rfl (OW3.out.alloc _) ⟨w3.heap.size, 0, none⟩ 1 1 [.int .i64 (k : Int)] rfl rfl ?c1c ?c2c ?c3c ?c4c ?c5c ?_)
        case c1c => exact cell_one_new _ _ _
        case c2c => (intro u hu; simp at hu; subst hu; rfl)
        case c3c => (unfold maxLen; omega)
        case c4c => omega
        case c5c => (simp; omega)
        intro v' w4 hown' hgrow' _
        have OW' := Lib.hid hown'
        have g4 : Below W0.heap.size W0 w4 := (B3.out.alloc hsz _).grown hgrow' (by simp; omega) (fun k hk => (OW3.out.lt k hk).1)
        clear hown' hgrow'
        go_wp2
        go_roundw
        case rel => exact ⟨s + 1, k, by rw [fillAt, ← HI.out, HR.out], by omega, rfl, by go_num, by rw [fillEnds_succ, fillAt, ← HI.out, HR.out]; simpa [fillEnds_length] using OW'.out, g4⟩
        case measure => simp [intOf]; omega
      · obtain rfl : s = c.hs.length := by omega
        have HL2 := HL.out
        rw [← HI.out] at HL2
        clear hlt
        go_wp2
        go_ret2
        exact ⟨_, by rw [E2.out]; rfl, by rw [E1.out]; exact ⟨rfl, .inl ⟨rfl, rfl⟩⟩, bnext G0.out hb⟩
  · have E1 := Lib.hid e1
    have E2 := Lib.hid e2
    have HL := Lib.hid hlt
    have HA := Lib.hid h
    clear h h1 e1 e2 hlt
    go_enter Try.func28, Try.ntmps28
    go_wp2_with fail
    generalize World.alloc _ _ = W0 at G0 HB HC SL ⊢
    refine (validBoth_any c _ _ xs _ HC.out MC.out SL.out ml).mono ?_
    rintro e w1 ⟨rfl, g1⟩
    rw [HA.out]
    obtain ⟨a1, a2⟩ := askB_both HA.out
    obtain ⟨cl1, cl2⟩ := caseB_lens a1
    have L60 := okB_len a2
    have A1 := Lib.hid a1
    have A2 := Lib.hid a2
    clear a1 a2
    have c2' := (HB.out.below g1).c2
    go_wp2
    clear c2'
    go_loopw [6, 7, 17] (fun v_ a_ s_ wr => ∃ s at_ : Nat, at_ = fillAt c xs s ∧ s ≤ c.hs.length ∧ a_ = .int .i64 (at_ : Int) ∧ s_ = .int .i64 (s : Int) ∧ wr.ownsRow W0.heap.size 2 1 v_ (fillEnds c xs s).length ((fillEnds c xs s).map (Value.int .i64)) ∧ Below W0.heap.size W0 wr) (fun _ _ s_ _ => c.hs.length - (intOf s_).toNat)
    case atStart => exact ⟨0, 0, rfl, Nat.zero_le _, rfl, rfl, ⟨rfl, .inl ⟨rfl, rfl⟩⟩, g1⟩
    case round =>
      obtain ⟨s, i, hi, hs, rfl, rfl, hown, hb⟩ := hrel
      have OW := Lib.hid hown
      have HI := Lib.hid hi
      have hin : i ≤ xs.length := by rw [hi]; exact fillAt_le c xs s
      clear hown hi
      have hfl := fillEnds_length c xs s
      by_cases hlt : s < c.hs.length
      · have ci := Lib.hid (HB.out.below hb)
        obtain ⟨c0, c1, c2, cz, -⟩ := ci.out
        have rl := reach_le (c := c) (s := s) hin
        go_wp2_with fail
        refine (rowsFrom_any c _ A m xs s i WF.out _ (HC.out.below hb) hlt A1.out (SL.out.below hb) hm A2.out hin).mono ?_
        rintro e w2 ⟨u, rfl, ho, g2⟩
        have hcn : cntR c s xs i = reach c s xs i - i + 1 := rfl
        obtain ⟨k, hk⟩ : ∃ k, k = reach c s xs i := ⟨_, rfl⟩
        rw [← hk] at hcn rl
        have hr := hk.symm
        have HR := Lib.hid hr
        rw [hcn] at ho
        obtain ⟨hik, hkn⟩ := rl
        obtain ⟨d, hd⟩ : ∃ d, d = k - i := ⟨_, rfl⟩
        rw [← hd] at ho
        obtain ⟨g, cap, rfl⟩ : ∃ g cap, u = .slice (some ⟨g, 0, none⟩) (d + 1) cap := by
          rcases ho.2 with ⟨_, h⟩ | ⟨g, cap, cur, h, _⟩
          · omega
          · exact ⟨g, cap, h⟩
        have e0 := (ho.cellAt (d * 3 + 0) (by omega)).trans (fromCs_at c A xs i d 0 (by omega) _ (by omega))
        have e1 := (ho.cellAt (d * 3 + 1) (by omega)).trans (fromCs_at c A xs i d 1 (by omega) _ (by omega))
        have e2 := (ho.cellAt (d * 3 + 2) (by omega)).trans (fromCs_at c A xs i d 2 (by omega) _ (by omega))
        rw [show i + d = k by omega] at e0 e1 e2
        simp only [rowCs, List.getElem?_cons_zero, List.getElem?_cons_succ, Nat.add_zero] at e0 e1 e2
        have HD := Lib.hid hd
        have hd60 : d ≤ 60 := by omega
        have n1 : IntKind.i64.wrap (((d + 1 : Nat) : Int) - 1) = (d : Int) := by rw [show ((d + 1 : Nat) : Int) - 1 = (d : Int) by omega]; exact IntWalk.i64_in _ (by omega)
        have n2 : ((d + 1 : Nat) : Int) - 1 = (d : Int) := by omega
        have n3 : (d : Int) + 1 - 1 = (d : Int) := by omega
        have n4 : (0 : Int) ≤ (d : Int) := by omega
        have n5 : (d : Int) < (d : Int) + 1 := by omega
        generalize freeB c (part xs i k) = fr at *
        have OW2 := Lib.hid (ownBelow OW.out g2)
        clear ho hd hk hr hcn c0 c1 c2 cz
        go_wp2_with fail
        refine (behind_any _ i k fr _ hik (by omega)).mono ?_
        rintro e w3 ⟨rfl, g3⟩
        clear e0 e1 e2 n1 n2 n3 n5
        have OW3 := Lib.hid (ownBelow OW2.out g3)
        have B3 := Lib.hid (bnext (bnext hb g2) g3)
        have hsz := B3.out.size
        go_wp2_with (at_builtin; refine wpList_append_own _ rfl (.tmp 32) (.tmp 34) _ rfl W0.heap.size 2 i0 (.int .i64 0) 1 8 Try.underlying41 hi0 hz0 hz1 hz2 rfl (by decide) _ _ _ rfl (OW3.out.alloc _) ⟨w3.heap.size, 0, none⟩ 1 1 [.int .i64 (k : Int)] rfl rfl ?c1c ?c2c ?c3c ?c4c ?c5c ?_)
        case c1c => exact cell_one_new _ _ _
        case c2c => (intro u hu; simp at hu; subst hu; rfl)
        case c3c => (unfold maxLen; omega)
        case c4c => omega
        case c5c => (simp; omega)
        intro v' w4 hown' hgrow' _
        have OW' := Lib.hid hown'
        have g4 : Below W0.heap.size W0 w4 := (B3.out.alloc hsz _).grown hgrow' (by simp; omega) (fun k hk => (OW3.out.lt k hk).1)
        clear hown' hgrow'
        go_wp2
        go_roundw
        case rel => exact ⟨s + 1, k, by rw [fillAt, ← HI.out, HR.out], by omega, rfl, by go_num, by rw [fillEnds_succ, fillAt, ← HI.out, HR.out]; simpa [fillEnds_length] using OW'.out, g4⟩
        case measure => simp [intOf]; omega
      · obtain rfl : s = c.hs.length := by omega
        have HL2 := HL.out
        rw [← HI.out] at HL2
        clear hlt
        have HL3 : ¬ ((i : Int) < (xs.length : Int)) := by omega
        go_wp2
        go_ret2
        exact ⟨_, by rw [E2.out]; rfl, by rw [E1.out]; exact ownMono OW.out (by have := G0.out.size; omega), bnext G0.out hb⟩


end Go.Proofs.Ytdkdchhkfachmaa
