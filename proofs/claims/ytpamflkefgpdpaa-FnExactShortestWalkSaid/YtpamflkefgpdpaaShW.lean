/- Shortest walks by the program: the function. No condition (lists fit maxLen). -/
import Derived.Test.YtpamflkefgpdpaaShI
import Derived.Test.YtpamflkefgpdpaaShS2
namespace Go.Proofs.Ytpamflkefgpdpaa
set_option linter.unusedSimpArgs false
set_option linter.unusedVariables false
set_option maxRecDepth 100000
open Go.RowKit Go.Shelf

set_option maxHeartbeats 16000000 in
theorem shortestWalk_any (v : Value) (zs : List Int) (a : Int) (w : World) (hs : IntsOf .i64 w v zs) (hn : zs.length ≤ maxLen) :
    Calls Try.prog 10 #[v, .int .i64 a] w fun e w' => ∃ u, e = .returned (.tuple #[u, .int .i64 (swV zs a), .int .i64 (wkC zs a)]) ∧ w'.ownsRow w.heap.size 2 1 u (swR zs a).length ((swR zs a).map (Value.int .i64)) ∧ Below w.heap.size w w' := by
  have HS := Lib.hid hs
  have CK := Lib.hid (checkWalk_any v zs a w hs hn)
  obtain ⟨A0, c0, rfl, -⟩ := hs
  by_cases h : wkC zs a = 0
  · have EC := Lib.hid h
    have E1 := Lib.hid (show swV zs a = farF a (walkI zs a) by unfold swV; rw [if_pos h])
    have E2 := Lib.hid (show swR zs a = walkI zs a by unfold swR; rw [if_pos h])
    obtain ⟨ha, hz, h60⟩ : stopB a = true ∧ zs.all stopB = true ∧ zs.length ≤ 60 := by
      rcases wk_cases zs a with ⟨_, h1, _⟩ | ⟨_, _, h1, _⟩ | ⟨_, _, _, h1, _⟩ | ⟨h1, h2, h3, _⟩
      · omega
      · omega
      · omega
      · exact ⟨h1, h2, h3⟩
    have HA := Lib.hid (stopB_bd ha)
    have HZ := Lib.hid (show ∀ x ∈ zs, 0 ≤ x ∧ x ≤ 999 from fun x hx => stopB_bd (List.all_eq_true.1 hz x hx))
    have WL := Lib.hid (show (walkI zs a).length = zs.length from (walkI_perm zs a).length_eq)
    have WZ := Lib.hid (show (walkI zs a).all stopB = true from List.all_eq_true.2 fun x hx => List.all_eq_true.1 hz x ((walkI_perm zs a).mem_iff.1 hx))
    clear h ha hz
    go_enter Try.func10, Try.ntmps10
    go_wp2_with fail
    refine CK.out.mono ?_
    rintro e w1 ⟨rfl, rfl⟩
    rw [EC.out]
    go_wp2_with fail
    refine (shortestOf_any _ zs a _ HS.out HZ.out HA.out h60).mono ?_
    rintro e w1 ⟨u, rfl, hown, hb⟩
    rw [← WL.out] at hown
    have OW := Lib.hid hown
    have B1 := Lib.hid hb
    clear hown hb
    obtain ⟨Ao, co, rfl⟩ := vlen_own1 OW.out
    go_wp2_with fail
    refine (lengthOf_any _ (walkI zs a) a _ (ownInts OW.out) HA.out WZ.out (by rw [WL.out]; exact h60)).mono ?_
    rintro e w2 ⟨rfl, hb⟩
    have B2 := Lib.hid hb
    clear hb
    go_wp2
    refine bodyPost_ret (v := .tuple #[.slice Ao (walkI zs a).length co, .int .i64 (farF a (walkI zs a)), .int .i64 0]) (by simp [results, Try.results10, go_sem]) rfl ?_
    exact ⟨_, by rw [E1.out, EC.out], by rw [E2.out]; exact ownBelow OW.out B2.out, bnext B1.out B2.out⟩
  · have EC := Lib.hid h
    have E1 := Lib.hid (show swV zs a = 0 by unfold swV; rw [if_neg h])
    have E2 := Lib.hid (show swR zs a = [] by unfold swR; rw [if_neg h])
    have d1 : (wkC zs a != 0) = true := by rw [bne_iff_ne]; exact h
    clear h
    generalize hcc : wkC zs a = cc at d1
    have HCC := Lib.hid hcc
    clear hcc
    go_enter Try.func10, Try.ntmps10
    go_wp2_with fail
    refine CK.out.mono ?_
    rintro e w1 ⟨rfl, rfl⟩
    rw [HCC.out]
    go_wp2
    refine bodyPost_ret (v := .tuple #[.slice none 0 0, .int .i64 0, .int .i64 cc]) (by simp [results, Try.results10, go_sem]) rfl ?_
    exact ⟨_, by rw [E1.out], by rw [E2.out]; exact ⟨rfl, .inl ⟨rfl, rfl⟩⟩, Below.refl _ _⟩
end Go.Proofs.Ytpamflkefgpdpaa
