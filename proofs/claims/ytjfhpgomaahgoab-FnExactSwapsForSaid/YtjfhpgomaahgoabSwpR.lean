/- SwapsFor, its list read back: contracts of the model and of the program. Condition: lists no longer than the law tests, whose numbers lie within their kinds. -/
import Derived.Test.YtjfhpgomaahgoabSwpI
import Derived.Test.YtjfhpgomaahgoabMvR
namespace Go.Proofs.Ytjfhpgomaahgoab
set_option linter.unusedSimpArgs false
set_option linter.unusedVariables false
set_option maxRecDepth 100000
open Go.RowKit Stab

def sfI (xs : List Bk) : List (Int × Int) := mvI (sfL xs)
theorem sfI_le {xs : List Bk} (wf : ∀ b ∈ xs, b.Wf) : (sfI xs).length ≤ 60 := by
  unfold sfI sfL
  rw [mvI_length]
  cases h : okB xs
  · exact Nat.zero_le _
  · have h1 := ok60 h
    have h2 := swG_le (srt xs) 0 (rngI xs.length)
    have h3 := srt_length wf
    show (swL xs).length ≤ 60
    unfold swL
    omega

theorem swapsForR_any (v0 : Value) (xs : List Bk) (wf : ∀ b ∈ xs, b.Wf) (w : World) (hs : SliceOf w v0 xs) (hm : xs.length ≤ maxLen) :
    Calls Try.prog 44 #[v0] w fun e w' => ∃ v, e = .returned (.tuple #[v, .int .i64 (sfC xs)]) ∧ ResM w' w.heap.size v (sfI xs) ∧ Below w.heap.size w w' :=
  (swapsFor_any v0 xs wf w hs hm).mono fun _ _ ⟨v, h1, h2, h3⟩ => ⟨v, h1, ResM.of h2, h3⟩

set_option maxHeartbeats 2000000 in
theorem specSwapsFor_any (v0 : Value) (xs : List Bk) (wf : ∀ b ∈ xs, b.Wf) (w : World) (hs : SliceOf w v0 xs) (hm : xs.length ≤ maxLen) :
    Calls Try.prog 43 #[v0] w fun e w' => ∃ v, e = .returned (.tuple #[v, .int .i64 (sfC xs)]) ∧ ResM w' w.heap.size v (sfI xs) ∧ Below w.heap.size w w' := by
  have HS := Lib.hid hs
  have WF := Lib.hid wf
  clear hs wf
  cases h1 : okB xs
  · have E := Lib.hid (show sfC xs = 1 by unfold sfC; rw [h1]; rfl)
    have E2 := Lib.hid (show sfI xs = [] by unfold sfI sfL; rw [h1]; rfl)
    go_enter Try.func43, Try.ntmps43
    go_wp2_with fail
    refine (l01Ok_any v0 xs WF.out _ HS.out hm).mono ?_
    rintro e w1 ⟨rfl, g1⟩
    rw [h1]
    have g1a : Below w1.heap.size w1 (w1.alloc (.cells #[] 31)) := (Below.refl _ _).alloc (Nat.le_refl _) _
    have G2 := Lib.hid (bnext g1 g1a)
    have H0 := Lib.hid (show ResM (w1.alloc (.cells #[] 31)) w.heap.size (.slice (some ⟨w1.heap.size, 0, none⟩) 0 0) [] from
      .inr ⟨w1.heap.size, 0, rfl, g1.size, #[], heap_alloc_new w1 _, Nat.zero_le _, fun i hi => absurd hi (Nat.not_lt_zero _)⟩)
    clear g1a
    go_wp2
    go_ret2
    exact ⟨_, by rw [E.out]; rfl, by rw [E2.out]; exact H0.out, G2.out⟩
  · have E := Lib.hid (show sfC xs = 0 by unfold sfC; rw [h1]; rfl)
    have E2 := Lib.hid (show sfI xs = mvI (swL xs) by unfold sfI sfL; rw [h1]; rfl)
    have h60 := ok60 h1
    go_enter Try.func43, Try.ntmps43
    go_wp2_with fail
    refine (l01Ok_any v0 xs WF.out _ HS.out hm).mono ?_
    rintro e w1 ⟨rfl, g1⟩
    rw [h1]
    go_wp2_with fail
    refine (l03Swaps_any v0 xs WF.out _ (HS.out.below g1) h60).mono ?_
    rintro e w2 ⟨v, rfl, ho, g2⟩
    have O := Lib.hid (ResM.of (ownMono ho g1.size))
    clear ho
    have G2 := Lib.hid (bnext g1 g2)
    go_wp2
    go_ret2
    exact ⟨_, by rw [E.out]; rfl, by rw [E2.out]; exact O.out, G2.out⟩

end Go.Proofs.Ytjfhpgomaahgoab
