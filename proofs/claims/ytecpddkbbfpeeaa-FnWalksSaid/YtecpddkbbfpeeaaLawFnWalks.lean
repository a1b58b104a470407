/- FnWalks: no order of stops is shorter than the shortest walk; wanted books stand where it is told; the heaviest books on a width are no wider than it. No condition beyond those that the statement prints. -/
import Derived.Test.YtecpddkbbfpeeaaOpen
import Derived.Test.YtecpddkbbfpeeaaProgF
import Derived.Test.YtecpddkbbfpeeaaWFnWalks
import Derived.Test.YtecpddkbbfpeeaaByt
import Derived.Test.YtecpddkbbfpeeaaNums
namespace Go.Proofs.Ytecpddkbbfpeeaa.fnWalks
set_option linter.unusedSimpArgs false
set_option linter.unusedVariables false
set_option maxRecDepth 100000
open Go.ChangeShapes Go.WideShapes Go.ChangeAt Go.RowKit
open Go.ChangeMaps (open_string shut_string)

set_option maxRecDepth 100000 in
theorem lifted (os : Os) (started : os.Started) (H : Type) (enc : TypeId × Value → H) :
    ReturnsInHanded {} Try.checked os 3 .any (Rows.fnWalksSpec.pre6 enc Try.prog Try.f3 Rows.fnWalksRow.domain false) (Rows.fnWalksSpec.post enc Try.prog Try.f3 false true false false) := by
  refine returnsInHanded_of_change (C := Try.checked) own started (by kernel_rfl) Try.func3
    (ChangeSpec.witness6 (enc := enc) (C := Try.checked) false ⟨#[], #[.slice none 0 0, .slice none 0 0], []⟩ 8 (by kernel_rfl) (by kernel_rfl) (by kernel_rfl) (by kernel_rfl)) ?_
  intro W base args ds gs before hval0 hW _ _
  have hval : ∀ (j : Nat) t v, Try.f3.params[j]? = some t → args[j]? = some v → Value.okWide Try.prog W .any base t v := hval0
  have hW' := hW
  obtain ⟨p, q, hA0, hV, rfl, _, _⟩ := hW
  have hA : DataW.TrodAll enc Try.prog W 0 (fun _ => true) true Try.f3.params.toList args.toList ds p := hA0
  rw [Try.params3] at hA hval
  obtain ⟨v0, vs0, d0, ds0, p0, q0, hargs, rfl, rfl, h0, r0⟩ := trodAll_cons hA
  obtain ⟨v1, vs1, d1, ds1, p1, q1, rfl, rfl, rfl, h1, r1⟩ := trodAll_cons r0
  obtain ⟨rfl, rfl, rfl⟩ := trodAll_nil r1
  obtain rfl : args = #[v0, v1] := by cases args; simp_all
  obtain ⟨rfl, rfl⟩ := trodVars_none hV
  have lt0 : ∀ x ∈ p0, x.block < W.heap.size := by obtain ⟨m, hm⟩ := h0; exact DataW.trod_lt m _ _ _ hm
  have k0 := h0
  obtain ⟨zs0, wf0, sl0, ml0⟩ := ints_of_arg Try.underlying22 Try.underlying5 (by kernel_rfl) (hval 0 22 v0 rfl rfl) h0
  have lt1 : ∀ x ∈ p1, x.block < W.heap.size := by obtain ⟨m, hm⟩ := h1; exact DataW.trod_lt m _ _ _ hm
  have k1 := h1
  obtain ⟨zs1, wf1, sl1, ml1⟩ := ints_of_arg Try.underlying22 Try.underlying5 (by kernel_rfl) (hval 1 22 v1 rfl rfl) h1
  clear hA0 hval0
  refine (wFnWalks v0 zs0 (bytes_wf wf0) v1 zs1 (bytes_wf wf1) W sl0 ml0 sl1 ml1).mono fun e W' ⟨he, bel⟩ => ?_
  subst he
  exact ⟨_, rfl, _, _, _, [], _, [], hW', trodAll_mk1 (shut_bool Try.underlying4 _), (trodAll_cons_mk (Below.trod laidOut (by kernel_rfl) (of_decide_eq_true (by kernel_rfl)) k0 bel lt0) (trodAll_cons_mk (Below.trod laidOut (by kernel_rfl) (of_decide_eq_true (by kernel_rfl)) k1 bel lt1) trodAll_mk0)), rfl, bel.frame _, fun h => by cases h⟩

theorem u1 : Try.pinned.checked.prog.inPlace 3 = Rows.fnWalksRow.inPlace := by kernel_rfl
theorem u2 : Try.pinned.checked.prog.unfollowed 3 = Rows.fnWalksRow.unfollowed := by kernel_rfl
theorem u3 : Try.pinned.checked.prog.recurses 3 = Rows.fnWalksRow.recurses := by kernel_rfl
theorem u4 : Try.pinned.checked.prog.varsNamed 3 = Rows.fnWalksRow.named := by kernel_rfl
theorem closedX : joinedFacts Try.pinned.checked.prog 3 Try.f3 Rows.fnWalksSpec Rows.fnWalksRow = true := by
  unfold joinedFacts
  rw [pf1, pf2, pf3, pf4, pf6, pf7, pf8, u1, u2, u3, u4]
  kernel_rfl

theorem over : Rows.fnWalksRow.holds Try.pinned (OpenSpec.ofChange Rows.fnWalksSpec) :=
  OpenClaim.holds_of_wide 3 Try.f3 rfl rfl rfl rfl rfl rfl rfl ⟨rfl, rfl, rfl, rfl, rfl⟩ rfl rfl rfl rfl rfl (by kernel_rfl) Try.func3 closedX
    (of_decide_eq_true (by kernel_rfl)) (by unfold Func.isWrapper; first | (rw [if_pos (by decide +kernel)]; kernel_rfl) | (rw [if_neg (by decide +kernel)]; exact ⟨rfl, rfl⟩))
    (fun os started H enc _ => lifted os started H enc)

theorem proved : Rows.FnWalksSaid := over
end Go.Proofs.Ytecpddkbbfpeeaa.fnWalks
