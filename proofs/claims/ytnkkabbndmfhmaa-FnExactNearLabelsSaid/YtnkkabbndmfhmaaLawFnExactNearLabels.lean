/- The labels that differ in one byte from a text, the program tells as the model does: the law of NearLabels returns true. No condition beyond those that the statement prints. -/
import Derived.Test.YtnkkabbndmfhmaaOpen
import Derived.Test.YtnkkabbndmfhmaaProgF
import Derived.Test.YtnkkabbndmfhmaaWNearLabels
namespace Go.Proofs.Ytnkkabbndmfhmaa.fnExactNearLabels
set_option linter.unusedSimpArgs false
set_option linter.unusedVariables false
set_option maxRecDepth 100000
open Go.ChangeShapes Go.WideShapes Go.ChangeAt Go.RowKit
open Go.ChangeMaps (open_string shut_string)

set_option maxRecDepth 100000 in
theorem lifted (os : Os) (started : os.Started) (H : Type) (enc : TypeId × Value → H) :
    ReturnsInHanded {} Try.checked os 5 .any (Rows.fnExactNearLabelsSpec.pre6 enc Try.prog Try.f5 Rows.fnExactNearLabelsRow.domain false) (Rows.fnExactNearLabelsSpec.post enc Try.prog Try.f5 false true false false) := by
  refine returnsInHanded_of_change (C := Try.checked) own started (by kernel_rfl) Try.func5
    (ChangeSpec.witness6 (enc := enc) (C := Try.checked) false ⟨#[], #[.string ByteArray.empty], []⟩ 8 (by kernel_rfl) (by kernel_rfl) (by kernel_rfl) (by kernel_rfl)) ?_
  intro W base args ds gs before hval0 hW _ _
  have hval : ∀ (j : Nat) t v, Try.f5.params[j]? = some t → args[j]? = some v → Value.okWide Try.prog W .any base t v := hval0
  have hW' := hW
  obtain ⟨p, q, hA0, hV, rfl, _, _⟩ := hW
  have hA : DataW.TrodAll enc Try.prog W 0 (fun _ => true) true Try.f5.params.toList args.toList ds p := hA0
  rw [Try.params5] at hA hval
  obtain ⟨v0, vs0, d0, ds0, p0, q0, hargs, rfl, rfl, h0, r0⟩ := trodAll_cons hA
  obtain ⟨rfl, rfl, rfl⟩ := trodAll_nil r0
  obtain rfl : args = #[v0] := by cases args; simp_all
  obtain ⟨rfl, rfl⟩ := trodVars_none hV
  have lt0 : ∀ x ∈ p0, x.block < W.heap.size := by obtain ⟨m, hm⟩ := h0; exact DataW.trod_lt m _ _ _ hm
  have k0 := h0
  obtain ⟨s0, rfl, -, -, wf0⟩ := open_string Try.underlying9 (hval 0 9 v0 rfl rfl) h0
  clear hA0 hval0
  refine (walkNearLabels s0 wf0 W ).mono fun e W' ⟨he, bel⟩ => ?_
  subst he
  exact ⟨_, rfl, _, _, _, [], _, [], hW', trodAll_mk1 (shut_bool Try.underlying4 _), (trodAll_cons_mk (Below.trod laidOut (by kernel_rfl) (of_decide_eq_true (by kernel_rfl)) k0 bel lt0) trodAll_mk0), rfl, bel.frame _, fun h => by cases h⟩

theorem u1 : Try.pinned.checked.prog.inPlace 5 = Rows.fnExactNearLabelsRow.inPlace := by kernel_rfl
theorem u2 : Try.pinned.checked.prog.unfollowed 5 = Rows.fnExactNearLabelsRow.unfollowed := by kernel_rfl
theorem u3 : Try.pinned.checked.prog.recurses 5 = Rows.fnExactNearLabelsRow.recurses := by kernel_rfl
theorem u4 : Try.pinned.checked.prog.varsNamed 5 = Rows.fnExactNearLabelsRow.named := by kernel_rfl
theorem closedX : joinedFacts Try.pinned.checked.prog 5 Try.f5 Rows.fnExactNearLabelsSpec Rows.fnExactNearLabelsRow = true := by
  unfold joinedFacts
  rw [pf1, pf2, pf3, pf4, pf6, pf7, pf8, u1, u2, u3, u4]
  kernel_rfl

theorem over : Rows.fnExactNearLabelsRow.holds Try.pinned (OpenSpec.ofChange Rows.fnExactNearLabelsSpec) :=
  OpenClaim.holds_of_wide 5 Try.f5 rfl rfl rfl rfl rfl rfl rfl ⟨rfl, rfl, rfl, rfl, rfl⟩ rfl rfl rfl rfl rfl (by kernel_rfl) Try.func5 closedX
    (of_decide_eq_true (by kernel_rfl)) (by unfold Func.isWrapper; first | (rw [if_pos (by decide +kernel)]; kernel_rfl) | (rw [if_neg (by decide +kernel)]; exact ⟨rfl, rfl⟩))
    (fun os started H enc _ => lifted os started H enc)

theorem proved : Rows.FnExactNearLabelsSaid := over
end Go.Proofs.Ytnkkabbndmfhmaa.fnExactNearLabels
