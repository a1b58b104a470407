/- HeightsOf answers as the model does, and writes into no argument. No condition beyond those that the statement prints. -/
import Derived.Test.YtjeflpohokjjkaaOpen
import Derived.Test.YtjeflpohokjjkaaProgF
import Derived.Test.YtjeflpohokjjkaaWHeightsOf
namespace Go.Proofs.Ytjeflpohokjjkaa.fnExactHeightsOf
set_option linter.unusedSimpArgs false
set_option linter.unusedVariables false
set_option maxRecDepth 100000
open Go.ChangeShapes Go.WideShapes Go.ChangeAt Go.RowKit
open Go.ChangeMaps (open_string shut_string)

set_option maxRecDepth 100000 in
theorem lifted (os : Os) (started : os.Started) (H : Type) (enc : TypeId × Value → H) :
    ReturnsInHanded {} Try.checked os 3 .any (Rows.fnExactHeightsOfSpec.pre6 enc Try.prog Try.f3 Rows.fnExactHeightsOfRow.domain false) (Rows.fnExactHeightsOfSpec.post enc Try.prog Try.f3 false true false false) := by
  refine returnsInHanded_of_change (C := Try.checked) own started (by kernel_rfl) Try.func3
    (ChangeSpec.witness6 (enc := enc) (C := Try.checked) false ⟨#[], #[.agg #[.int .i16 0, .int .i16 0, .int .i16 0], .slice none 0 0], []⟩ 8 (by kernel_rfl) (by kernel_rfl) (by kernel_rfl) (by kernel_rfl)) ?_
  intro W base args ds gs before hval0 hW _ _
  have hval : ∀ (j : Nat) t v, Try.f3.params[j]? = some t → args[j]? = some v → Value.okWide Try.prog W .any base t v := hval0
  have hW' := hW
  obtain ⟨p, q, hA0, hV, rfl, _, _⟩ := hW
  have hA : DataW.TrodAll enc Try.prog W 0 (fun _ => true) true Try.f3.params.toList args.toList ds p := hA0
  rw [Try.params3] at hA hval
  obtain ⟨v0, vs0, d0, ds0, p0, q0, hargs, rfl, rfl, h0, r0⟩ := trodAll_cons hA
  obtain ⟨v1, vs1, d1, ds1, p1, q1, rfl, rfl, rfl, h1, r1⟩ := trodAll_cons r0
  obtain ⟨rfl, rfl, rfl⟩ := trodAll_nil r1
  obtain rfl : args = #[v0, v1] := by cases args; simp_all
  obtain ⟨rfl, rfl⟩ := trodVars_none hV
  have lt0 : ∀ x ∈ p0, x.block < W.heap.size := by obtain ⟨m, hm⟩ := h0; exact DataW.trod_lt m _ _ _ hm
  have k0 := h0
  obtain ⟨p0x, wf0, rfl⟩ := pegs_of_arg (hval 0 24 v0 rfl rfl) h0
  have lt1 : ∀ x ∈ p1, x.block < W.heap.size := by obtain ⟨m, hm⟩ := h1; exact DataW.trod_lt m _ _ _ hm
  have k1 := h1
  obtain ⟨xs1, wf1, sl1, ml1⟩ := slice_of_arg (hval 1 25 v1 rfl rfl) h1
  clear hA0 hval0
  refine (walkHeightsOf p0x wf0 v1 xs1 wf1 W sl1 ml1).mono fun e W' ⟨he, bel⟩ => ?_
  subst he
  exact ⟨_, rfl, _, _, _, [], _, [], hW', trodAll_mk1 (shut_bool Try.underlying4 _), (trodAll_cons_mk (Below.trod laidOut (by kernel_rfl) (of_decide_eq_true (by kernel_rfl)) k0 bel lt0) (trodAll_cons_mk (Below.trod laidOut (by kernel_rfl) (of_decide_eq_true (by kernel_rfl)) k1 bel lt1) trodAll_mk0)), rfl, bel.frame _, fun h => by cases h⟩

theorem u1 : Try.pinned.checked.prog.inPlace 3 = Rows.fnExactHeightsOfRow.inPlace := by kernel_rfl
theorem u2 : Try.pinned.checked.prog.unfollowed 3 = Rows.fnExactHeightsOfRow.unfollowed := by kernel_rfl
theorem u3 : Try.pinned.checked.prog.recurses 3 = Rows.fnExactHeightsOfRow.recurses := by kernel_rfl
theorem u4 : Try.pinned.checked.prog.varsNamed 3 = Rows.fnExactHeightsOfRow.named := by kernel_rfl
theorem closedX : joinedFacts Try.pinned.checked.prog 3 Try.f3 Rows.fnExactHeightsOfSpec Rows.fnExactHeightsOfRow = true := by
  unfold joinedFacts
  rw [pf1, pf2, pf3, pf4, pf6, pf7, pf8, u1, u2, u3, u4]
  kernel_rfl

theorem over : Rows.fnExactHeightsOfRow.holds Try.pinned (OpenSpec.ofChange Rows.fnExactHeightsOfSpec) :=
  OpenClaim.holds_of_wide 3 Try.f3 rfl rfl rfl rfl rfl rfl rfl ⟨rfl, rfl, rfl, rfl, rfl⟩ rfl rfl rfl rfl rfl (by kernel_rfl) Try.func3 closedX
    (of_decide_eq_true (by kernel_rfl)) (by unfold Func.isWrapper; first | (rw [if_pos (by decide +kernel)]; kernel_rfl) | (rw [if_neg (by decide +kernel)]; exact ⟨rfl, rfl⟩))
    (fun os started H enc _ => lifted os started H enc)

theorem proved : Rows.FnExactHeightsOfSaid := over
end Go.Proofs.Ytjeflpohokjjkaa.fnExactHeightsOf
