/- Whether a list is sorted, by the program: a contract. Condition: as for XSorted. -/
import Derived.Test.YtkclobdealnkhaaDoorSorted
import Derived.Stop.IfaceNil
namespace Go.Proofs.YtkclobdealnkhaaDoor
set_option linter.unusedSimpArgs false
set_option linter.unusedVariables false
set_option maxRecDepth 100000
open Go.RowKit

theorem cell_new1 (w : World) (v : Value) (t : TypeId) (r : Nat × Nat) : (w.alloc (.cells #[v] t r)).cell? ⟨w.heap.size, 0, none⟩ = some v := cell_of_row _ _ 0 _ _ _ (heap_alloc_new w _)

set_option maxHeartbeats 4000000 in
theorem isSorted_any (v : Value) (xs : List Bk) (wf : ∀ b ∈ xs, b.Wf) (w : World) (s i y : Addr) (he : Errs w s i y) (hs : SliceOf w v xs) (hn : xs.length ≤ 1048576) (hm : xs.length ≤ maxLen) :
    Calls Tryd.prog 43 #[v] w fun e w' => e = .returned (.tuple #[.bool (srt xs), .int .i64 (srtCode xs)]) ∧ Below w.heap.size w w' := by
  have HS := Lib.hid hs
  have WF := Lib.hid wf
  have HE := Lib.hid he
  obtain ⟨A0, c0, rfl, -⟩ := hs
  clear he wf
  have GA := Lib.hid (fun o => (Below.refl w.heap.size w).alloc (Nat.le_refl _) o)
  cases hk : okB xs
  · have E0 := Lib.hid (show srt xs = false by unfold srt; rw [hk]; rfl)
    have E1 := Lib.hid (show srtCode xs = 1 by unfold srtCode; rw [hk]; rfl)
    go_enter Tryd.func43, Tryd.ntmps43
    go_wp2_with fail
    refine (checkSorted_invalid _ xs _ w.heap.size s i y (HE.out.below (GA.out _)) (cell_new1 w _ _ _) (by simp) (HS.out.below (GA.out _)) hm hk).mono ?_
    rintro e w1 ⟨rfl, h1⟩
    have g1 := bnext (GA.out _) h1
    have X1 := Lib.hid (HE.out.below g1)
    have cs := X1.out.cs
    go_wp2_with fail
    refine (is_other i s _ _ _ _ _ (fun e => X1.out.si e.symm) X1.out.hi.choose_spec.choose_spec X1.out.hs.choose_spec.choose_spec).mono ?_
    rintro e w2 ⟨rfl, rfl⟩
    go_wp2_with fail
    have isi : Tryd.prog.isIface 111 = true := by kernel_rfl
    have en := fun (X : World) (v : Value) => run_eql_iface_nil (P := Tryd.prog) (w := X) 111 isi 181 v
    have X2 := Lib.hid (fun (X : World) (h : X = w2.drew) => show Errs X s i y from h ▸ X1.out.below ((Below.refl _ _).drew))
    go_region_with (go_at_call 74; refine (codeOf_invalid _ s i y (X2.out _ rfl)).mono ?_; rintro e w' ⟨rfl, rfl⟩)
    all_goals
      go_wp2
      go_ret2
      exact ⟨by rw [E0.out, E1.out]; rfl, g1.drew⟩
  · have E1 := Lib.hid (show srtCode xs = 0 by unfold srtCode; rw [hk]; rfl)
    by_cases hl : (runs xs).length < 2
    · have E0 := Lib.hid (show srt xs = true by
        unfold srt; rw [hk]
        rcases none_or xs xs.length with hno | ⟨k, k1, k2, k3, k4⟩
        · rw [firstOut_none hno]; rfl
        · obtain ⟨r, hr⟩ := runs_out k1 k2 k3 k4
          rw [hr] at hl; simp at hl; omega)
      go_enter Tryd.func43, Tryd.ntmps43
      go_wp2_with fail
      refine (checkSorted_valid _ xs WF.out _ w.heap.size s i y (HE.out.below (GA.out _)) (cell_new1 w _ _ _) (by simp) (HS.out.below (GA.out _)) hn hm hk).mono ?_
      rintro e w1 ⟨rfl, h1⟩
      rw [if_pos hl]
      have g1 := bnext (GA.out _) h1
      have X1 := Lib.hid (HE.out.below g1)
      have cs := X1.out.cs
      go_wp2_with fail
      refine (is_nil s _).mono ?_
      rintro e w2 ⟨rfl, rfl⟩
      go_wp2_with fail
      have isi : Tryd.prog.isIface 111 = true := by kernel_rfl
      have en := fun (X : World) => run_eql_nil_nil_at (P := Tryd.prog) (w := X) 111 isi
      go_region_with (go_at_call 74; refine (codeOf_nil _).mono ?_; rintro e w' ⟨rfl, rfl⟩)
      all_goals
        go_wp2
        go_ret2
        exact ⟨by rw [E0.out, E1.out]; rfl, g1.drew⟩
    · have E0 := Lib.hid (show srt xs = false by
        unfold srt; rw [hk]
        rcases none_or xs xs.length with hno | ⟨k, k1, k2, k3, k4⟩
        · exact absurd (runs_none hno) hl
        · rw [firstOut_at k3 k1 k2 k4]; simp)
      go_enter Tryd.func43, Tryd.ntmps43
      go_wp2_with fail
      refine (checkSorted_valid _ xs WF.out _ w.heap.size s i y (HE.out.below (GA.out _)) (cell_new1 w _ _ _) (by simp) (HS.out.below (GA.out _)) hn hm hk).mono ?_
      rintro e w1 ⟨rfl, h1⟩
      rw [if_neg hl]
      have g1 := bnext (GA.out _) h1
      have X1 := Lib.hid (HE.out.below g1)
      have cs := X1.out.cs
      go_wp2_with fail
      refine (is_same s _).mono ?_
      rintro e w2 ⟨rfl, rfl⟩
      go_wp2
      go_ret2
      exact ⟨by rw [E0.out, E1.out]; rfl, g1⟩

end Go.Proofs.YtkclobdealnkhaaDoor
