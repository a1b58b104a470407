/- Whether a copy is as told, by the program: contracts. Condition: no longer than slices can be, numbers within their kinds, queues no longer than their capacity. -/
import Derived.Test.YtmafjncaigllbabDkI2
import Derived.Laws.StructEq
import Derived.ChangeKeysEq
namespace Go.Proofs.Ytmafjncaigllbab
set_option linter.unusedSimpArgs false
set_option linter.unusedVariables false
set_option maxRecDepth 100000
open Go.RowKit

set_option maxHeartbeats 2000000 in
theorem loanOf_any (c : Cp) (wf : c.Wf) (u : Value) (w : World) :
    Calls Try.prog 45 #[.agg #[.int .i8 c.st, .int .i8 c.who, .int .i16 c.due, .int .i8 c.ren, u]] w fun e w' => e = .returned (.agg #[.int .i64 c.st, .int .i64 c.who, .int .i64 c.due, .int .i64 c.ren]) ∧ Below w.heap.size w w' := by
  obtain ⟨⟨s1, s2⟩, ⟨w1, w2⟩, ⟨d1, d2⟩, ⟨r1, r2⟩, -⟩ := wf
  go_enter Try.func45, Try.ntmps45
  go_wp2
  go_returns
  exact ⟨rfl, by go_grown⟩

theorem eqLoan (a0 a1 a2 a3 b0 b1 b2 b3 : Int) (r : Bool) (hr : decide (a0 = b0 ∧ a1 = b1 ∧ a2 = b2 ∧ a3 = b3) = r) (w : World) : (binOp .eql 44 (.agg #[.int .i64 a0, .int .i64 a1, .int .i64 a2, .int .i64 a3]) (.agg #[.int .i64 b0, .int .i64 b1, .int .i64 b2, .int .i64 b3])).run Try.prog w = .ok (.bool r) w := by
  have hS : Try.prog.underlying 44 = some (.struct (Try.prog.fieldsOf 44)) := by kernel_rfl
  have hp : Try.prog.stoodInHeld 44 = false := by kernel_rfl
  rw [run_eql_struct, show (10000 : Nat) = 9999 + 1 from rfl, run_equalIn_agg w 9999 44 _ _ hS hp]
  subst hr
  simp only [Program.fieldsOf, Try.underlying44]
  go_simp
  by_cases h0 : a0 = b0 <;> by_cases h1 : a1 = b1 <;> by_cases h2 : a2 = b2 <;> by_cases h3 : a3 = b3
  all_goals simp [h0, h1, h2, h3]

set_option maxHeartbeats 8000000 in
theorem validCopy_any (c : Cp) (wf : c.Wf) (day : Int) (hd : -32768 ≤ day ∧ day ≤ 32767) (u : Value) (w : World) (hq : IntsOf .i8 w u c.q) (hcap : CapOk u) (hn : c.q.length ≤ maxLen) :
    Calls Try.prog 43 #[.agg #[.int .i8 c.st, .int .i8 c.who, .int .i16 c.due, .int .i8 c.ren, u], .int .i16 day] w fun e w' => e = .returned (.bool (cpB c day)) ∧ Below w.heap.size w w' := by
  have HQ := Lib.hid hq
  obtain ⟨A, kq, rfl, -⟩ := hq
  have WF := Lib.hid wf
  have HC := Lib.hid hcap
  have ML := Lib.hid hn
  obtain ⟨⟨s1, s2⟩, ⟨w1, w2⟩, ⟨d1, d2⟩, ⟨r1, r2⟩, -⟩ := wf
  obtain ⟨y1, y2⟩ := hd
  unfold maxLen at hn
  clear hcap
  obtain ⟨st, who, due, ren, q⟩ := c
  dsimp only at *
  have G0 := Lib.hid (show Below w.heap.size w (w.alloc (.cells #[.int .i8 st, .int .i8 who, .int .i16 due, .int .i8 ren, .slice A q.length kq] 61)) from (Below.refl _ _).alloc (Nat.le_refl _) _)
  have X0 := Lib.hid (heap_alloc_new w (.cells #[.int .i8 st, .int .i8 who, .int .i16 due, .int .i8 ren, .slice A q.length kq] 61))
  have Y0 := Lib.hid (show w.heap.size < (w.alloc (.cells #[.int .i8 st, .int .i8 who, .int .i16 due, .int .i8 ren, .slice A q.length kq] 61)).heap.size by simp)
  by_cases h0 : st = 0
  · subst h0
    have E0 := Lib.hid (cp_shelf (c := ⟨0, who, due, ren, q⟩) day rfl)
    go_enter Try.func43, Try.ntmps43
    go_wp2_with fail
    generalize World.alloc w _ = W at G0 X0 Y0 ⊢
    refine (loanOf_any ⟨0, who, due, ren, q⟩ WF.out _ _).mono ?_
    rintro e w1 ⟨rfl, h1⟩
    dsimp only
    have B1 := Lib.hid (bnext G0.out h1)
    have X1 := (h1.block w.heap.size Y0.out).trans X0.out
    have y4 : w1.cell? ⟨w.heap.size, 4, none⟩ = some (.slice A q.length kq) := cell_of_row w1 _ 4 _ _ _ X1
    clear X1 h1
    by_cases kk : who = 0 ∧ due = 0 ∧ ren = 0
    · have EL := eqLoan 0 who due ren 0 0 0 0 true (decide_eq_true ⟨rfl, kk⟩)
      by_cases k3 : q.length = 0
      · have E := Lib.hid (show cpB ⟨0, who, due, ren, q⟩ day = true by rw [E0.out]; simp [kk, k3])
        have k3d : ((q.length : Int) == 0) = true := by rw [beq_iff_eq]; omega
        clear kk k3
        go_wp2
        go_ret
        exact ⟨by rw [E.out]; rfl, B1.out⟩
      · have E := Lib.hid (show cpB ⟨0, who, due, ren, q⟩ day = false by rw [E0.out]; simp [k3])
        have k3d : ((q.length : Int) == 0) = false := by rw [beq_eq_false_iff_ne]; omega
        clear kk k3
        go_wp2
        go_ret
        exact ⟨by rw [E.out]; rfl, B1.out⟩
    · have EL := eqLoan 0 who due ren 0 0 0 0 false (decide_eq_false (fun h => kk h.2))
      have E := Lib.hid (show cpB ⟨0, who, due, ren, q⟩ day = false by rw [E0.out]; exact decide_eq_false (fun h => kk ⟨h.1, h.2.1, h.2.2.1⟩))
      clear kk
      go_wp2
      go_ret
      exact ⟨by rw [E.out]; rfl, B1.out⟩
  · by_cases h1 : st = 1
    · subst h1
      have E0 := Lib.hid (cp_lent (c := ⟨1, who, due, ren, q⟩) day rfl)
      go_enter Try.func43, Try.ntmps43
      go_wp2_with fail
      generalize World.alloc w _ = W at G0 X0 Y0 ⊢
      refine (validAway_any ⟨1, who, due, ren, q⟩ WF.out _ _ (HQ.out.below G0.out) HC.out ML.out).mono ?_
      rintro e w1 ⟨rfl, h1⟩
      have B1 := Lib.hid (bnext G0.out h1)
      have X1 := (h1.block w.heap.size Y0.out).trans X0.out
      have y3 : w1.cell? ⟨w.heap.size, 3, none⟩ = some (.int .i8 ren) := cell_of_row w1 _ 3 _ _ _ X1
      clear X1 h1
      generalize awayB _ = r at E0 ⊢
      cases r
      · go_wp2
        go_ret
        exact ⟨by rw [E0.out]; rfl, B1.out⟩
      · go_wp2_with (go_at_call 47; refine (within8s_any _ _ _ _).mono ?_; rintro e w' ⟨rfl, rfl⟩)
        go_ret
        exact ⟨by rw [E0.out]; rfl, B1.out⟩
    · by_cases h2 : st = 2
      · subst h2
        have E0 := Lib.hid (cp_held (c := ⟨2, who, due, ren, q⟩) day rfl)
        go_enter Try.func43, Try.ntmps43
        go_wp2_with fail
        generalize World.alloc w _ = W at G0 X0 Y0 ⊢
        refine (validAway_any ⟨2, who, due, ren, q⟩ WF.out _ _ (HQ.out.below G0.out) HC.out ML.out).mono ?_
        rintro e w1 ⟨rfl, h1⟩
        have B1 := Lib.hid (bnext G0.out h1)
        have X1 := (h1.block w.heap.size Y0.out).trans X0.out
        have y2' : w1.cell? ⟨w.heap.size, 2, none⟩ = some (.int .i16 due) := cell_of_row w1 _ 2 _ _ _ X1
        have y3 : w1.cell? ⟨w.heap.size, 3, none⟩ = some (.int .i8 ren) := cell_of_row w1 _ 3 _ _ _ X1
        clear X1 h1
        generalize awayB _ = r at E0 ⊢
        cases r
        · go_wp2
          go_ret
          exact ⟨by rw [E0.out]; rfl, B1.out⟩
        · by_cases v0 : ren = 0
          · have E := Lib.hid (show cpB ⟨2, who, due, ren, q⟩ day = decide (day ≤ due) by rw [E0.out]; simp [v0])
            rw [v0] at y3
            clear v0
            go_wp2
            go_ret
            exact ⟨by rw [E.out]; first | rfl | simp, B1.out⟩
          · have E := Lib.hid (show cpB ⟨2, who, due, ren, q⟩ day = false by rw [E0.out]; simp [v0])
            go_wp2
            go_ret
            exact ⟨by rw [E.out]; first | rfl | simp [v0], B1.out⟩
      · have E := Lib.hid (cp_none (c := ⟨st, who, due, ren, q⟩) day h0 h1 h2)
        go_enter Try.func43, Try.ntmps43
        go_wp2
        go_ret
        exact ⟨by rw [E.out]; rfl, G0.out⟩
end Go.Proofs.Ytmafjncaigllbab
