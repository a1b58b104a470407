/- Whether a copy that is lent or held is as told, by the program: a contract. Condition: no longer than slices can be, numbers within their kinds, queues no longer than their capacity. -/
import Derived.Test.YtmafjncaigllbabDkI
namespace Go.Proofs.Ytmafjncaigllbab
set_option linter.unusedSimpArgs false
set_option linter.unusedVariables false
set_option maxRecDepth 100000
open Go.RowKit

set_option maxHeartbeats 8000000 in
theorem validAway_any (c : Cp) (wf : c.Wf) (u : Value) (w : World) (hq : IntsOf .i8 w u c.q) (hcap : CapOk u) (hn : c.q.length ≤ maxLen) :
    Calls Try.prog 46 #[.agg #[.int .i8 c.st, .int .i8 c.who, .int .i16 c.due, .int .i8 c.ren, u]] w fun e w' => e = .returned (.bool (awayB c)) ∧ Below w.heap.size w w' := by
  have HQ := Lib.hid hq
  obtain ⟨A, kq, rfl, hat⟩ := hq
  have hcp : c.q.length ≤ kq := hcap _ _ _ rfl
  obtain ⟨-, ⟨w1, w2⟩, -, -, hw⟩ := wf
  have HW := Lib.hid hw
  have HA := Lib.hid hat
  unfold maxLen at hn
  clear hw hat hcap
  cases a1 : perB c.who
  · have E := Lib.hid (away_f (fun h : Away c => by have := h.who; rw [a1] at this; cases this))
    go_enter Try.func46, Try.ntmps46
    go_wp2_with (go_at_call 37; refine (isPerson_any _ _).mono ?_; rintro e w' ⟨rfl, rfl⟩)
    go_ret
    exact ⟨by rw [E.out]; rfl, by go_grown⟩
  · cases a2 : inB c.due 0 10028
    · have E := Lib.hid (away_f (fun h : Away c => by have := h.due; rw [a2] at this; cases this))
      go_enter Try.func46, Try.ntmps46
      go_wp2_with (first | (go_at_call 37; refine (isPerson_any _ _).mono ?_; rintro e w' ⟨rfl, rfl⟩) | (go_at_call 42; refine (w16_any _ _ _ _).mono ?_; rintro e w' ⟨rfl, rfl⟩))
      go_ret
      exact ⟨by rw [E.out]; rfl, by go_grown⟩
    · by_cases a3 : c.q.length ≤ 4
      · have a3e : ¬ (4 : Int) < (c.q.length : Int) := by omega
        have AW := Lib.hid (fun h1 h2 => away_t (c := c) ⟨a1, a2, a3, h1, h2⟩)
        go_enter Try.func46, Try.ntmps46
        go_wp2_with (first | (go_at_call 37; refine (isPerson_any _ _).mono ?_; rintro e w' ⟨rfl, rfl⟩) | (go_at_call 42; refine (w16_any _ _ _ _).mono ?_; rintro e w' ⟨rfl, rfl⟩))
        have G0 := Lib.hid (show Below w.heap.size w (w.alloc (.cells #[.int .i8 c.st, .int .i8 c.who, .int .i16 c.due, .int .i8 c.ren, .slice A c.q.length kq] 61)) from (Below.refl _ _).alloc (Nat.le_refl _) _)
        have X0 := Lib.hid (heap_alloc_new w (.cells #[.int .i8 c.st, .int .i8 c.who, .int .i16 c.due, .int .i8 c.ren, .slice A c.q.length kq] 61))
        generalize World.alloc w _ = W at G0 X0 ⊢
        have y1 : W.cell? ⟨w.heap.size, 1, none⟩ = some (.int .i8 c.who) := cell_of_row W _ 1 _ _ _ X0.out
        have y4 : W.cell? ⟨w.heap.size, 4, none⟩ = some (.slice A c.q.length kq) := cell_of_row W _ 4 _ _ _ X0.out
        clear a1 a2
        go_loopw [25] (fun i wr => ∃ k : Nat, k ≤ c.q.length ∧ i = .int .i64 k ∧ QTo c.q k ∧ NoTo c.q c.who k ∧ wr = W) (fun i _ => c.q.length - (intOf i).toNat)
        case atStart => exact ⟨0, Nat.zero_le _, rfl, QTo.zero _, NoTo.zero _ _, rfl⟩
        case round =>
          obtain ⟨k, hk, rfl, hqt, hno, rfl⟩ := hrel
          have QT := Lib.hid hqt
          have NT := Lib.hid hno
          clear hqt hno
          by_cases hlt : k < c.q.length
          · obtain ⟨g, o, rfl, hg, hat⟩ := HA.out (by omega)
            have hga := Nat.lt_of_lt_of_le hg G0.out.size
            have HAT := Lib.hid (hat.below G0.out hg)
            have p0 := HAT.out k hlt
            obtain ⟨b1, b2⟩ := HW.out _ (List.getElem_mem hlt)
            have hsl := run_preI8 g o c.q.length kq k (by omega)
            clear hat
            cases b3 : perB c.q[k]
            · have E := Lib.hid (away_f (fun h : Away c => by have := (h.q k hlt hlt).1; rw [b3] at this; cases this))
              go_wp2_with (go_at_call 37; refine (isPerson_any _ _).mono ?_; rintro e w' ⟨rfl, rfl⟩)
              go_ret
              exact ⟨by rw [E.out]; rfl, G0.out⟩
            · by_cases b4 : c.q[k] = c.who
              · have E := Lib.hid (away_f (fun h : Away c => h.not (b4 ▸ List.getElem_mem hlt)))
                rw [b4] at p0 b3
                clear b4
                go_wp2_with (go_at_call 37; refine (isPerson_any _ _).mono ?_; rintro e w' ⟨rfl, rfl⟩)
                go_ret
                exact ⟨by rw [E.out]; rfl, G0.out⟩
              · have CC := Lib.hid (contains8_any (.slice (some ⟨g, o, none⟩) k kq) (c.q.take k) c.q[k] wr (IntsOf.pre HAT.out hga hk) (by rw [List.length_take]; unfold maxLen; omega))
                cases b5 : hasB (c.q.take k) c.q[k]
                · have hnm : c.q[k] ∉ c.q.take k := by unfold hasB at b5; simpa using b5
                  have Q1 := Lib.hid (QT.out.succ hlt b3 ((placeI_self hlt).2 hnm))
                  have N1 := Lib.hid (NT.out.succ hlt b4)
                  rw [b5] at CC
                  clear hnm
                  go_wp2_with (first | (go_at_call 37; refine (isPerson_any _ _).mono ?_; rintro e w' ⟨rfl, rfl⟩) | (go_at_call 48; refine CC.out.mono ?_; rintro e w' ⟨rfl, rfl⟩))
                  go_roundw
                  case rel => exact ⟨k + 1, by omega, by go_num, Q1.out, N1.out, by first | rfl | trivial⟩
                  case measure => simp [intOf]; omega
                · have hm : c.q[k] ∈ c.q.take k := by unfold hasB at b5; simpa using b5
                  have E := Lib.hid (away_f (fun h : Away c => (placeI_self hlt).1 (h.q k hlt hlt).2 hm))
                  rw [b5] at CC
                  clear hm
                  go_wp2_with (first | (go_at_call 37; refine (isPerson_any _ _).mono ?_; rintro e w' ⟨rfl, rfl⟩) | (go_at_call 48; refine CC.out.mono ?_; rintro e w' ⟨rfl, rfl⟩))
                  go_ret
                  exact ⟨by rw [E.out]; rfl, G0.out⟩
          · obtain rfl : k = c.q.length := by omega
            have E := Lib.hid (AW.out (noTo_mem.1 NT.out) QT.out)
            go_wp2
            go_ret
            exact ⟨by rw [E.out]; rfl, G0.out⟩
      · have a3e : (4 : Int) < (c.q.length : Int) := by omega
        have E := Lib.hid (away_f (fun h : Away c => a3 h.len))
        go_enter Try.func46, Try.ntmps46
        go_wp2_with (first | (go_at_call 37; refine (isPerson_any _ _).mono ?_; rintro e w' ⟨rfl, rfl⟩) | (go_at_call 42; refine (w16_any _ _ _ _).mono ?_; rintro e w' ⟨rfl, rfl⟩))
        go_ret
        exact ⟨by rw [E.out]; rfl, by go_grown⟩
end Go.Proofs.Ytmafjncaigllbab
