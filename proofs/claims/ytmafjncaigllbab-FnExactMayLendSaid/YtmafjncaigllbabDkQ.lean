/- What a copy is asked, by the model and by the program: contracts. Condition: numbers within their kinds, queues no longer than slices can be. -/
import Derived.Test.YtmafjncaigllbabDkG
namespace Go.Proofs.Ytmafjncaigllbab
set_option linter.unusedSimpArgs false
set_option linter.unusedVariables false
set_option maxRecDepth 100000
open Go.RowKit

def overB (day : Int) (c : Cp) : Bool := decide (c.st = 1 ∧ c.due < day)
def askedB (who : Int) (c : Cp) : Bool := decide ((c.st = 2 ∧ c.who = who) ∨ 0 ≤ placeI c.q who)
def awayS (c : Cp) : Bool := decide (¬ c.st = 0)
theorem over_late (c : Cp) (day : Int) : decide (0 < lateI c day) = overB day c := by
  unfold overB lateI
  by_cases h : c.st = 1
  · by_cases h2 : c.due < day
    · rw [if_pos h, if_pos (by omega)]; simp [h, h2]; 
    · rw [if_pos h, if_neg (by omega)]; simp [h2]
  · rw [if_neg h]; simp [h]
theorem cnCs_len {d : Dk} {who : Int} (h : csz d.cs ≤ 1048576) : (cnCs d who).length ≤ 1048576 := by
  have := csz_len d.cs
  unfold cnCs
  split
  · omega
  · simp
theorem emptyOwn (W : World) (base : Nat) (h : base ≤ W.heap.size) : (W.alloc (.cells #[] 2)).ownsRow base 2 1 (.slice (some ⟨W.heap.size, 0, none⟩) 0 0) 0 (([] : List Int).map (Value.int .i64)) :=
  ⟨rfl, .inr ⟨W.heap.size, 0, #[], rfl, h, heap_alloc_new W _, Nat.le_refl _, Nat.zero_le _, rfl, rfl⟩⟩
theorem nilOwn (W : World) (base : Nat) : W.ownsRow base 2 1 (.slice none 0 0) 0 (([] : List Int).map (Value.int .i64)) := ⟨rfl, .inl ⟨rfl, rfl⟩⟩
theorem wh_nil (p : Cp → Bool) : wh [] p = [] := rfl

set_option maxHeartbeats 2000000 in
theorem lentTo_any (c : Cp) (who : Int) (w : World) :
    Calls Try.prog 28 #[.agg #[.int .i64 c.st, .int .i64 c.who, .int .i64 c.due, .int .i64 c.ren], .int .i64 who] w fun e w' => e = .returned (.bool (lentTo who c)) ∧ Below w.heap.size w w' := by
  obtain ⟨st, wh, due, ren, q⟩ := c
  by_cases h1 : st = 1
  · subst h1
    by_cases h2 : wh = who
    · subst h2
      have E := Lib.hid (show lentTo wh ⟨1, wh, due, ren, q⟩ = true by simp [lentTo])
      go_enter Try.func28, Try.ntmps28
      go_wp2
      go_ret
      exact ⟨by rw [E.out]; first | rfl | simp, by go_grown⟩
    · have E := Lib.hid (show lentTo who ⟨1, wh, due, ren, q⟩ = false by simp [lentTo, h2])
      go_enter Try.func28, Try.ntmps28
      go_wp2
      go_ret
      exact ⟨by rw [E.out]; first | rfl | simp [h2], by go_grown⟩
  · have E := Lib.hid (show lentTo who ⟨st, wh, due, ren, q⟩ = false by simp [lentTo, h1])
    go_enter Try.func28, Try.ntmps28
    go_wp2
    go_ret
    exact ⟨by rw [E.out]; first | rfl | simp [h1], by go_grown⟩
set_option maxHeartbeats 2000000 in
theorem heldFor_any (c : Cp) (who : Int) (w : World) :
    Calls Try.prog 25 #[.agg #[.int .i64 c.st, .int .i64 c.who, .int .i64 c.due, .int .i64 c.ren], .int .i64 who] w fun e w' => e = .returned (.bool (heldFor who c)) ∧ Below w.heap.size w w' := by
  obtain ⟨st, wh, due, ren, q⟩ := c
  by_cases h1 : st = 2
  · subst h1
    by_cases h2 : wh = who
    · subst h2
      have E := Lib.hid (show heldFor wh ⟨2, wh, due, ren, q⟩ = true by simp [heldFor])
      go_enter Try.func25, Try.ntmps25
      go_wp2
      go_ret
      exact ⟨by rw [E.out]; first | rfl | simp, by go_grown⟩
    · have E := Lib.hid (show heldFor who ⟨2, wh, due, ren, q⟩ = false by simp [heldFor, h2])
      go_enter Try.func25, Try.ntmps25
      go_wp2
      go_ret
      exact ⟨by rw [E.out]; first | rfl | simp [h2], by go_grown⟩
  · have E := Lib.hid (show heldFor who ⟨st, wh, due, ren, q⟩ = false by simp [heldFor, h1])
    go_enter Try.func25, Try.ntmps25
    go_wp2
    go_ret
    exact ⟨by rw [E.out]; first | rfl | simp [h1], by go_grown⟩
set_option maxHeartbeats 2000000 in
theorem l06Overdue_any (c : Cp) (day : Int) (g o : Nat) (w : World) (hc : CpIn w g o c) :
    Calls Try.prog 21 #[.pointer (some ⟨g, o, none⟩), .int .i16 day] w fun e w' => e = .returned (.bool (overB day c)) ∧ w = w' := by
  obtain ⟨c0, -, c2, -⟩ := hc
  obtain ⟨st, wh, due, ren, q⟩ := c
  dsimp only at *
  by_cases h1 : st = 1
  · subst h1
    by_cases h2 : due < day
    · have E := Lib.hid (show overB day ⟨1, wh, due, ren, q⟩ = true by simp [overB, h2])
      go_enter Try.func21, Try.ntmps21
      go_wp2
      go_ret
      exact ⟨by rw [E.out]; first | rfl | simp [h2], rfl⟩
    · have E := Lib.hid (show overB day ⟨1, wh, due, ren, q⟩ = false by simp [overB, h2])
      go_enter Try.func21, Try.ntmps21
      go_wp2
      go_ret
      exact ⟨by rw [E.out]; first | rfl | simp [h2], rfl⟩
  · have E := Lib.hid (show overB day ⟨st, wh, due, ren, q⟩ = false by simp [overB, h1])
    go_enter Try.func21, Try.ntmps21
    go_wp2
    go_ret
    exact ⟨by rw [E.out]; first | rfl | simp [h1], rfl⟩
end Go.Proofs.Ytmafjncaigllbab
