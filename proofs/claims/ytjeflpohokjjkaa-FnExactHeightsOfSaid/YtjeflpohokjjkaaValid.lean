/- What is valid of a book: the model's functions and the program's, contracts. No condition. -/
import Derived.Test.YtjeflpohokjjkaaToBook
namespace Go.Proofs.Ytjeflpohokjjkaa
set_option linter.unusedSimpArgs false
set_option linter.unusedVariables false
set_option maxRecDepth 100000
open Go.RowKit

theorem mark_cases (x y z : Int) : x < 97 ∨ (97 ≤ x ∧ 122 < x) ∨ (97 ≤ x ∧ x ≤ 122 ∧ y < 97) ∨ (97 ≤ x ∧ x ≤ 122 ∧ 97 ≤ y ∧ 122 < y) ∨ (97 ≤ x ∧ x ≤ 122 ∧ 97 ≤ y ∧ y ≤ 122 ∧ z < 97) ∨
    (97 ≤ x ∧ x ≤ 122 ∧ 97 ≤ y ∧ y ≤ 122 ∧ 97 ≤ z ∧ 122 < z) ∨ (97 ≤ x ∧ x ≤ 122 ∧ 97 ≤ y ∧ y ≤ 122 ∧ 97 ≤ z ∧ z ≤ 122) := by omega

def markB (x y z : Int) : Bool := decide (97 ≤ x ∧ x ≤ 122 ∧ 97 ≤ y ∧ y ≤ 122 ∧ 97 ≤ z ∧ z ≤ 122)

set_option maxHeartbeats 2000000 in
theorem l01Mark_any (x y z : Int) (w : World) :
    Calls Try.prog 51 #[.agg #[.int .u8 x, .int .u8 y, .int .u8 z]] w fun e w' => e = .returned (.bool (markB x y z)) ∧
      w.alloc (.cells #[.int .u8 x, .int .u8 y, .int .u8 z] 44) = w' := by
  have fin : ∀ (r : Bool), (r = true ↔ (97 ≤ x ∧ x ≤ 122 ∧ 97 ≤ y ∧ y ≤ 122 ∧ 97 ≤ z ∧ z ≤ 122)) → (.returned (.bool r) : Ending) = .returned (.bool (markB x y z)) := by
    intro r h
    have : r = markB x y z := by rw [Bool.eq_iff_iff, h]; simp [markB]
    rw [this]
  have F := Lib.hid fin
  clear fin
  rcases mark_cases x y z with h | ⟨h1, h⟩ | ⟨h1, h2, h⟩ | ⟨h1, h2, h3, h⟩ | ⟨h1, h2, h3, h4, h⟩ | ⟨h1, h2, h3, h4, h5, h⟩ | ⟨h1, h2, h3, h4, h5, h⟩
  all_goals
    go_enter Try.func51, Try.ntmps51
    go_wp2
    refine wp_loop_rounds 4 ?_
    repeat (rw [rounds_succ]; go_wp2)
    go_ret
    exact ⟨F.out _ (by simp; omega), rfl⟩

set_option maxHeartbeats 400000 in
theorem l01Class_any (n : Int) (w : World) :
    Calls Try.prog 50 #[.int .i64 n] w fun e w' => e = .returned (.bool (inB n 0 999)) ∧ w = w' := by
  go_enter Try.func50, Try.ntmps50
  go_wp2_with (go_at_call 24; refine (l00In_any _ _ _ _).mono ?_; rintro e w' ⟨rfl, rfl⟩)
  go_ret
  exact ⟨rfl, rfl⟩

/-- Where a chain of tests first fails. -/
theorem chain6 (a b c d e f : Bool) : a = false ∨ (a = true ∧ b = false) ∨ (a = true ∧ b = true ∧ c = false) ∨ (a = true ∧ b = true ∧ c = true ∧ d = false) ∨ (a = true ∧ b = true ∧ c = true ∧ d = true ∧ e = false) ∨
    (a = true ∧ b = true ∧ c = true ∧ d = true ∧ e = true ∧ f = false) ∨ (a = true ∧ b = true ∧ c = true ∧ d = true ∧ e = true ∧ f = true) := by
  cases a <;> cases b <;> cases c <;> cases d <;> cases e <;> cases f <;> simp

def bookB (b : Bk) : Bool := inB b.c 0 999 && (markB b.m0 b.m1 b.m2 && (inB b.v 1 99 && (inB b.wi 1 100 && (inB b.hi 50 400 && inB b.we 1 9999))))

set_option maxHeartbeats 2000000 in
/-- The model reads the book through a pointer. -/
theorem l01Book_any (b : Bk) (hb : b.Wf) (g o : Nat) (w : World) (h0 : w.cell? ⟨g, o, none⟩ = some (.int .i16 b.c)) (h1 : w.cell? ⟨g, o + 1, none⟩ = some (.int .u8 b.m0)) (h2 : w.cell? ⟨g, o + 2, none⟩ = some (.int .u8 b.m1)) (h3 : w.cell? ⟨g, o + 3, none⟩ = some (.int .u8 b.m2))
    (h4 : w.cell? ⟨g, o + 4, none⟩ = some (.int .i16 b.v)) (h5 : w.cell? ⟨g, o + 5, none⟩ = some (.int .i16 b.wi)) (h6 : w.cell? ⟨g, o + 6, none⟩ = some (.int .i16 b.hi)) (h7 : w.cell? ⟨g, o + 7, none⟩ = some (.int .i16 b.we)) (hg : g < w.heap.size) :
    Calls Try.prog 45 #[.pointer (some ⟨g, o, none⟩)] w fun e w' => e = .returned (.bool (bookB b)) ∧ Below w.heap.size w w' := by
  obtain ⟨⟨c1, c2⟩, _, _, _, ⟨v1, v2⟩, ⟨i1, i2⟩, ⟨j1, j2⟩, ⟨k1, k2⟩⟩ := hb
  have fin : ∀ (r : Bool), r = bookB b → (.returned (.bool r) : Ending) = .returned (.bool (bookB b)) := by
    intro r h; rw [h]
  have F := Lib.hid fin
  clear fin
  rcases chain6 (inB b.c 0 999) (markB b.m0 b.m1 b.m2) (inB b.v 1 99) (inB b.wi 1 100) (inB b.hi 50 400) (inB b.we 1 9999) with e1 | ⟨e1, e2⟩ | ⟨e1, e2, e3⟩ | ⟨e1, e2, e3, e4⟩ | ⟨e1, e2, e3, e4, e5⟩ | ⟨e1, e2, e3, e4, e5, e6⟩ | ⟨e1, e2, e3, e4, e5, e6⟩
  all_goals
    go_enter Try.func45, Try.ntmps45
    go_wp2_with (first
      | (go_at_call 50; refine (l01Class_any _ _).mono ?_; rintro e w' ⟨rfl, rfl⟩)
      | (go_at_call 51; refine (l01Mark_any _ _ _ _).mono ?_; rintro e w' ⟨rfl, rfl⟩)
      | (go_at_call 24; refine (l00In_any _ _ _ _).mono ?_; rintro e w' ⟨rfl, rfl⟩))
    go_ret
    refine ⟨F.out _ ?_, ?_⟩
    · clear h0 h1 h2 h3 h4 h5 h6 h7; simp [bookB, *]
    · go_grown

end Go.Proofs.Ytjeflpohokjjkaa
