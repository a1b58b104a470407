/- Exchanges of books: the plain form; by the model and by the program, contracts. Condition: lists no longer than the law tests. -/
import Derived.Test.YtkclobdealnkhaaDoorMove
import Derived.Test.YtkclobdealnkhaaDoorRes
import Derived.StillTailTactics
namespace Go.Proofs.YtkclobdealnkhaaDoor
set_option linter.unusedSimpArgs false
set_option linter.unusedVariables false
set_option maxRecDepth 100000
open Go.RowKit

def canB (n : Nat) (m : Mv) : Bool := inB m.f 0 ((n : Int) - 1) && inB m.t 0 ((n : Int) - 1)
def swapL (ys : List Bk) (i j : Nat) : List Bk := (ys.set i (ys.getD j default)).set j (ys.getD i default)
def swTo (xs : List Bk) (ms : List Mv) : Nat → List Bk
  | 0 => xs
  | k + 1 => swapL (swTo xs ms k) (ms.getD k default).f.toNat (ms.getD k default).t.toNat
def swCode (xs : List Bk) (ms : List Mv) : Int := if okB xs = false then 1 else if 200 < ms.length then 3 else if ms.all (canB xs.length) then 0 else 2
def swR (xs : List Bk) (ms : List Mv) : List Bk := if swCode xs ms = 0 then swTo xs ms ms.length else []
theorem swapL_length (ys : List Bk) (i j : Nat) : (swapL ys i j).length = ys.length := by simp [swapL]
theorem swTo_length (xs : List Bk) (ms : List Mv) : ∀ k, (swTo xs ms k).length = xs.length
  | 0 => rfl
  | k + 1 => by rw [swTo, swapL_length]; exact swTo_length xs ms k
theorem swR_length (xs : List Bk) (ms : List Mv) : (swR xs ms).length ≤ xs.length := by
  unfold swR
  split
  · rw [swTo_length]; omega
  · simp
theorem can_some {n : Nat} {m : Mv} (h : canB n m = true) : ∃ i j : Nat, m.f = i ∧ m.t = j ∧ i < n ∧ j < n := by
  unfold canB inB at h
  simp only [Bool.and_eq_true, decide_eq_true_eq] at h
  exact ⟨m.f.toNat, m.t.toNat, by omega, by omega, by omega, by omega⟩
theorem sw_cases (xs : List Bk) (ms : List Mv) : (okB xs = false ∧ swCode xs ms = 1 ∧ swR xs ms = []) ∨ (okB xs = true ∧ 200 < ms.length ∧ swCode xs ms = 3 ∧ swR xs ms = []) ∨ (okB xs = true ∧ ms.length ≤ 200 ∧ swCode xs ms = (if ms.all (canB xs.length) then 0 else 2)) := by
  unfold swR swCode
  by_cases h1 : okB xs = false
  · rw [if_pos h1]; exact .inl ⟨h1, rfl, rfl⟩
  · rw [if_neg h1]
    by_cases h2 : 200 < ms.length
    · rw [if_pos h2]; exact .inr (.inl ⟨by simpa using h1, h2, rfl, rfl⟩)
    · rw [if_neg h2]; exact .inr (.inr ⟨by simpa using h1, by omega, rfl⟩)
theorem sw_bad {xs : List Bk} {ms : List Mv} (h : swCode xs ms = (if ms.all (canB xs.length) then 0 else 2)) {k : Nat} (hk : k < ms.length) (hb : canB xs.length ms[k] = false) : swCode xs ms = 2 ∧ swR xs ms = [] := by
  have h2 : ms.all (canB xs.length) = false := by
    rw [List.all_eq_false]
    exact ⟨ms[k], List.getElem_mem hk, by simp [hb]⟩
  rw [h2] at h
  have h3 : swCode xs ms = 2 := by simpa using h
  exact ⟨h3, by unfold swR; rw [h3]; rfl⟩
theorem sw_good {xs : List Bk} {ms : List Mv} (h : swCode xs ms = (if ms.all (canB xs.length) then 0 else 2)) (ha : ∀ k, k < ms.length → canB xs.length (ms.getD k default) = true) : swCode xs ms = 0 ∧ swR xs ms = swTo xs ms ms.length := by
  have h2 : ms.all (canB xs.length) = true := by
    rw [List.all_eq_true]
    intro m hm
    obtain ⟨i, hi, rfl⟩ := List.getElem_of_mem hm
    have := ha i hi
    rwa [show ms.getD i default = ms[i] by simp [List.getD, List.getElem?_eq_getElem hi]] at this
  rw [h2] at h
  have h3 : swCode xs ms = 0 := by simpa using h
  exact ⟨h3, by unfold swR; rw [if_pos h3]⟩
theorem mv_getD {ms : List Mv} {k : Nat} (h : k < ms.length) : ms.getD k default = ms[k] := by simp [List.getD, List.getElem?_eq_getElem h]
theorem bk_getD {ys : List Bk} {k : Nat} (h : k < ys.length) : ys.getD k default = ys[k] := by simp [List.getD, List.getElem?_eq_getElem h]

theorem all_succK {P : Nat → Prop} {k : Nat} (h : ∀ i, i < k → P i) (h1 : P k) : ∀ i, i < k + 1 → P i := by
  intro i hi
  by_cases e : i = k
  · subst e; exact h1
  · exact h i (by omega)
theorem set8_block (w : World) (g o k : Nat) (b : Bk) (h : k ≠ g) : (set8 w g o b).heap[k]? = w.heap[k]? := by
  have e : ∀ (w : World) (o : Nat) (v : Value), (w.setCell ⟨g, o, none⟩ v).heap[k]? = w.heap[k]? := fun w o v => Below.heap_setCell w ⟨g, o, none⟩ v k (by simpa using h)
  unfold set8
  rw [e, e, e, e, e, e, e, e]

theorem rowK_drew {w : World} {g k n : Nat} {ys : List Bk} (h : RowK w g ys k n) : RowK w.drew g ys k n := h
theorem below_drew {B : Nat} {a w : World} (h : Below B a w) : Below B a w.drew := h.drew
theorem heap_drew {w a : World} {k : Nat} {o : Option Obj} (h : w.heap[k]? = a.heap[k]?) (h2 : a.heap[k]? = o) : w.drew.heap[k]? = o := h.trans h2

set_option maxHeartbeats 1000000 in
theorem l03Can_any (n : Nat) (m : Mv) (wm : m.Wf) (w : World) (hn : n ≤ 1048576) :
    Calls Tryd.prog 67 #[.int .i64 (n : Int), .agg #[.int .i16 m.f, .int .i16 m.t]] w fun e w' => e = .returned (.bool (canB n m)) ∧ Below w.heap.size w w' := by
  have HG := Lib.hid (show Below w.heap.size w (w.alloc (.cells #[.int .i16 m.f, .int .i16 m.t] 26)) by go_grown)
  obtain ⟨⟨a1, a2⟩, ⟨b1, b2⟩⟩ := wm
  cases h1 : inB m.f 0 ((n : Int) - 1)
  · have E := Lib.hid (show canB n m = false by unfold canB; rw [h1]; rfl)
    go_enter Tryd.func67, Tryd.ntmps67
    go_wp2_with (go_at_call 50; refine (l00In_any _ _ _ _).mono ?_; rintro e w' ⟨rfl, rfl⟩)
    go_ret
    exact ⟨by rw [E.out]; rfl, HG.out⟩
  · cases h2 : inB m.t 0 ((n : Int) - 1)
    · have E := Lib.hid (show canB n m = false by unfold canB; rw [h1, h2]; rfl)
      go_enter Tryd.func67, Tryd.ntmps67
      go_wp2_with (go_at_call 50; refine (l00In_any _ _ _ _).mono ?_; rintro e w' ⟨rfl, rfl⟩)
      go_ret
      exact ⟨by rw [E.out]; rfl, HG.out⟩
    · have E := Lib.hid (show canB n m = true by unfold canB; rw [h1, h2]; rfl)
      go_enter Tryd.func67, Tryd.ntmps67
      go_wp2_with (go_at_call 50; refine (l00In_any _ _ _ _).mono ?_; rintro e w' ⟨rfl, rfl⟩)
      go_ret
      exact ⟨by rw [E.out]; rfl, HG.out⟩

end Go.Proofs.YtkclobdealnkhaaDoor
