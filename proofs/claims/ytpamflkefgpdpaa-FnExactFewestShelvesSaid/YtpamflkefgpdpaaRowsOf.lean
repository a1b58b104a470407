/- The rows of a layout, by the program: a contract. Condition: a valid case and list; numbers no longer than the law tests. -/
import Derived.Test.YtpamflkefgpdpaaBad
import Derived.Deep.RegionHeld3
namespace Go.Proofs.Ytpamflkefgpdpaa
set_option linter.unusedSimpArgs false
set_option linter.unusedVariables false
set_option maxRecDepth 100000
open Go.RowKit

theorem infoRow : (Try.prog.info? 118).map (fun i => (i.zero, i.size, i.bytes)) = some (some (.agg #[.int .i64 0, .slice none 0 0, .int .i64 0]), 3, 40) := by kernel_rfl

def rowCs (c : Cs) (A : Option Addr) (xs : List Bk) (i k : Nat) : List Value := [.int .i64 (i : Int), .slice (subA A i k) (k - i) (k - i), .int .i64 (freeB c (part xs i k))]
def rowsCs (c : Cs) (A : Option Addr) (xs : List Bk) (es : List Int) : Nat → List Value
  | 0 => []
  | j + 1 => rowsCs c A xs es j ++ rowCs c A xs (fromE es j).toNat (es.getD j 0).toNat
theorem cell_three_new (w : World) (x y z : Value) (t : TypeId) : ∀ j u, [x, y, z][j]? = some u → (w.alloc (.cells #[x, y, z] t)).cell? ((⟨w.heap.size, 0, none⟩ : Addr).add j) = some u := by
  intro j u hj
  rw [Addr.add_lit, cell_of_row _ _ _ _ _ _ (heap_alloc_new w _)]
  simpa using hj
theorem okAt_out {c : Cs} {xs : List Bk} {es : List Int} {j i : Nat} (hj : j < es.length) (hi : fromE es j = i) (h : inB es[j] (i : Int) (xs.length : Int) = false) : okAt c xs es j = false := by
  unfold inB at h
  simp only [decide_eq_false_iff_not] at h
  by_cases h1 : es[j] < fromE es j
  · exact okAt_less hj h1
  · exact okAt_more hj (by omega)
theorem layB_bad {c : Cs} {xs : List Bk} {es : List Int} {j : Nat} (h : goodN c xs es = j) (hj : j < c.hs.length) : layB c xs es = false := by
  unfold layB
  rw [decide_eq_false (by omega)]
  rfl
theorem rowsCs_length (c : Cs) (A : Option Addr) (xs : List Bk) (es : List Int) : ∀ j, (rowsCs c A xs es j).length = j * 3
  | 0 => rfl
  | j + 1 => by rw [rowsCs, List.length_append, rowsCs_length c A xs es j]; simp [rowCs]; omega
theorem rowsCs_succ {c : Cs} {A : Option Addr} {xs : List Bk} {es : List Int} {j i k : Nat} (hj : j < es.length) (hi : fromE es j = i) (hk : es[j] = k) : rowsCs c A xs es (j + 1) = rowsCs c A xs es j ++ rowCs c A xs i k := by
  rw [rowsCs, getD_ints hj, hi, hk]
  simp

set_option maxHeartbeats 400000 in
theorem behind_any (X : Option Addr) (i k : Nat) (f : Int) (w : World) (hik : i ≤ k) (hk : k ≤ 60) :
    Calls Try.prog 88 #[.agg #[.int .i64 (i : Int), .slice X (k - i) (k - i), .int .i64 f]] w fun e w' => e = .returned (.int .i64 (k : Int)) ∧ Below w.heap.size w w' := by
  have h1 : ((k - i : Nat) : Int) ≤ 60 := by omega
  have h2 : (i : Int) ≤ 60 := by omega
  have E := Lib.hid (show (i : Int) + ((k - i : Nat) : Int) = k by omega)
  go_enter Try.func88, Try.ntmps88
  go_wp2
  go_ret
  exact ⟨congrArg (fun z => Ending.returned (Value.int .i64 z)) E.out, by go_grown⟩

end Go.Proofs.Ytpamflkefgpdpaa
