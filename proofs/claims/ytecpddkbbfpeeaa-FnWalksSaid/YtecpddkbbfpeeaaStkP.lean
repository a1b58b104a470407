/- A map from books to 64-bit counts that a call makes: what it holds, looked up and stored: the runs of the operations. No condition. -/
import Derived.Test.YtecpddkbbfpeeaaEqB
import Derived.Test.YtecpddkbbfpeeaaOpen
import Derived.Maps.Keyed
import Derived.DeepKeys4
import Derived.WideKeyEntry
import Derived.Carry
namespace Go.Proofs.Ytecpddkbbfpeeaa
set_option linter.unusedSimpArgs false
set_option linter.unusedVariables false
set_option maxRecDepth 100000
open Go.RowKit Go.MapKept Go.WideElems

def bkV (b : Bk) : Value := .agg #[.int .i16 b.c, .int .u8 b.m0, .int .u8 b.m1, .int .u8 b.m2, .int .i16 b.v, .int .i16 b.wi, .int .i16 b.hi, .int .i16 b.we]
theorem bkV_inj {a b : Bk} (h : bkV a = bkV b) : a = b := by
  obtain ⟨a0, a1, a2, a3, a4, a5, a6, a7⟩ := a
  obtain ⟨b0, b1, b2, b3, b4, b5, b6, b7⟩ := b
  simpa [bkV] using h
theorem wfI16 {n : Int} (h : -32768 ≤ n ∧ n ≤ 32767) : (Lit.int .i16 n).wf = true := WalkArith.wf_i16 h
theorem wfU8 {n : Int} (h : 0 ≤ n ∧ n ≤ 255) : (Lit.int .u8 n).wf = true := WalkArith.wf_u8 h
theorem types2 : ∃ m, Try.prog.types.size = m + 2 := by
  have h : decide (2 ≤ Try.prog.types.size) = true := by kernel_rfl
  have h2 := of_decide_eq_true h
  exact ⟨Try.prog.types.size - 2, by omega⟩
theorem bkKey (x : Bk) (h : x.Wf) : ∃ l, Go.keyOf Try.prog 42 (bkV x) = some l := by
  obtain ⟨m, hm⟩ := types2
  have hk : Try.prog.keyType 42 = true := by kernel_rfl
  have hf : (bkV x).formed Try.prog 42 = true := by
    have hc : Try.prog.cellsOf 42 = 8 := by kernel_rfl
    simp [bkV, Value.formed, Try.underlying42, hc]
  have c0 : Try.prog.cellsOf 42 = 8 := by kernel_rfl
  have c1 : Try.prog.cellsOf 39 = 1 := by kernel_rfl
  have c2 : Try.prog.cellsOf 5 = 1 := by kernel_rfl
  have c3 : Try.prog.cellsOf 40 = 3 := by kernel_rfl
  unfold Go.keyOf
  simp only [Try.underlying42]
  rw [hk, hf, hm]
  simp [bkV, Value.cells, Program.keyLits, Try.underlying42, Try.underlying39, Try.underlying5, Try.underlying40, c0, c1, c2, c3, wfI16 h.c, wfI16 h.v, wfI16 h.wi, wfI16 h.hi, wfI16 h.we, wfU8 h.m0, wfU8 h.m1, wfU8 h.m2, List.range, List.range.loop]

theorem rowBk : (42 : TypeId) < Try.prog.types.size := of_decide_eq_true (by kernel_rfl)
theorem wideBk : (match Try.prog.underlying 42 with | some (.array _ _) | some (.struct _) => true | _ => false) = true := by kernel_rfl
theorem lawBk : WideMaps.KeyLaw Try.prog 42 := deep_law_laid laidOut (m := 3) (by omega) rowBk (by kernel_rfl) wideBk
theorem zeroInt (w : World) : (zeroValue 2).run Try.prog w = .ok (.int .i64 0) w := by kernel_rfl

/-- The world with another map in block b. -/
def putMap (w : World) (b : Nat) (es : Array MapEntry) (clock : Nat) : World := { w with heap := w.heap.setIfInBounds b (.map es clock) }

/-- Block b is a map that tells c of each book. -/
def Stk (w : World) (b n : Nat) (c : Bk → Nat) : Prop :=
  ∃ es clock, w.heap[b]? = some (.map es clock) ∧ Stamped es clock ∧ es.size ≤ n ∧ (∀ e ∈ es.toList, ∃ x : Bk, x.Wf ∧ e.key = bkV x ∧ e.val = .int .i64 ((c x : Nat) : Int)) ∧ ∀ x : Bk, x.Wf → (∀ e ∈ es.toList, e.key ≠ bkV x) → c x = 0
theorem Stk.made (w : World) : Stk (w.alloc (.map #[] 0)) w.heap.size 0 (fun _ => 0) :=
  ⟨#[], 0, (MapKept.heap_alloc w _).1, stamped_empty 0, Nat.le_refl _, by simp, fun _ _ _ => rfl⟩
theorem Stk.lt {w : World} {b n : Nat} {c : Bk → Nat} (h : Stk w b n c) : b < w.heap.size := by
  obtain ⟨es, clock, hb, _⟩ := h
  exact (Array.getElem?_eq_some_iff.1 hb).1
theorem Stk.below {w w' : World} {b n : Nat} {c : Bk → Nat} (h : Stk w b n c) (hb : Below w.heap.size w w') : Stk w' b n c := by
  have hl := h.lt
  obtain ⟨es, clock, h1, h2⟩ := h
  exact ⟨es, clock, (hb.block b hl).trans h1, h2⟩
theorem Stk.drew {w : World} {b n : Nat} {c : Bk → Nat} (h : Stk w b n c) : Stk w.drew b n c := h
theorem Stk.keys {w : World} {b n : Nat} {c : Bk → Nat} {es : Array MapEntry} (h : ∀ e ∈ es.toList, ∃ x : Bk, x.Wf ∧ e.key = bkV x ∧ e.val = .int .i64 ((c x : Nat) : Int)) : ∀ e ∈ es.toList, ∃ l, Go.keyOf Try.prog 42 e.key = some l := by
  intro e he
  obtain ⟨x, wx, h1, _⟩ := h e he
  rw [h1]
  exact bkKey x wx
def upd (c : Bk → Nat) (x : Bk) (v : Nat) : Bk → Nat := fun y => if y = x then v else c y
theorem upd_same (c : Bk → Nat) (x : Bk) (v : Nat) : upd c x v x = v := by simp [upd]
theorem upd_other (c : Bk → Nat) {x y : Bk} (v : Nat) (h : y ≠ x) : upd c x v y = c y := by simp [upd, h]

theorem putMap_at {w : World} {b : Nat} {es es' : Array MapEntry} {k k' : Nat} (hb : w.heap[b]? = some (.map es k)) : (putMap w b es' k').heap[b]? = some (.map es' k') := (heap_set hb).1
theorem putMap_twice {w : World} {b : Nat} {es es' : Array MapEntry} {k k' : Nat} : putMap (putMap w b es k) b es' k' = putMap w b es' k' := by
  unfold putMap
  simp
theorem putMap_grown {w : World} {b : Nat} {es es' : Array MapEntry} {k k' : Nat} (hb : w.heap[b]? = some (.map es k)) : w.grownBy (putMap w b es' k') (some b) :=
  ⟨rfl, rfl, rfl, by simp [putMap], fun i _ hi => (heap_set hb).2 i (fun e => hi (by rw [e]))⟩

end Go.Proofs.Ytecpddkbbfpeeaa
