/- Stocks: maps from books to counts; what one list has more often than another one, by the model and by the program: contracts. Condition: as they stand in each. -/
import Derived.Test.YteeblpdjpaellaaDoorEqB
import Derived.Test.YteeblpdjpaellaaDoorOpen
import Derived.Maps.Keyed
import Derived.DeepKeys4
import Derived.WideKeyEntry
import Derived.Carry
import Derived.Test.YteeblpdjpaellaaDoorBooksOk
import Derived.Test.YteeblpdjpaellaaDoorFlB
import Derived.Deep.Cut
import Derived.Deep.CutRange
import Derived.RegionTactic
import Derived.BigRegion
import Derived.Test.YteeblpdjpaellaaDoorAsked
namespace Go.Proofs.YteeblpdjpaellaaDoor
set_option linter.unusedSimpArgs false
set_option linter.unusedVariables false
set_option maxRecDepth 100000

section
open Go.RowKit Go.MapKept Go.WideElems

def bkV (b : Bk) : Value := .agg #[.int .i16 b.c, .int .u8 b.m0, .int .u8 b.m1, .int .u8 b.m2, .int .i16 b.v, .int .i16 b.wi, .int .i16 b.hi, .int .i16 b.we]
theorem bkV_inj {a b : Bk} (h : bkV a = bkV b) : a = b := by
  obtain ⟨a0, a1, a2, a3, a4, a5, a6, a7⟩ := a
  obtain ⟨b0, b1, b2, b3, b4, b5, b6, b7⟩ := b
  simpa [bkV] using h
theorem wfI16 {n : Int} (h : -32768 ≤ n ∧ n ≤ 32767) : (Lit.int .i16 n).wf = true := WalkArith.wf_i16 h
theorem wfU8 {n : Int} (h : 0 ≤ n ∧ n ≤ 255) : (Lit.int .u8 n).wf = true := WalkArith.wf_u8 h
theorem types2 : ∃ m, Tryd.prog.types.size = m + 2 := by
  have h : decide (2 ≤ Tryd.prog.types.size) = true := by kernel_rfl
  have h2 := of_decide_eq_true h
  exact ⟨Tryd.prog.types.size - 2, by omega⟩
theorem bkKey (x : Bk) (h : x.Wf) : ∃ l, Go.keyOf Tryd.prog 53 (bkV x) = some l := by
  obtain ⟨m, hm⟩ := types2
  have hk : Tryd.prog.keyType 53 = true := by kernel_rfl
  have hf : (bkV x).formed Tryd.prog 53 = true := by
    have hc : Tryd.prog.cellsOf 53 = 8 := by kernel_rfl
    simp [bkV, Value.formed, Tryd.underlying53, hc]
  have c0 : Tryd.prog.cellsOf 53 = 8 := by kernel_rfl
  have c1 : Tryd.prog.cellsOf 34 = 1 := by kernel_rfl
  have c2 : Tryd.prog.cellsOf 5 = 1 := by kernel_rfl
  have c3 : Tryd.prog.cellsOf 51 = 3 := by kernel_rfl
  unfold Go.keyOf
  simp only [Tryd.underlying53]
  rw [hk, hf, hm]
  simp [bkV, Value.cells, Program.keyLits, Tryd.underlying53, Tryd.underlying34, Tryd.underlying5, Tryd.underlying51, c0, c1, c2, c3, wfI16 h.c, wfI16 h.v, wfI16 h.wi, wfI16 h.hi, wfI16 h.we, wfU8 h.m0, wfU8 h.m1, wfU8 h.m2, List.range, List.range.loop]

theorem rowBk : (53 : TypeId) < Tryd.prog.types.size := of_decide_eq_true (by kernel_rfl)
theorem wideBk : (match Tryd.prog.underlying 53 with | some (.array _ _) | some (.struct _) => true | _ => false) = true := by kernel_rfl
theorem lawBk : WideMaps.KeyLaw Tryd.prog 53 := deep_law_laid laidOut (m := 3) (by omega) rowBk (by kernel_rfl) wideBk
theorem zeroInt (w : World) : (zeroValue 3).run Tryd.prog w = .ok (.int .i64 0) w := by kernel_rfl

/-- The world with another map in block b. -/
def putMap (w : World) (b : Nat) (es : Array MapEntry) (clock : Nat) : World := { w with heap := w.heap.setIfInBounds b (.map es clock) }

/-- Block b is a map that tells c of each book. -/
def Stk (w : World) (b n : Nat) (c : Bk → Nat) : Prop :=
  ∃ es clock, w.heap[b]? = some (.map es clock) ∧ Stamped es clock ∧ es.size ≤ n ∧ (∀ e ∈ es.toList, ∃ x : Bk, x.Wf ∧ e.key = bkV x ∧ e.val = .int .i64 ((c x : Nat) : Int)) ∧ ∀ x : Bk, x.Wf → (∀ e ∈ es.toList, e.key ≠ bkV x) → c x = 0
theorem Stk.made (w : World) : Stk (w.alloc (.map #[] 0)) w.heap.size 0 (fun _ => 0) :=
  ⟨#[], 0, (MapKept.heap_alloc w _).1, stamped_empty 0, Nat.le_refl _, by simp, fun _ _ _ => rfl⟩
theorem Stk.lt {w : World} {b n : Nat} {c : Bk → Nat} (h : Stk w b n c) : b < w.heap.size := by
  obtain ⟨es, clock, hb, _⟩ := h
  exact (Array.getElem?_eq_some_iff.1 hb).1
theorem Stk.below {w w' : World} {b n : Nat} {c : Bk → Nat} (h : Stk w b n c) (hb : Below w.heap.size w w') : Stk w' b n c := by
  have hl := h.lt
  obtain ⟨es, clock, h1, h2⟩ := h
  exact ⟨es, clock, (hb.block b hl).trans h1, h2⟩
theorem Stk.drew {w : World} {b n : Nat} {c : Bk → Nat} (h : Stk w b n c) : Stk w.drew b n c := h
theorem Stk.keys {w : World} {b n : Nat} {c : Bk → Nat} {es : Array MapEntry} (h : ∀ e ∈ es.toList, ∃ x : Bk, x.Wf ∧ e.key = bkV x ∧ e.val = .int .i64 ((c x : Nat) : Int)) : ∀ e ∈ es.toList, ∃ l, Go.keyOf Tryd.prog 53 e.key = some l := by
  intro e he
  obtain ⟨x, wx, h1, _⟩ := h e he
  rw [h1]
  exact bkKey x wx
theorem Stk.look {w : World} {b n : Nat} {c : Bk → Nat} (h : Stk w b n c) (x : Bk) (wx : x.Wf) : (Instr.lookup 138 (.map (some b)) (bkV x) false).run Tryd.prog w = .ok (.int .i64 ((c x : Nat) : Int)) w := by
  obtain ⟨es, clock, hb, hs, hn, he, h0⟩ := h
  obtain ⟨l, hl⟩ := bkKey x wx
  have K := Maps.Keyed.of_law lawBk
  rcases K.find w hl es.toList (Stk.keys (w := w) (b := b) (n := n) he) with ⟨h1, h2⟩ | ⟨j, e, h1, h2, h3⟩
  · rw [h0 x wx h2]
    simp [Instr.lookup, run_underlying Tryd.underlying138, MapKept.run_getObj_map hb, K.check w es.isEmpty hl, h1, zeroInt, Result.andThen]
  · obtain ⟨y, wy, e1, e2⟩ := he e (List.mem_of_getElem? h2)
    obtain rfl : y = x := bkV_inj (e1.symm.trans h3)
    simp [Instr.lookup, run_underlying Tryd.underlying138, MapKept.run_getObj_map hb, K.check w es.isEmpty hl, h1, e2, zeroInt, Result.andThen]

def upd (c : Bk → Nat) (x : Bk) (v : Nat) : Bk → Nat := fun y => if y = x then v else c y
theorem upd_same (c : Bk → Nat) (x : Bk) (v : Nat) : upd c x v x = v := by simp [upd]
theorem upd_other (c : Bk → Nat) {x y : Bk} (v : Nat) (h : y ≠ x) : upd c x v y = c y := by simp [upd, h]

theorem putMap_at {w : World} {b : Nat} {es es' : Array MapEntry} {k k' : Nat} (hb : w.heap[b]? = some (.map es k)) : (putMap w b es' k').heap[b]? = some (.map es' k') := (heap_set hb).1
theorem putMap_twice {w : World} {b : Nat} {es es' : Array MapEntry} {k k' : Nat} : putMap (putMap w b es k) b es' k' = putMap w b es' k' := by
  unfold putMap
  simp
theorem putMap_grown {w : World} {b : Nat} {es es' : Array MapEntry} {k k' : Nat} (hb : w.heap[b]? = some (.map es k)) : w.grownBy (putMap w b es' k') (some b) :=
  ⟨rfl, rfl, rfl, by simp [putMap], fun i _ hi => (heap_set hb).2 i (fun e => hi (by rw [e]))⟩

/-- What a store at a book's own entry does: the entry is found or made first, then stored into. -/
theorem Stk.entry {w : World} {b n : Nat} {c : Bk → Nat} (h : Stk w b n c) (x : Bk) (wx : x.Wf) :
    ∃ (v0 : Value) (st : Nat) (w1 : World), (Instr.mapEntry 138 (.map (some b)) (bkV x)).run Tryd.prog w = .ok (.tuple #[v0, .int .i64 (st : Int)]) w1 ∧
      (Instr.lookup 138 (.map (some b)) (bkV x) false).run Tryd.prog w1 = .ok (.int .i64 ((c x : Nat) : Int)) w1 ∧ w.grownBy w1 (some b) ∧
      ∀ v : Nat, ∃ w2, (Instr.entryStore 138 (.map (some b)) (.int .i64 (st : Int)) (.int .i64 (v : Int))).run Tryd.prog w1 = .ok () w2 ∧ Stk w2 b (n + 1) (upd c x v) ∧ w.grownBy w2 (some b) := by
  obtain ⟨es, clock, hb, hs, hn, he, h0⟩ := h
  obtain ⟨l, hl⟩ := bkKey x wx
  have K := Maps.Keyed.of_law lawBk
  rcases K.find w hl es.toList (Stk.keys (w := w) (b := b) (n := n) he) with ⟨h1, h2⟩ | ⟨j, e, h1, h2, h3⟩
  · have hc := h0 x wx h2
    have S1 := stamped_push (val := .int .i64 0) hs h2
    have h1w : Stk (putMap w b (es.push ⟨bkV x, .int .i64 0, clock⟩) (clock + 1)) b (n + 1) c := by
      refine ⟨_, _, putMap_at hb, S1, by simp; omega, fun e hm => ?_, fun y wy hy => h0 y wy fun e hm => hy e (by simp; exact .inl (by simpa using hm))⟩
      simp only [Array.toList_push, List.mem_append, List.mem_singleton] at hm
      rcases hm with hm | rfl
      · exact he e hm
      · exact ⟨x, wx, rfl, by rw [hc]; rfl⟩
    refine ⟨.int .i64 0, clock, putMap w b (es.push ⟨bkV x, .int .i64 0, clock⟩) (clock + 1), ?_, h1w.look x wx, putMap_grown hb, fun v => ⟨putMap w b (es.push ⟨bkV x, .int .i64 v, clock⟩) (clock + 1), ?_, ?_, putMap_grown hb⟩⟩
    · simp [Instr.mapEntry, run_underlying Tryd.underlying138, MapKept.run_getObj_map hb, K.check w false hl, h1, zeroInt, MapKept.run_setObj_map _ hb, Result.andThen, putMap, goInt]
    · have hw2 := putMap_at (es' := es.push ⟨bkV x, .int .i64 0, clock⟩) (k' := clock + 1) hb
      have hidx : (es.push ⟨bkV x, .int .i64 0, clock⟩).findIdx? (fun e => ((e.born : Nat) : Int) == ((clock : Nat) : Int)) = some es.size := by
        rw [findIdx_arr]
        have := findIdx_born (l := (es.push ⟨bkV x, .int .i64 0, clock⟩).toList) (j := es.size) (e0 := ⟨bkV x, .int .i64 0, clock⟩) S1.2.1 (by simp)
        exact this
      have hmod : (es.push ⟨bkV x, .int .i64 0, clock⟩).modify es.size (fun e => { e with val := .int .i64 (v : Int) }) = es.push ⟨bkV x, .int .i64 (v : Int), clock⟩ := by
        apply Array.ext'
        rw [Array.toList_modify, Array.toList_push, Array.toList_push, ← Array.length_toList, modify_last]
      simp [Instr.entryStore, MapKept.run_getObj_map hw2, asInt, asIntOf, hidx, hmod, MapKept.run_setObj_map _ hw2, Result.andThen]
      unfold putMap
      simp
    · refine ⟨_, _, putMap_at hb, stamped_push hs h2, by simp; omega, fun e hm => ?_, fun y wy hy => ?_⟩
      · simp only [Array.toList_push, List.mem_append, List.mem_singleton] at hm
        rcases hm with hm | rfl
        · obtain ⟨y, wy, e1, e2⟩ := he e hm
          exact ⟨y, wy, e1, by rw [upd_other _ _ (fun q => h2 e hm (by rw [e1, q]))]; exact e2⟩
        · exact ⟨x, wx, rfl, by rw [upd_same]⟩
      · have hne : y ≠ x := fun q => hy ⟨bkV x, .int .i64 v, clock⟩ (by simp) (by rw [q])
        rw [upd_other _ _ hne]
        exact h0 y wy fun e hm => hy e (by simp; exact .inl (by simpa using hm))
  · have hj : es[j]? = some e := by simpa using h2
    have hmem : e ∈ es.toList := List.mem_of_getElem? h2
    have hsame : es.modify j (fun e => { e with key := bkV x }) = es := by
      apply Array.ext'
      rw [Array.toList_modify, ChangeMaps.modify_eq_set _ _ _ _ h2]
      have : ({ e with key := bkV x } : MapEntry) = e := by rw [← h3]
      rw [this]
      exact set_self _ _ _ h2
    have h1w : Stk (putMap w b es clock) b n c := ⟨_, _, putMap_at hb, hs, hn, he, h0⟩
    refine ⟨e.val, e.born, putMap w b es clock, ?_, h1w.look x wx, putMap_grown hb, fun v => ⟨putMap w b (es.modify j (fun e => { e with val := .int .i64 (v : Int) })) clock, ?_, ?_, putMap_grown hb⟩⟩
    · simp [Instr.mapEntry, run_underlying Tryd.underlying138, MapKept.run_getObj_map hb, K.check w false hl, h1, hj, h3, K.stays w hl, hsame, MapKept.run_setObj_map _ hb, Result.andThen, putMap, goInt]
    · have hw2 := putMap_at (es' := es) (k' := clock) hb
      have hidx : es.findIdx? (fun e' => ((e'.born : Nat) : Int) == ((e.born : Nat) : Int)) = some j := by
        rw [findIdx_arr]
        exact findIdx_born hs.2.1 h2
      simp [Instr.entryStore, MapKept.run_getObj_map hw2, asInt, asIntOf, hidx, MapKept.run_setObj_map _ hw2, Result.andThen]
      unfold putMap
      simp
    · have hl2 : (es.modify j (fun e => { e with val := .int .i64 (v : Int) })).toList = es.toList.set j { e with val := .int .i64 (v : Int) } := by
        rw [Array.toList_modify, ChangeMaps.modify_eq_set _ _ _ _ h2]
      refine ⟨_, _, putMap_at hb, stamped_modify hs _ _ (fun _ _ => rfl) (fun _ _ _ => rfl), by simp; omega, fun e' hm => ?_, fun y wy hy => ?_⟩
      · rw [hl2] at hm
        obtain ⟨i, hi, rfl⟩ := List.getElem_of_mem hm
        have hi' : i < es.toList.length := by simpa using hi
        by_cases q : j = i
        · subst q
          rw [List.getElem_set_self]
          exact ⟨x, wx, h3, by rw [upd_same]⟩
        · rw [List.getElem_set_ne q]
          obtain ⟨y, wy, e1, e2⟩ := he _ (List.getElem_mem hi')
          refine ⟨y, wy, e1, ?_⟩
          rw [upd_other _ _ (fun r => ?_)]
          · exact e2
          · have hjl : j < es.toList.length := (List.getElem?_eq_some_iff.1 h2).1
            have hk : (es.toList[i]'hi').key = (es.toList[j]'hjl).key := by
              rw [e1, r, ← h3, (List.getElem?_eq_some_iff.1 h2).2]
            have := (List.getElem_inj (i := i) (j := j) (h₀ := by simpa using hi') (h₁ := by simpa using hjl) hs.2.2).1 (by simpa using hk)
            exact q this.symm
      · have hne : y ≠ x := fun q => hy { e with val := .int .i64 (v : Int) } (by rw [hl2]; exact List.mem_of_getElem? (List.getElem?_set_self (List.getElem?_eq_some_iff.1 h2).1)) (by rw [q]; exact h3)
        rw [upd_other _ _ hne]
        refine h0 y wy fun e' hm hk => ?_
        obtain ⟨i, hi, rfl⟩ := List.getElem_of_mem hm
        by_cases q : j = i
        · subst q
          have e3 : es.toList[j] = e := (List.getElem?_eq_some_iff.1 h2).2
          rw [e3, h3] at hk
          exact hne (bkV_inj hk.symm)
        · exact hy es.toList[i] (by rw [hl2]; exact List.mem_of_getElem? ((List.getElem?_set_ne q).trans (List.getElem?_eq_getElem hi))) hk
end

section
open Go.RowKit

/-- The books of the first k that a list has more often than another one. -/
def moreTo (xs ys : List Bk) : Nat → List Bk
  | 0 => []
  | k + 1 => if ys.count (xs.getD k default) ≤ (xs.take k).count (xs.getD k default) then moreTo xs ys k ++ [xs.getD k default] else moreTo xs ys k
def more (xs ys : List Bk) : List Bk := moreTo xs ys xs.length
theorem getD_at {xs : List Bk} {k : Nat} (h : k < xs.length) : xs.getD k default = xs[k] := by simp [List.getD, List.getElem?_eq_getElem h]
theorem more_yes {xs ys : List Bk} {k : Nat} (hk : k < xs.length) (h : ys.count xs[k] ≤ (xs.take k).count xs[k]) : moreTo xs ys (k + 1) = moreTo xs ys k ++ [xs[k]] := by
  rw [moreTo, getD_at hk, if_pos h]
theorem more_no {xs ys : List Bk} {k : Nat} (hk : k < xs.length) (h : ¬ ys.count xs[k] ≤ (xs.take k).count xs[k]) : moreTo xs ys (k + 1) = moreTo xs ys k := by
  rw [moreTo, getD_at hk, if_neg h]
theorem moreTo_len (xs ys : List Bk) : ∀ k, (moreTo xs ys k).length ≤ k
  | 0 => Nat.le_refl _
  | k + 1 => by
    have ih := moreTo_len xs ys k
    rw [moreTo]
    split
    · simp; omega
    · omega
theorem more_len (xs ys : List Bk) : (more xs ys).length ≤ xs.length := moreTo_len xs ys _
/-- What is left of each book in the stock of ys when the first k books of xs have been taken. -/
def leftAt (xs ys : List Bk) (k : Nat) (b : Bk) : Nat := ys.count b - (xs.take k).count b
theorem left_zero (xs ys : List Bk) (b : Bk) : leftAt xs ys 0 b = ys.count b := by simp [leftAt]
theorem take_count {xs : List Bk} {k : Nat} (hk : k < xs.length) (b : Bk) : (xs.take (k + 1)).count b = (xs.take k).count b + (if xs[k] = b then 1 else 0) := by
  rw [List.take_succ_eq_append_getElem hk, List.count_append, List.count_singleton]
  simp only [beq_iff_eq]
theorem left_other {xs ys : List Bk} {k : Nat} (hk : k < xs.length) {b : Bk} (h : xs[k] ≠ b) : leftAt xs ys (k + 1) b = leftAt xs ys k b := by
  unfold leftAt
  rw [take_count hk, if_neg h]
  rfl
theorem left_same {xs ys : List Bk} {k : Nat} (hk : k < xs.length) : leftAt xs ys (k + 1) xs[k] = leftAt xs ys k xs[k] - 1 := by
  unfold leftAt
  rw [take_count hk, if_pos rfl]
  omega
theorem left_none {xs ys : List Bk} {k : Nat} (hk : k < xs.length) : leftAt xs ys k xs[k] = 0 ↔ ys.count xs[k] ≤ (xs.take k).count xs[k] := by
  unfold leftAt
  omega
theorem moreTo_nil {xs ys : List Bk} : ∀ k, k ≤ xs.length → (moreTo xs ys k = [] ↔ ∀ b, (xs.take k).count b ≤ ys.count b)
  | 0, _ => by simp [moreTo]
  | k + 1, h => by
    have ih := moreTo_nil (xs := xs) (ys := ys) k (by omega)
    have hk : k < xs.length := by omega
    by_cases hm : ys.count xs[k] ≤ (xs.take k).count xs[k]
    · rw [more_yes hk hm]
      constructor
      · intro h; simp at h
      · intro h
        have := h xs[k]
        rw [take_count hk, if_pos rfl] at this
        omega
    · rw [more_no hk hm, ih]
      constructor
      · intro h b
        rw [take_count hk]
        by_cases e : xs[k] = b
        · subst e; rw [if_pos rfl]; omega
        · rw [if_neg e]; exact h b
      · intro h b
        have := h b
        rw [take_count hk] at this
        omega
theorem more_nil {xs ys : List Bk} : more xs ys = [] ↔ ∀ b, xs.count b ≤ ys.count b := by
  have := moreTo_nil (xs := xs) (ys := ys) xs.length (Nat.le_refl _)
  rw [List.take_length] at this
  exact this
theorem count_le_len : ∀ (xs ys : List Bk), (∀ b, xs.count b ≤ ys.count b) → xs.length ≤ ys.length ∧ (xs.length = ys.length → ∀ b, ys.count b ≤ xs.count b)
  | [], ys, _ => ⟨by simp, fun h b => by rw [List.eq_nil_of_length_eq_zero h.symm]; exact Nat.le_refl _⟩
  | x :: t, ys, h => by
    have hx : x ∈ ys := by
      have := h x
      rw [List.count_cons_self] at this
      exact List.count_pos_iff.1 (by omega)
    have hl := List.length_erase_of_mem hx
    have hp : 0 < ys.length := List.length_pos_of_mem hx
    have ht : ∀ b, t.count b ≤ (ys.erase x).count b := fun b => by
      have := h b
      rw [List.count_cons] at this
      rw [List.count_erase]
      split at this <;> rename_i e
      · rw [if_pos (by simpa [BEq.comm] using e)]; omega
      · rw [if_neg (by simpa [BEq.comm] using e)]; omega
    obtain ⟨i1, i2⟩ := count_le_len t (ys.erase x) ht
    refine ⟨by simp only [List.length_cons]; omega, fun e b => ?_⟩
    have := i2 (by simp only [List.length_cons] at e; omega) b
    rw [List.count_erase] at this
    rw [List.count_cons]
    split at this <;> rename_i e
    · rw [if_pos (by simpa [BEq.comm] using e)]; omega
    · rw [if_neg (by simpa [BEq.comm] using e)]; omega
/-- Both lists have the same stock. -/
def stkB (xs ys : List Bk) : Bool := decide (xs.length = ys.length) && decide ((more xs ys).length = 0)
theorem stk_both (xs ys : List Bk) : stkB xs ys = (decide ((more xs ys).length = 0) && decide ((more ys xs).length = 0)) := by
  unfold stkB
  by_cases h1 : more xs ys = []
  · have h1' := more_nil.1 h1
    obtain ⟨_, c2⟩ := count_le_len xs ys h1'
    by_cases h2 : xs.length = ys.length
    · have h3 : more ys xs = [] := more_nil.2 (c2 h2)
      simp [h1, h2, h3]
    · have h3 : more ys xs ≠ [] := fun e => h2 (by
        have a := (count_le_len xs ys h1').1
        have b := (count_le_len ys xs (more_nil.1 e)).1
        omega)
      have h4 : (more ys xs).length ≠ 0 := fun e => h3 (List.eq_nil_of_length_eq_zero e)
      simp [h2, h4]
  · have h4 : (more xs ys).length ≠ 0 := fun e => h1 (List.eq_nil_of_length_eq_zero e)
    simp [h4]
end

section
open Go.RowKit Go.Sort

theorem elemBooksS : Tryd.prog.underlying 27 = some (.slice (Tryd.prog.elem 27)) := by kernel_rfl
theorem sizeBookS (w : World) : (sizeOf (Tryd.prog.elem 27)).run Tryd.prog w = .ok 8 w := by kernel_rfl
theorem run_to (g o n c k : Nat) (hk : k ≤ c) (h0 : 0 < c) (w : World) :
    (Instr.slice 27 (.slice (some ⟨g, o, none⟩) n c) none (some (.int .i64 (k : Int))) none).run Tryd.prog w = .ok (.slice (some ⟨g, o, none⟩) k c) w := by
  rw [run_slice_h w _ _ _ _ elemBooksS _ _ (by omega) (by omega), sizeBookS]
  have e : ¬ c = 0 := by omega
  simp [Result.andThen, sliced, e, Addr.add]
theorem BooksAt.take {w : World} {g o : Nat} {xs : List Bk} (h : BooksAt w g o xs) (k : Nat) : BooksAt w g o (xs.take k) := by
  intro i hi j v hv
  rw [List.getElem_take] at hv
  exact h i (by rw [List.length_take] at hi; omega) j v hv

set_option maxHeartbeats 4000000 in
theorem l07Count_any (v : Value) (xs : List Bk) (b : Bk) (w : World) (hs : SliceOf w v xs) (hn : xs.length ≤ 1048576) :
    Calls Tryd.prog 84 #[v, .agg #[.int .i16 b.c, .int .u8 b.m0, .int .u8 b.m1, .int .u8 b.m2, .int .i16 b.v, .int .i16 b.wi, .int .i16 b.hi, .int .i16 b.we]] w fun e w' => e = .returned (.int .i64 ((xs.count b : Nat) : Int)) ∧ Below w.heap.size w w' := by
  obtain ⟨A, c, rfl, hs⟩ := hs
  have HS := Lib.hid hs
  have GX := Lib.hid (show Below w.heap.size w (w.alloc (.cells #[.int .i16 b.c, .int .u8 b.m0, .int .u8 b.m1, .int .u8 b.m2, .int .i16 b.v, .int .i16 b.wi, .int .i16 b.hi, .int .i16 b.we] 53)) from (Below.refl _ _).alloc (Nat.le_refl _) _)
  have BX := Lib.hid (heap_alloc_new w (.cells #[.int .i16 b.c, .int .u8 b.m0, .int .u8 b.m1, .int .u8 b.m2, .int .i16 b.v, .int .i16 b.wi, .int .i16 b.hi, .int .i16 b.we] 53))
  have YX := Lib.hid (show w.heap.size < (w.alloc (.cells #[.int .i16 b.c, .int .u8 b.m0, .int .u8 b.m1, .int .u8 b.m2, .int .i16 b.v, .int .i16 b.wi, .int .i16 b.hi, .int .i16 b.we] 53)).heap.size by simp)
  clear hs
  go_enter Tryd.func84, Tryd.ntmps84
  go_upto_region 1 with (fail)
  generalize World.alloc w _ = W1 at GX BX YX ⊢
  go_wp2
  go_loopw [5, 6] (fun n_ i_ wr => ∃ (k m : Nat), k ≤ xs.length ∧ m ≤ k ∧ i_ = .int .i64 (k : Int) ∧ n_ = .int .i64 (m : Int) ∧ m = (xs.take k).count b ∧ Below W1.heap.size W1 wr) (fun _ i_ _ => xs.length - (intOf i_).toNat)
  case atStart => exact ⟨0, 0, Nat.zero_le _, Nat.le_refl _, rfl, rfl, by simp, Below.refl _ _⟩
  case round =>
    obtain ⟨k, m, hk, hmk, rfl, rfl, hm, hb⟩ := hrel
    have HM := Lib.hid hm
    have HB := Lib.hid hb
    clear hm hb
    by_cases hlt : k < xs.length
    · obtain ⟨ga, oa, rfl, hga, hat⟩ := HS.out (by omega)
      obtain ⟨p0, p1, p2, p3, p4, p5, p6, p7⟩ := booksAt_some (hat.below (bnext GX.out HB.out) hga) hlt
      have hbx := (HB.out.block _ YX.out).trans BX.out
      have q0 : wr.cell? ⟨w.heap.size, 0, none⟩ = some (.int .i16 b.c) := cell_of_row wr _ 0 _ _ _ hbx
      have q1 : wr.cell? ⟨w.heap.size, 1, none⟩ = some (.int .u8 b.m0) := cell_of_row wr _ 1 _ _ _ hbx
      have q2 : wr.cell? ⟨w.heap.size, 2, none⟩ = some (.int .u8 b.m1) := cell_of_row wr _ 2 _ _ _ hbx
      have q3 : wr.cell? ⟨w.heap.size, 3, none⟩ = some (.int .u8 b.m2) := cell_of_row wr _ 3 _ _ _ hbx
      have q4 : wr.cell? ⟨w.heap.size, 4, none⟩ = some (.int .i16 b.v) := cell_of_row wr _ 4 _ _ _ hbx
      have q5 : wr.cell? ⟨w.heap.size, 5, none⟩ = some (.int .i16 b.wi) := cell_of_row wr _ 5 _ _ _ hbx
      have q6 : wr.cell? ⟨w.heap.size, 6, none⟩ = some (.int .i16 b.hi) := cell_of_row wr _ 6 _ _ _ hbx
      have q7 : wr.cell? ⟨w.heap.size, 7, none⟩ = some (.int .i16 b.we) := cell_of_row wr _ 7 _ _ _ hbx
      have TC := Lib.hid (take_count hlt b)
      have EQ := eqlBook xs[k] b
      clear hat hbx
      by_cases he : xs[k] = b
      · rw [decide_eq_true he] at EQ
        have TC2 := Lib.hid (show (xs.take (k + 1)).count b = m + 1 by rw [TC.out, if_pos he, HM.out])
        clear he
        go_wp2
        go_quiet (fail)
        clear p0 p1 p2 p3 p4 p5 p6 p7 q0 q1 q2 q3 q4 q5 q6 q7 EQ
        go_wp2
        go_roundw
        case rel => exact ⟨k + 1, m + 1, by omega, by omega, by go_num, by go_num, TC2.out.symm, below_drewN HB.out _⟩
        case measure => simp [intOf]; omega
      · rw [decide_eq_false he] at EQ
        have TC2 := Lib.hid (show (xs.take (k + 1)).count b = m by rw [TC.out, if_neg he, HM.out]; rfl)
        clear he
        go_wp2
        go_quiet (fail)
        clear p0 p1 p2 p3 p4 p5 p6 p7 q0 q1 q2 q3 q4 q5 q6 q7 EQ
        go_wp2
        go_roundw
        case rel => exact ⟨k + 1, m, by omega, by omega, by go_num, rfl, TC2.out.symm, below_drewN HB.out _⟩
        case measure => simp [intOf]; omega
    · obtain rfl : k = xs.length := by omega
      have E := Lib.hid (show m = xs.count b by rw [HM.out, List.take_length])
      go_wp2
      go_ret
      exact ⟨by rw [E.out]; rfl, bnext GX.out HB.out⟩

set_option maxHeartbeats 8000000 in
theorem l07More_any (b0 o0 c0 : Nat) (v1 : Value) (xs ys : List Bk) (w : World) (hs : SliceOf w (.slice (some ⟨b0, o0, none⟩) xs.length c0) xs) (hcap : xs.length ≤ c0) (hs1 : SliceOf w v1 ys) (hn : xs.length ≤ 1048576) (hny : ys.length ≤ 1048576) :
    Calls Tryd.prog 71 #[.slice (some ⟨b0, o0, none⟩) xs.length c0, v1] w fun e w' => ∃ u, e = .returned u ∧ ResB w' w.heap.size u (more xs ys) ∧ Below w.heap.size w w' := by
  have S1 := Lib.hid hs1
  have HS := Lib.hid (fun (h : 0 < xs.length) => show b0 < w.heap.size ∧ BooksAt w b0 o0 xs by
    obtain ⟨A', c', e, h2⟩ := hs
    obtain ⟨g, o, e2, h3, h4⟩ := h2 h
    injection e with e3 _ _
    rw [e2] at e3
    injection e3 with e3
    injection e3 with e4 e5
    subst e4 e5
    exact ⟨h3, h4⟩)
  obtain ⟨i0, hi0, hz0, hz1, hz2⟩ := info_parts infoBook
  have O0 := Lib.hid (show (w.alloc (.cells #[] 53)).ownsRow w.heap.size 53 8 (.slice (some ⟨w.heap.size, 0, none⟩) 0 0) (moreTo xs ys 0).length (flB (moreTo xs ys 0)) from ResB.own1 w _ (Nat.le_refl _))
  have B0 := Lib.hid (show Below w.heap.size w (w.alloc (.cells #[] 53)) from (Below.refl _ _).alloc (Nat.le_refl _) _)
  clear hs hs1
  go_enter Tryd.func71, Tryd.ntmps71
  go_wp2
  go_loopw [5, 6] (fun v_ i_ wr => ∃ (v : Value) (k : Nat), v = v_ ∧ k ≤ xs.length ∧ i_ = .int .i64 (k : Int) ∧ wr.ownsRow w.heap.size 53 8 v (moreTo xs ys k).length (flB (moreTo xs ys k)) ∧ Below w.heap.size w wr) (fun _ i_ _ => xs.length - (intOf i_).toNat)
  case atStart => exact ⟨_, 0, rfl, Nat.zero_le _, rfl, O0.out, B0.out⟩
  case round =>
    obtain ⟨v, k, rfl, hk, rfl, hown, hb⟩ := hrel
    have OA := Lib.hid hown
    have HB := Lib.hid hb
    have hsz := hb.size
    have L1 := moreTo_len xs ys k
    clear hown hb
    by_cases hlt : k < xs.length
    · obtain ⟨hga, hat⟩ := HS.out (by omega)
      have MY := Lib.hid (fun h => more_yes (ys := ys) hlt h)
      have MN := Lib.hid (fun h => more_no (ys := ys) hlt h)
      have AT := Lib.hid (hat.below HB.out hga)
      obtain ⟨p0, p1, p2, p3, p4, p5, p6, p7⟩ := booksAt_some AT.out hlt
      have hgw := Nat.lt_of_lt_of_le hga hsz
      have p0 := belowBy_cell hgw p0; have p1 := belowBy_cell hgw p1; have p2 := belowBy_cell hgw p2; have p3 := belowBy_cell hgw p3
      have p4 := belowBy_cell hgw p4; have p5 := belowBy_cell hgw p5; have p6 := belowBy_cell hgw p6; have p7 := belowBy_cell hgw p7
      have RT := run_to b0 o0 xs.length c0 k (by omega) (by omega)
      have C1 := Lib.hid (fun (p : BelowBy wr) (b : Bk) => l07Count_any (.slice (some ⟨b0, o0, none⟩) k c0) (xs.take k) b p.W (⟨_, c0, by rw [List.length_take, Nat.min_eq_left (by omega)], fun _ => ⟨b0, o0, rfl, Nat.lt_of_lt_of_le hgw p.h.size, (AT.out.take k).below p.h hgw⟩⟩) (by rw [List.length_take]; omega))
      have C2 := Lib.hid (fun (p : BelowBy wr) (b : Bk) => l07Count_any v1 ys b p.W ((S1.out.below HB.out).below p.h) hny)
      clear hat
      generalize hb0 : xs[k] = b at *
      generalize hc1 : (xs.take k).count b = m1 at *
      generalize hc2 : ys.count b = m2 at *
      have C1b := Lib.hid (fun p => hc1 ▸ C1.out p b)
      have C2b := Lib.hid (fun p => hc2 ▸ C2.out p b)
      clear C1 C2 hc1 hc2
      have HB0 := Lib.hid hb0
      clear hb0
      go_wp2
      refine wp_region_below (by kernel_rfl) (by kernel_rfl) ?_
      iterate 15 (first | go_big_quiet_step ((go_at_call 84; first | (with_reducible exact calls_below (C1b.out _)) | (with_reducible exact calls_below (C2b.out _)))) | quiet_step ((go_at_call 84; first | (with_reducible exact calls_below (C1b.out _)) | (with_reducible exact calls_below (C2b.out _)))))
      refine wpQuiet_nil ?_
      rintro w2 ⟨⟨_, hq⟩, rfl⟩
      have B2 := Lib.hid (HB.out.trans (hq.mono hsz))
      have O2 := Lib.hid (ownBelow OA.out hq)
      have z2 := B2.out.size
      clear p0 p1 p2 p3 p4 p5 p6 p7 RT C1b C2b
      by_cases hc : m2 ≤ m1
      · have M0 := Lib.hid (MY.out hc)
        obtain ⟨p0, p1, p2, p3, p4, p5, p6, p7⟩ := booksAt_some (AT.out.below hq hgw) hlt
        rw [HB0.out] at p0 p1 p2 p3 p4 p5 p6 p7
        clear MY MN hq
        go_wp2_with (at_builtin; refine wpList_append_own _ rfl (.tmp 29) (.tmp 34) _ rfl w.heap.size 53 i0 (.agg #[.int .i16 0, .int .u8 0, .int .u8 0, .int .u8 0, .int .i16 0, .int .i16 0, .int .i16 0, .int .i16 0]) 8 14 Tryd.underlying27 hi0 hz0 hz1 hz2 rfl (by decide) _ _ _ rfl (O2.out.alloc _) ⟨w2.heap.size, 0, none⟩ 1 1 [.int .i16 b.c, .int .u8 b.m0, .int .u8 b.m1, .int .u8 b.m2, .int .i16 b.v, .int .i16 b.wi, .int .i16 b.hi, .int .i16 b.we] rfl rfl (cell8_new _ _ _ _ _ _ _ _ _ _) (one8 b) (by unfold maxLen; omega) (by omega) (by simp; omega) ?_)
        intro v' w4 hown' hgrow' _
        have OC := Lib.hid (show w4.ownsRow w.heap.size 53 8 v' (moreTo xs ys (k + 1)).length (flB (moreTo xs ys (k + 1))) by rw [M0.out, flB_snoc, List.length_append]; exact hown')
        have B4 := Lib.hid ((B2.out.alloc z2 _).grown hgrow' (by simp; omega) (fun k hk => (O2.out.lt k hk).1))
        clear hown' hgrow'
        go_wp2
        go_roundw
        case rel => exact ⟨_, k + 1, rfl, by omega, by go_num, OC.out, B4.out⟩
        case measure => simp [intOf]; omega
      · have M0 := Lib.hid (MN.out hc)
        have hc2 : m1 < m2 := by omega
        clear MY MN hq
        go_wp2
        go_roundw
        case rel => exact ⟨_, k + 1, rfl, by omega, by go_num, by rw [M0.out]; exact O2.out, B2.out⟩
        case measure => simp [intOf]; omega
    · obtain rfl : k = xs.length := by omega
      go_wp2
      go_ret
      exact ⟨_, rfl, ResB.ofL OA.out rfl, HB.out⟩
end

section
open Go.RowKit Go.Sort

set_option maxHeartbeats 8000000 in
theorem stockOf_any (v : Value) (xs : List Bk) (wf : ∀ b ∈ xs, b.Wf) (w : World) (hs : SliceOf w v xs) (hn : xs.length ≤ 1048576) :
    Calls Tryd.prog 86 #[v] w fun e w' => ∃ b n, e = .returned (.map (some b)) ∧ w.heap.size ≤ b ∧ Stk w' b n (fun x => xs.count x) ∧ Below w.heap.size w w' := by
  obtain ⟨A, c, rfl, hs⟩ := hs
  have HS := Lib.hid hs
  have WF := Lib.hid wf
  have hmm := @run_makeMap Tryd.prog
  have S0 := Lib.hid (show Stk (w.alloc (.map #[] 0)) w.heap.size 0 (fun x => (xs.take 0).count x) from Stk.made w)
  have B0 := Lib.hid (show Below w.heap.size w (w.alloc (.map #[] 0)) from (Below.refl _ _).alloc (Nat.le_refl _) _)
  clear hs wf
  go_enter Tryd.func86, Tryd.ntmps86
  go_wp2
  go_loopw [9] (fun i_ wr => ∃ k : Nat, k ≤ xs.length ∧ i_ = .int .i64 (k : Int) ∧ Stk wr w.heap.size k (fun x => (xs.take k).count x) ∧ Below w.heap.size w wr) (fun i_ _ => xs.length - (intOf i_).toNat)
  case atStart => exact ⟨0, Nat.zero_le _, rfl, S0.out, B0.out⟩
  case round =>
    obtain ⟨k, hk, rfl, hstk, hb⟩ := hrel
    have SK := Lib.hid hstk
    have HB := Lib.hid hb
    have hsz := hb.size
    clear hstk hb
    by_cases hlt : k < xs.length
    · obtain ⟨ga, oa, rfl, hga, hat⟩ := HS.out (by omega)
      obtain ⟨p0, p1, p2, p3, p4, p5, p6, p7⟩ := booksAt_some (hat.below HB.out hga) hlt
      have WB := Lib.hid (WF.out _ (List.getElem_mem hlt))
      have TC := Lib.hid (fun y => take_count hlt y)
      clear hat
      generalize xs[k] = b at *
      have cl : (xs.take k).count b ≤ k := Nat.le_trans List.count_le_length (by rw [List.length_take]; omega)
      have GX := Lib.hid (show Below wr.heap.size wr (wr.alloc (.cells #[.int .i16 b.c, .int .u8 b.m0, .int .u8 b.m1, .int .u8 b.m2, .int .i16 b.v, .int .i16 b.wi, .int .i16 b.hi, .int .i16 b.we] 53)) from (Below.refl _ _).alloc (Nat.le_refl _) _)
      have BX := Lib.hid (heap_alloc_new wr (.cells #[.int .i16 b.c, .int .u8 b.m0, .int .u8 b.m1, .int .u8 b.m2, .int .i16 b.v, .int .i16 b.wi, .int .i16 b.hi, .int .i16 b.we] 53))
      go_wp2
      generalize World.alloc wr _ = W1 at GX BX ⊢
      clear p0 p1 p2 p3 p4 p5 p6 p7
      have q0 : W1.cell? ⟨wr.heap.size, 0, none⟩ = some (.int .i16 b.c) := cell_of_row W1 _ 0 _ _ _ BX.out
      have q1 : W1.cell? ⟨wr.heap.size, 1, none⟩ = some (.int .u8 b.m0) := cell_of_row W1 _ 1 _ _ _ BX.out
      have q2 : W1.cell? ⟨wr.heap.size, 2, none⟩ = some (.int .u8 b.m1) := cell_of_row W1 _ 2 _ _ _ BX.out
      have q3 : W1.cell? ⟨wr.heap.size, 3, none⟩ = some (.int .u8 b.m2) := cell_of_row W1 _ 3 _ _ _ BX.out
      have q4 : W1.cell? ⟨wr.heap.size, 4, none⟩ = some (.int .i16 b.v) := cell_of_row W1 _ 4 _ _ _ BX.out
      have q5 : W1.cell? ⟨wr.heap.size, 5, none⟩ = some (.int .i16 b.wi) := cell_of_row W1 _ 5 _ _ _ BX.out
      have q6 : W1.cell? ⟨wr.heap.size, 6, none⟩ = some (.int .i16 b.hi) := cell_of_row W1 _ 6 _ _ _ BX.out
      have q7 : W1.cell? ⟨wr.heap.size, 7, none⟩ = some (.int .i16 b.we) := cell_of_row W1 _ 7 _ _ _ BX.out
      have SX := Lib.hid (Stk.drew (SK.out.below GX.out))
      have hL := SX.out.look b WB.out
      obtain ⟨v0, st, w3, hE, hL3, g3, hS⟩ := SX.out.entry b WB.out
      obtain ⟨w4, hS4, hk4, g4⟩ := hS ((xs.take k).count b + 1)
      have HK4 := Lib.hid hk4
      have HG4 := Lib.hid g4
      have BD := Lib.hid ((bnext HB.out GX.out).drew)
      clear hk4 g4 g3 hS
      unfold bkV at hL hL3 hE
      push_cast at hS4
      generalize hm : (xs.take k).count b = m at *
      have HM := Lib.hid hm
      clear hm
      go_region
      all_goals
        have B4 := Lib.hid (BD.out.grown HG4.out BD.out.size (fun k hk => by injection hk with hk; omega))
        have S4 := Lib.hid (show Stk w4 w.heap.size (k + 1) (fun x => (xs.take (k + 1)).count x) by
          have e : (fun x => (xs.take (k + 1)).count x) = upd (fun x => (xs.take k).count x) b (m + 1) := by
            funext y
            rw [TC.out y]
            by_cases q : y = b
            · subst q; rw [upd_same, if_pos rfl, HM.out]
            · rw [upd_other _ _ q, if_neg (fun r => q r.symm)]; rfl
          rw [e]
          exact HK4.out)
        clear q0 q1 q2 q3 q4 q5 q6 q7 hL hL3 hE hS4
        go_wp2
        go_roundw
        case rel => exact ⟨k + 1, by omega, by go_num, S4.out, B4.out⟩
        case measure => simp [intOf]; omega
    · obtain rfl : k = xs.length := by omega
      have SE := Lib.hid (show Stk wr w.heap.size xs.length (fun x => xs.count x) by have := SK.out; rwa [List.take_length] at this)
      go_wp2
      go_ret
      exact ⟨_, _, rfl, Nat.le_refl _, SE.out, HB.out⟩
end

section
open Go.RowKit Go.Sort

theorem gbNext {w w1 w2 : World} {b : Nat} {row : Option Nat} (h1 : w.grownBy w1 (some b)) (h2 : w1.grownBy w2 row) (hr : ∀ k, row = some k → w.heap.size ≤ k ∨ k = b) : w.grownBy w2 (some b) :=
  ⟨h2.os.trans h1.os, h2.tape.trans h1.tape, h2.output.trans h1.output, Nat.le_trans h1.size h2.size, fun i hi hne => (h2.block i (Nat.lt_of_lt_of_le hi h1.size) (fun e => by
    rcases hr i e.symm with h | h
    · omega
    · exact hne (by rw [h]))).trans (h1.block i hi hne)⟩
theorem Stk.kept {w w' : World} {b n : Nat} {c : Bk → Nat} {row : Option Nat} (h : Stk w b n c) (hg : w.grownBy w' row) (hne : some b ≠ row) : Stk w' b n c := by
  have hl := h.lt
  obtain ⟨es, clock, h1, h2⟩ := h
  exact ⟨es, clock, (hg.block b hl hne).trans h1, h2⟩
theorem BooksAt.keptBy {w w' : World} {g o : Nat} {xs : List Bk} {b : Nat} (h : BooksAt w g o xs) (hg : w.grownBy w' (some b)) (hl : g < w.heap.size) (hne : g ≠ b) : BooksAt w' g o xs := by
  intro i hi j v hv
  rw [World.cell?_of_block (w := w) (hg.block g hl (fun e => by injection e with e; exact hne e))]
  exact h i hi j v hv
theorem Stk.mono {w : World} {b n n' : Nat} {c : Bk → Nat} (h : Stk w b n c) (hn : n ≤ n') : Stk w b n' c := by
  obtain ⟨es, clock, h1, h2, h3, h4⟩ := h
  exact ⟨es, clock, h1, h2, Nat.le_trans h3 hn, h4⟩

set_option maxHeartbeats 8000000 in
theorem take_any (b0 n : Nat) (c : Bk → Nat) (b : Bk) (wb : b.Wf) (w : World) (h : Stk w b0 n c) (hc : c b ≤ 1048576) :
    Calls Tryd.prog 87 #[.map (some b0), .agg #[.int .i16 b.c, .int .u8 b.m0, .int .u8 b.m1, .int .u8 b.m2, .int .i16 b.v, .int .i16 b.wi, .int .i16 b.hi, .int .i16 b.we]] w fun e w' => e = .returned (.bool (decide (0 < c b))) ∧ Stk w' b0 (n + 1) (upd c b (c b - 1)) ∧ w.grownBy w' (some b0) := by
  have GX := Lib.hid (World.grownBy_alloc w (.cells #[.int .i16 b.c, .int .u8 b.m0, .int .u8 b.m1, .int .u8 b.m2, .int .i16 b.v, .int .i16 b.wi, .int .i16 b.hi, .int .i16 b.we] 53) (some b0))
  have BX := Lib.hid (heap_alloc_new w (.cells #[.int .i16 b.c, .int .u8 b.m0, .int .u8 b.m1, .int .u8 b.m2, .int .i16 b.v, .int .i16 b.wi, .int .i16 b.hi, .int .i16 b.we] 53))
  have SX := Lib.hid (h.below ((Below.refl w.heap.size w).alloc (Nat.le_refl _) (.cells #[.int .i16 b.c, .int .u8 b.m0, .int .u8 b.m1, .int .u8 b.m2, .int .i16 b.v, .int .i16 b.wi, .int .i16 b.hi, .int .i16 b.we] 53)))
  clear h
  by_cases h0 : c b = 0
  · have E := Lib.hid (show upd c b (c b - 1) = c by
      funext y
      by_cases q : y = b
      · subst q; rw [upd_same, h0]
      · rw [upd_other _ _ q])
    have L0 := Lib.hid (show (decide (0 < c b)) = false by rw [h0]; rfl)
    go_enter Tryd.func87, Tryd.ntmps87
    have hL := SX.out.look b wb
    rw [h0] at hL
    unfold bkV at hL
    have H0 := Lib.hid h0
    clear h0
    go_wp2
    go_ret
    exact ⟨by rw [L0.out]; rfl, by rw [E.out]; exact SX.out.mono (by omega), GX.out⟩
  · have L0 := Lib.hid (show (decide (0 < c b)) = true by simp; omega)
    go_enter Tryd.func87, Tryd.ntmps87
    go_upto_region 1 with (fail)
    generalize World.alloc w _ = W1 at GX BX SX ⊢
    have q0 : W1.cell? ⟨w.heap.size, 0, none⟩ = some (.int .i16 b.c) := cell_of_row W1 _ 0 _ _ _ BX.out
    have q1 : W1.cell? ⟨w.heap.size, 1, none⟩ = some (.int .u8 b.m0) := cell_of_row W1 _ 1 _ _ _ BX.out
    have q2 : W1.cell? ⟨w.heap.size, 2, none⟩ = some (.int .u8 b.m1) := cell_of_row W1 _ 2 _ _ _ BX.out
    have q3 : W1.cell? ⟨w.heap.size, 3, none⟩ = some (.int .u8 b.m2) := cell_of_row W1 _ 3 _ _ _ BX.out
    have q4 : W1.cell? ⟨w.heap.size, 4, none⟩ = some (.int .i16 b.v) := cell_of_row W1 _ 4 _ _ _ BX.out
    have q5 : W1.cell? ⟨w.heap.size, 5, none⟩ = some (.int .i16 b.wi) := cell_of_row W1 _ 5 _ _ _ BX.out
    have q6 : W1.cell? ⟨w.heap.size, 6, none⟩ = some (.int .i16 b.hi) := cell_of_row W1 _ 6 _ _ _ BX.out
    have q7 : W1.cell? ⟨w.heap.size, 7, none⟩ = some (.int .i16 b.we) := cell_of_row W1 _ 7 _ _ _ BX.out
    have hL0 := SX.out.look b wb
    have SD := Lib.hid (Stk.drew SX.out)
    have hL := SD.out.look b wb
    obtain ⟨v0, st, w3, hE, hL3, g3, hS⟩ := SD.out.entry b wb
    obtain ⟨w4, hS4, hk4, g4⟩ := hS (c b - 1)
    have HK4 := Lib.hid hk4
    have HG4 := Lib.hid (show W1.grownBy w4 (some b0) from ⟨g4.os, g4.tape, g4.output, g4.size, g4.block⟩)
    clear hk4 g4 g3 hS
    unfold bkV at hL0 hL hL3 hE
    rw [show ((c b - 1 : Nat) : Int) = (c b : Int) - 1 by omega] at hS4
    obtain ⟨m, hm⟩ : ∃ m : Int, m = ((c b : Nat) : Int) := ⟨_, rfl⟩
    have m1 : 1 ≤ m := by omega
    have m2 : m ≤ 1048576 := by omega
    have m0 : (m == 0) = false := by simp; omega
    rw [← hm] at hL0 hL hL3 hS4
    clear hm h0 hc
    go_wp2
    go_region
    all_goals
      go_wp2
      go_ret
      exact ⟨by rw [L0.out]; rfl, HK4.out, gbNext GX.out HG4.out (fun k hk => by injection hk with hk; exact .inr hk.symm)⟩

set_option maxHeartbeats 8000000 in
theorem notTaken_any (v : Value) (xs ys : List Bk) (wf : ∀ b ∈ xs, b.Wf) (b0 n : Nat) (w : World) (hs : SliceOf w v xs) (h : Stk w b0 n (fun x => ys.count x)) (hne : 0 < xs.length → ∀ g, v.ownBlock = some g → g ≠ b0) (hn : xs.length ≤ 1048576) (hny : ys.length ≤ 1048576) :
    Calls Tryd.prog 85 #[v, .func (.func 87) #[.map (some b0)] #[]] w fun e w' => ∃ u, e = .returned u ∧ ResB w' w.heap.size u (more xs ys) ∧ w.grownBy w' (some b0) := by
  obtain ⟨A, c, rfl, hs⟩ := hs
  have HS := Lib.hid hs
  have WF := Lib.hid wf
  have HNE := Lib.hid (fun (hp : 0 < xs.length) g o (h : A = some ⟨g, o, none⟩) => show g ≠ b0 from hne hp g (by rw [h]; rfl))
  have hb0 := h.lt
  obtain ⟨i0, hi0, hz0, hz1, hz2⟩ := info_parts infoBook
  have S0 := Lib.hid (show Stk w b0 (n + 0) (leftAt xs ys 0) by
    have e : leftAt xs ys 0 = fun x => ys.count x := by funext x; exact left_zero xs ys x
    rw [e]; exact h)
  have O0 := Lib.hid (show w.ownsRow w.heap.size 53 8 (.slice none 0 0) (moreTo xs ys 0).length (flB (moreTo xs ys 0)) from ResB.own0 w _)
  clear hs wf h hne
  go_enter Tryd.func85, Tryd.ntmps85
  go_wp2
  go_loopw [5, 10] (fun v_ i_ wr => ∃ (v : Value) (k : Nat), v = v_ ∧ k ≤ xs.length ∧ i_ = .int .i64 (k : Int) ∧ wr.ownsRow w.heap.size 53 8 v (moreTo xs ys k).length (flB (moreTo xs ys k)) ∧ Stk wr b0 (n + k) (leftAt xs ys k) ∧ w.grownBy wr (some b0)) (fun _ i_ _ => xs.length - (intOf i_).toNat)
  case atStart => exact ⟨_, 0, rfl, Nat.zero_le _, rfl, O0.out, S0.out, World.grownBy.refl w _⟩
  case round =>
    obtain ⟨v, k, rfl, hk, rfl, hown, hstk, hg⟩ := hrel
    have OA := Lib.hid hown
    have SK := Lib.hid hstk
    have HG := Lib.hid hg
    have hsz := hg.size
    have L1 := moreTo_len xs ys k
    clear hown hstk hg
    by_cases hlt : k < xs.length
    · obtain ⟨ga, oa, rfl, hga, hat⟩ := HS.out (by omega)
      have hgb : ga ≠ b0 ∨ ga = b0 := by omega
      have WB := Lib.hid (WF.out _ (List.getElem_mem hlt))
      have MY := Lib.hid (fun h => more_yes (ys := ys) hlt h)
      have MN := Lib.hid (fun h => more_no (ys := ys) hlt h)
      have LN := Lib.hid (left_none (ys := ys) hlt)
      have LS := Lib.hid (left_same (ys := ys) hlt)
      have LOT := Lib.hid (fun y h => left_other (ys := ys) hlt (b := y) h)
      obtain ⟨p0, p1, p2, p3, p4, p5, p6, p7⟩ := booksAt_some (hat.keptBy HG.out hga (HNE.out (by omega) _ _ rfl)) hlt
      have LB := Lib.hid (show leftAt xs ys k xs[k] ≤ 1048576 from Nat.le_trans (Nat.sub_le _ _) (Nat.le_trans List.count_le_length hny))
      clear hat hgb
      generalize xs[k] = b at *
      have GX := Lib.hid (World.grownBy_alloc wr (.cells #[.int .i16 b.c, .int .u8 b.m0, .int .u8 b.m1, .int .u8 b.m2, .int .i16 b.v, .int .i16 b.wi, .int .i16 b.hi, .int .i16 b.we] 53) (some b0))
      have EX := Lib.hid ((Below.refl wr.heap.size wr).alloc (Nat.le_refl _) (.cells #[.int .i16 b.c, .int .u8 b.m0, .int .u8 b.m1, .int .u8 b.m2, .int .i16 b.v, .int .i16 b.wi, .int .i16 b.hi, .int .i16 b.we] 53))
      have BX := Lib.hid (heap_alloc_new wr (.cells #[.int .i16 b.c, .int .u8 b.m0, .int .u8 b.m1, .int .u8 b.m2, .int .i16 b.v, .int .i16 b.wi, .int .i16 b.hi, .int .i16 b.we] 53))
      have YX := Lib.hid (show wr.heap.size < (wr.alloc (.cells #[.int .i16 b.c, .int .u8 b.m0, .int .u8 b.m1, .int .u8 b.m2, .int .i16 b.v, .int .i16 b.wi, .int .i16 b.hi, .int .i16 b.we] 53)).heap.size by simp)
      go_upto_region 5 with (fail)
      generalize World.alloc wr _ = W1 at GX EX BX YX ⊢
      clear p0 p1 p2 p3 p4 p5 p6 p7
      have q0 : W1.cell? ⟨wr.heap.size, 0, none⟩ = some (.int .i16 b.c) := cell_of_row W1 _ 0 _ _ _ BX.out
      have q1 : W1.cell? ⟨wr.heap.size, 1, none⟩ = some (.int .u8 b.m0) := cell_of_row W1 _ 1 _ _ _ BX.out
      have q2 : W1.cell? ⟨wr.heap.size, 2, none⟩ = some (.int .u8 b.m1) := cell_of_row W1 _ 2 _ _ _ BX.out
      have q3 : W1.cell? ⟨wr.heap.size, 3, none⟩ = some (.int .u8 b.m2) := cell_of_row W1 _ 3 _ _ _ BX.out
      have q4 : W1.cell? ⟨wr.heap.size, 4, none⟩ = some (.int .i16 b.v) := cell_of_row W1 _ 4 _ _ _ BX.out
      have q5 : W1.cell? ⟨wr.heap.size, 5, none⟩ = some (.int .i16 b.wi) := cell_of_row W1 _ 5 _ _ _ BX.out
      have q6 : W1.cell? ⟨wr.heap.size, 6, none⟩ = some (.int .i16 b.hi) := cell_of_row W1 _ 6 _ _ _ BX.out
      have q7 : W1.cell? ⟨wr.heap.size, 7, none⟩ = some (.int .i16 b.we) := cell_of_row W1 _ 7 _ _ _ BX.out
      go_wp2_with fail
      refine (take_any b0 (n + k) (leftAt xs ys k) b WB.out W1 (SK.out.below EX.out) LB.out).mono ?_
      rintro e w2 ⟨rfl, hk2, hg2⟩
      have yx := YX.out
      have hbx := (hg2.block _ YX.out (fun e => by injection e with e; omega)).trans BX.out
      clear q0 q1 q2 q3 q4 q5 q6 q7
      have q0 : w2.cell? ⟨wr.heap.size, 0, none⟩ = some (.int .i16 b.c) := cell_of_row w2 _ 0 _ _ _ hbx
      have q1 : w2.cell? ⟨wr.heap.size, 1, none⟩ = some (.int .u8 b.m0) := cell_of_row w2 _ 1 _ _ _ hbx
      have q2 : w2.cell? ⟨wr.heap.size, 2, none⟩ = some (.int .u8 b.m1) := cell_of_row w2 _ 2 _ _ _ hbx
      have q3 : w2.cell? ⟨wr.heap.size, 3, none⟩ = some (.int .u8 b.m2) := cell_of_row w2 _ 3 _ _ _ hbx
      have q4 : w2.cell? ⟨wr.heap.size, 4, none⟩ = some (.int .i16 b.v) := cell_of_row w2 _ 4 _ _ _ hbx
      have q5 : w2.cell? ⟨wr.heap.size, 5, none⟩ = some (.int .i16 b.wi) := cell_of_row w2 _ 5 _ _ _ hbx
      have q6 : w2.cell? ⟨wr.heap.size, 6, none⟩ = some (.int .i16 b.hi) := cell_of_row w2 _ 6 _ _ _ hbx
      have q7 : w2.cell? ⟨wr.heap.size, 7, none⟩ = some (.int .i16 b.we) := cell_of_row w2 _ 7 _ _ _ hbx
      have S2 := Lib.hid (show Stk w2 b0 (n + (k + 1)) (leftAt xs ys (k + 1)) by
        have e : leftAt xs ys (k + 1) = upd (leftAt xs ys k) b (leftAt xs ys k b - 1) := by
          funext y
          by_cases q : y = b
          · subst q; rw [upd_same, LS.out]
          · rw [upd_other _ _ q, LOT.out y (fun r => q r.symm)]
        rw [e]
        exact hk2)
      have G1 := Lib.hid (gbNext HG.out GX.out (fun k hk => by injection hk with hk; exact .inr hk.symm))
      have G2 := Lib.hid (gbNext G1.out hg2 (fun k hk => by injection hk with hk; exact .inr hk.symm))
      have O2 := Lib.hid (ownOther (ownBelow OA.out EX.out) hg2 (fun k hk e => by have := (OA.out.lt k hk).1; injection e with e; omega))
      have z2 := G2.out.size
      clear hk2 hg2 hbx
      by_cases h0 : 0 < leftAt xs ys k b
      · have D0 := Lib.hid (decide_eq_true h0)
        have M0 := Lib.hid (MN.out (fun h => by have := LN.out.2 h; omega))
        clear h0
        rw [D0.out]
        go_wp2
        go_roundw
        case rel => exact ⟨_, k + 1, rfl, by omega, by go_num, by rw [M0.out]; exact O2.out, S2.out, G2.out⟩
        case measure => simp [intOf]; omega
      · have D0 := Lib.hid (decide_eq_false h0)
        have M0 := Lib.hid (MY.out (LN.out.1 (by omega)))
        clear h0
        rw [D0.out]
        go_wp2_with (at_builtin; refine wpList_append_own _ rfl (.tmp 18) (.tmp 20) _ rfl w.heap.size 53 i0 (.agg #[.int .i16 0, .int .u8 0, .int .u8 0, .int .u8 0, .int .i16 0, .int .i16 0, .int .i16 0, .int .i16 0]) 8 14 Tryd.underlying27 hi0 hz0 hz1 hz2 rfl (by decide) _ _ _ rfl (O2.out.alloc _) ⟨w2.heap.size, 0, none⟩ 1 1 [.int .i16 b.c, .int .u8 b.m0, .int .u8 b.m1, .int .u8 b.m2, .int .i16 b.v, .int .i16 b.wi, .int .i16 b.hi, .int .i16 b.we] rfl rfl (cell8_new _ _ _ _ _ _ _ _ _ _) (one8 b) (by unfold maxLen; omega) (by omega) (by simp; omega) ?_)
        intro v' w4 hown' hgrow' _
        have OC := Lib.hid (show w4.ownsRow w.heap.size 53 8 v' (moreTo xs ys (k + 1)).length (flB (moreTo xs ys (k + 1))) by rw [M0.out, flB_snoc, List.length_append]; exact hown')
        have GA := Lib.hid (gbNext (gbNext G2.out (World.grownBy_alloc w2 _ (some b0)) (fun k hk => by injection hk with hk; exact .inr hk.symm)) hgrow' (fun k hk => .inl (O2.out.lt k hk).1))
        have SA := Lib.hid ((S2.out.kept (World.grownBy_alloc w2 _ none) (by simp)).kept hgrow' (fun e => by have := (O2.out.lt b0 e.symm).1; omega))
        clear hown' hgrow'
        go_wp2
        go_roundw
        case rel => exact ⟨_, k + 1, rfl, by omega, by go_num, OC.out, SA.out, GA.out⟩
        case measure => simp [intOf]; omega
    · obtain rfl : k = xs.length := by omega
      go_wp2
      go_ret
      exact ⟨_, rfl, ResB.ofL OA.out rfl, HG.out⟩
end

section
open Go.RowKit Go.Sort

/-- The code of a catalogue and a shelf. -/
def boC (xs ys : List Bk) : Int := if okB ys then askS xs else 1
def miR (xs ys : List Bk) : List Bk := if boC xs ys = 0 then more xs ys else []
def foR (xs ys : List Bk) : List Bk := if boC xs ys = 0 then more ys xs else []
def ssR (xs ys : List Bk) : Bool := if boC xs ys = 0 then stkB xs ys else false
theorem miR_len (xs ys : List Bk) : (miR xs ys).length ≤ xs.length := by unfold miR; split; exact more_len _ _; exact Nat.zero_le _
theorem foR_len (xs ys : List Bk) : (foR xs ys).length ≤ ys.length := by unfold foR; split; exact more_len _ _; exact Nat.zero_le _
theorem bo_ok {xs ys : List Bk} (h : boC xs ys = 0) : okB xs = true ∧ okB ys = true := by
  unfold boC at h
  cases h1 : okB ys
  · rw [h1] at h; cases h
  · rw [h1, if_pos rfl] at h
    exact ⟨(askS_ok h).1, rfl⟩

set_option maxHeartbeats 4000000 in
theorem l07Both_any (v0 v1 : Value) (xs ys : List Bk) (wf : ∀ b ∈ xs, b.Wf) (wfy : ∀ b ∈ ys, b.Wf) (w : World) (hs : SliceOf w v0 xs) (hs1 : SliceOf w v1 ys) (hm : xs.length ≤ maxLen) (hmy : ys.length ≤ maxLen) :
    Calls Tryd.prog 50 #[v0, v1] w fun e w' => e = .returned (.int .i64 (boC xs ys)) ∧ Below w.heap.size w w' := by
  have L0 := Lib.hid (fun W (h : SliceOf W v0 xs) => l01Ok_any v0 xs wf W h hm)
  have L1 := Lib.hid (fun W (h : SliceOf W v1 ys) => l01Ok_any v1 ys wfy W h hmy)
  have LO := Lib.hid (fun W (h : SliceOf W v0 xs) => l01Out_any v0 xs wf W h hm)
  have S0 := Lib.hid hs
  have S1 := Lib.hid hs1
  clear hs hs1 wf wfy
  cases hk : okB xs
  · have E := Lib.hid (show boC xs ys = 1 by unfold boC askS; rw [hk]; cases okB ys <;> rfl)
    rw [hk] at L0
    clear hk
    go_enter Tryd.func50, Tryd.ntmps50
    go_wp2_with fail
    refine (L0.out _ S0.out).mono ?_
    rintro e w1 ⟨rfl, h1⟩
    go_wp2
    go_ret
    exact ⟨by rw [E.out]; rfl, h1⟩
  · cases hky : okB ys
    · have E := Lib.hid (show boC xs ys = 1 by unfold boC; rw [hky]; rfl)
      rw [hk] at L0
      rw [hky] at L1
      clear hk hky
      go_enter Tryd.func50, Tryd.ntmps50
      go_wp2_with fail
      refine (L0.out _ S0.out).mono ?_
      rintro e w1 ⟨rfl, h1⟩
      go_wp2_with fail
      refine (L1.out _ (S1.out.below h1)).mono ?_
      rintro e w2 ⟨rfl, h2⟩
      go_wp2
      go_ret
      exact ⟨by rw [E.out]; rfl, bnext h1 h2⟩
    · have E := Lib.hid (show boC xs ys = if firstOut xs < 0 then 0 else 4 by unfold boC askS; rw [hky, hk]; rfl)
      rw [hk] at L0
      rw [hky] at L1
      clear hk hky
      generalize firstOut xs = f at *
      by_cases hf : f < 0
      · have E2 := Lib.hid (show boC xs ys = 0 by rw [E.out, if_pos hf])
        have hf2 : ¬ 0 ≤ f := by omega
        clear E
        go_enter Tryd.func50, Tryd.ntmps50
        go_wp2_with fail
        refine (L0.out _ S0.out).mono ?_
        rintro e w1 ⟨rfl, h1⟩
        go_wp2_with fail
        refine (L1.out _ (S1.out.below h1)).mono ?_
        rintro e w2 ⟨rfl, h2⟩
        go_wp2_with fail
        refine (LO.out _ (S0.out.below (bnext h1 h2))).mono ?_
        rintro e w3 ⟨rfl, h3⟩
        go_wp2
        go_ret
        exact ⟨by rw [E2.out]; rfl, bnext (bnext h1 h2) h3⟩
      · have E2 := Lib.hid (show boC xs ys = 4 by rw [E.out, if_neg hf])
        have hf2 : 0 ≤ f := by omega
        clear E
        go_enter Tryd.func50, Tryd.ntmps50
        go_wp2_with fail
        refine (L0.out _ S0.out).mono ?_
        rintro e w1 ⟨rfl, h1⟩
        go_wp2_with fail
        refine (L1.out _ (S1.out.below h1)).mono ?_
        rintro e w2 ⟨rfl, h2⟩
        go_wp2_with fail
        refine (LO.out _ (S0.out.below (bnext h1 h2))).mono ?_
        rintro e w3 ⟨rfl, h3⟩
        go_wp2
        go_ret
        exact ⟨by rw [E2.out]; rfl, bnext (bnext h1 h2) h3⟩

set_option maxHeartbeats 4000000 in
theorem l07Stock_any (b0 o0 c0 : Nat) (v1 : Value) (xs ys : List Bk) (w : World) (hs : SliceOf w (.slice (some ⟨b0, o0, none⟩) xs.length c0) xs) (hs1 : SliceOf w v1 ys) (hc0 : xs.length ≤ c0) (hn : xs.length ≤ 1048576) (hny : ys.length ≤ 1048576) :
    Calls Tryd.prog 51 #[.slice (some ⟨b0, o0, none⟩) xs.length c0, v1] w fun e w' => e = .returned (.bool (stkB xs ys)) ∧ Below w.heap.size w w' := by
  have LM := Lib.hid (fun W (h : SliceOf W (.slice (some ⟨b0, o0, none⟩) xs.length c0) xs) (h1 : SliceOf W v1 ys) => l07More_any b0 o0 c0 v1 xs ys W h hc0 h1 hn hny)
  have S0 := Lib.hid hs
  have S1 := Lib.hid hs1
  obtain ⟨A1, k1, rfl, -⟩ := hs1
  clear hs
  by_cases hl : xs.length = ys.length
  · have E := Lib.hid (show stkB xs ys = decide ((more xs ys).length = 0) by unfold stkB; rw [decide_eq_true hl]; rfl)
    have hd : ((xs.length : Int) == (ys.length : Int)) = true := by rw [hl]; simp
    have HL := Lib.hid hl
    clear hl
    go_enter Tryd.func51, Tryd.ntmps51
    go_wp2_with fail
    refine (LM.out _ S0.out S1.out).mono ?_
    rintro e w1 ⟨u, rfl, hu, h1⟩
    obtain ⟨A2, k2, rfl, -⟩ := hu.slice
    generalize (more xs ys).length = m at *
    by_cases hm : m = 0
    · have hd2 : ((m : Int) == 0) = true := by rw [hm]; rfl
      have E2 := Lib.hid (show stkB xs ys = true by rw [E.out, decide_eq_true hm])
      clear hu hm
      go_wp2
      go_ret
      exact ⟨by rw [E2.out]; rfl, h1⟩
    · have hd2 : ((m : Int) == 0) = false := by simp; omega
      have E2 := Lib.hid (show stkB xs ys = false by rw [E.out, decide_eq_false hm])
      clear hu hm
      go_wp2
      go_ret
      exact ⟨by rw [E2.out]; rfl, h1⟩
  · have E := Lib.hid (show stkB xs ys = false by unfold stkB; rw [decide_eq_false hl]; rfl)
    have hd : ((xs.length : Int) == (ys.length : Int)) = false := by simp; omega
    have HL := Lib.hid hl
    clear hl
    go_enter Tryd.func51, Tryd.ntmps51
    go_wp2
    go_ret
    exact ⟨by rw [E.out]; rfl, Below.refl _ _⟩

end

section
open Go.RowKit Go.Sort

theorem slice_lt {w : World} {v : Value} {xs : List Bk} (h : SliceOf w v xs) (hp : 0 < xs.length) : ∀ g, v.ownBlock = some g → g < w.heap.size := by
  obtain ⟨A, c, rfl, h⟩ := h
  obtain ⟨g, o, rfl, hg, _⟩ := h hp
  intro k hk
  obtain rfl : g = k := by injection hk
  exact hg

theorem askS_or {xs : List Bk} (h : askS xs ≠ 0) : askS xs = 1 ∨ askS xs = 4 := by
  unfold askS at h ⊢
  by_cases h1 : okB xs = true
  · rw [if_pos h1] at h ⊢
    by_cases hf : firstOut xs < 0
    · rw [if_pos hf] at h; exact absurd rfl h
    · exact .inr (by rw [if_neg hf])
  · exact .inl (by rw [if_neg h1])
theorem askS_err {xs : List Bk} (h : ¬ askS xs = 0) (s i : Addr) : ∃ p : Addr, errV xs s i = .iface 158 (.pointer (some p)) := by
  rcases askS_or h with h | h
  · exact ⟨i, by unfold errV; rw [h]; rfl⟩
  · exact ⟨s, by unfold errV; rw [h]; rfl⟩
theorem codeErr_any {xs : List Bk} (h : ¬ askS xs = 0) (w : World) (s i y : Addr) (he : Errs w s i y) : Calls Tryd.prog 46 #[errV xs s i] w fun e w' => e = .returned (.int .i64 (askS xs)) ∧ w' = w := by
  rcases askS_or h with h | h
  · have E : errV xs s i = .iface 158 (.pointer (some i)) := by unfold errV; rw [h]; rfl
    rw [E, h]
    exact codeOf_invalid w s i y he
  · have E : errV xs s i = .iface 158 (.pointer (some s)) := by unfold errV; rw [h]; rfl
    rw [E, h]
    exact codeOf_state w s i y he

set_option maxHeartbeats 2000000 in
theorem compare_any (v0 v1 : Value) (xs ys : List Bk) (wf : ∀ b ∈ xs, b.Wf) (wfy : ∀ b ∈ ys, b.Wf) (w : World) (s i y : Addr) (he : Errs w s i y) (hs : SliceOf w v0 xs) (hs1 : SliceOf w v1 ys) (hn : xs.length ≤ 1048576) (hny : ys.length ≤ 1048576) :
    Calls Tryd.prog 72 #[v0, v1] w fun e w' => ∃ u1 u2, e = .returned (.tuple #[u1, u2, .int .i64 (boC xs ys)]) ∧ ResB w' w.heap.size u1 (miR xs ys) ∧ ResB w' w.heap.size u2 (foR xs ys) ∧ Below w.heap.size w w' := by
  have hm : xs.length ≤ maxLen := by unfold maxLen; omega
  have hmy : ys.length ≤ maxLen := by unfold maxLen; omega
  have LV := Lib.hid (fun W (h : SliceOf W v1 ys) => validBooks_any v1 ys W h hmy)
  have LC := Lib.hid (fun W g (h0 : Below w.heap.size w W) (hv : W.cell? ⟨g, 0, none⟩ = some v0) (hg : g < W.heap.size) => checkSorted_any v0 xs wf W g s i y (he.below h0) hv hg (hs.below h0) hn hm)
  have HE := Lib.hid he
  have S0 := Lib.hid hs
  have S1 := Lib.hid hs1
  have WF := Lib.hid wf
  have WY := Lib.hid wfy
  have isi : Tryd.prog.isIface 82 = true := by kernel_rfl
  have en := fun (X : World) (v : Value) => run_neq_iface_nil (P := Tryd.prog) (w := X) 82 isi 158 v
  have en0 := fun (X : World) => run_neq_nil_nil_at (P := Tryd.prog) (w := X) 82 isi
  obtain ⟨A0, c0, rfl, -⟩ := hs
  obtain ⟨A1, c1, rfl, -⟩ := hs1
  clear he wf wfy hm hmy
  cases hky : okB ys
  · have E := Lib.hid (show boC xs ys = 1 by unfold boC; rw [hky]; rfl)
    have E1 := Lib.hid (show miR xs ys = [] by unfold miR; rw [E.out]; rfl)
    have E2 := Lib.hid (show foR xs ys = [] by unfold foR; rw [E.out]; rfl)
    rw [hky] at LV
    clear hky
    go_enter Tryd.func72, Tryd.ntmps72
    go_wp2_with fail
    refine (LV.out _ S1.out).mono ?_
    rintro e w1 ⟨rfl, h1⟩
    go_wp2
    go_ret3
    exact ⟨_, _, by rw [E.out]; rfl, by rw [E1.out]; exact .inl ⟨rfl, rfl⟩, by rw [E2.out]; exact .inl ⟨rfl, rfl⟩, h1⟩
  · have E := Lib.hid (show boC xs ys = askS xs by unfold boC; rw [hky]; rfl)
    rw [hky] at LV
    clear hky
    by_cases ha : askS xs = 0
    · have E0 := Lib.hid (show boC xs ys = 0 by rw [E.out, ha])
      have E1 := Lib.hid (show miR xs ys = more xs ys by unfold miR; rw [E0.out]; rfl)
      have E2 := Lib.hid (show foR xs ys = more ys xs by unfold foR; rw [E0.out]; rfl)
      have EV := Lib.hid (show errV xs s i = .nilIface by unfold errV; rw [ha]; rfl)
      clear ha E
      go_enter Tryd.func72, Tryd.ntmps72
      go_wp2_with fail
      refine (LV.out _ S1.out).mono ?_
      rintro e w1 ⟨rfl, h1⟩
      have B1 := Lib.hid h1
      have GX := Lib.hid (h1.alloc h1.size (.cells #[.slice A0 xs.length c0] 27))
      have BX := Lib.hid (heap_alloc_new w1 (.cells #[.slice A0 xs.length c0] 27))
      have YX := Lib.hid (show w1.heap.size < (w1.alloc (.cells #[.slice A0 xs.length c0] 27)).heap.size by simp)
      clear h1
      go_wp2_with fail
      generalize World.alloc w1 _ = W1 at GX BX YX ⊢
      refine (LC.out W1 w1.heap.size GX.out (cell_of_row W1 _ 0 _ _ _ BX.out) YX.out).mono ?_
      rintro e w2 ⟨rfl, h2⟩
      rw [EV.out]
      have B2 := Lib.hid (bnext GX.out h2)
      clear h2
      go_wp2_with fail
      refine (stockOf_any _ ys WY.out _ (S1.out.below B2.out) hny).mono ?_
      rintro e w3 ⟨m1, n1, rfl, hm1, hk1, h3⟩
      have K1 := Lib.hid hk1
      have B3 := Lib.hid (bnext B2.out h3)
      have z3 := B3.out.size
      have z2 := B2.out.size
      have S03 := Lib.hid (S0.out.below B3.out)
      have S13 := Lib.hid (S1.out.below B3.out)
      clear hk1 h3
      go_wp2_with fail
      refine (notTaken_any _ xs ys WF.out m1 n1 _ S03.out K1.out (fun hp g hg => by have := slice_lt S0.out hp g hg; omega) hn hny).mono ?_
      rintro e w4 ⟨u1, rfl, hu1, g4⟩
      have U1 := Lib.hid hu1
      have B4 := Lib.hid (B3.out.grown g4 z3 (fun k hk => by injection hk with hk; omega))
      have z4 := B4.out.size
      have z34 := g4.size
      clear hu1 g4
      go_wp2_with fail
      refine (stockOf_any _ xs WF.out _ (S0.out.below B4.out) hn).mono ?_
      rintro e w5 ⟨m2, n2, rfl, hm2, hk2, h5⟩
      have K2 := Lib.hid hk2
      have U15 := Lib.hid (U1.out.below h5)
      have B5 := Lib.hid (bnext B4.out h5)
      have z5 := B5.out.size
      have z45 := h5.size
      clear hk2 h5
      go_wp2_with fail
      refine (notTaken_any _ ys xs WY.out m2 n2 _ (S1.out.below B5.out) K2.out (fun hp g hg => by have := slice_lt S1.out hp g hg; omega) hny hn).mono ?_
      rintro e w6 ⟨u2, rfl, hu2, g6⟩
      have U2 := Lib.hid (hu2.mono z5)
      have U16 := Lib.hid ((U15.out.other g6 (fun k hk e => by have := (U1.out.lt k hk).2; injection e with e; omega)).mono z3)
      have B6 := Lib.hid (B5.out.grown g6 z5 (fun k hk => by injection hk with hk; omega))
      clear hu2 g6
      go_wp2
      go_ret3
      exact ⟨_, _, by rw [E0.out]; rfl, by rw [E1.out]; exact U16.out, by rw [E2.out]; exact U2.out, B6.out⟩
    · have E1 := Lib.hid (show miR xs ys = [] by unfold miR; rw [E.out, if_neg ha])
      have E2 := Lib.hid (show foR xs ys = [] by unfold foR; rw [E.out, if_neg ha])
      have EV := Lib.hid (askS_err ha s i)
      have LK := Lib.hid (fun W (h : Errs W s i y) => codeErr_any ha W s i y h)
      have E0 := Lib.hid E.out
      clear ha E
      generalize askS xs = q at *
      obtain ⟨ev, hev⟩ : ∃ ev, ev = errV xs s i := ⟨_, rfl⟩
      rw [← hev] at LC LK EV
      clear hev
      obtain ⟨p, rfl⟩ := EV.out
      clear EV
      go_enter Tryd.func72, Tryd.ntmps72
      go_wp2_with fail
      refine (LV.out _ S1.out).mono ?_
      rintro e w1 ⟨rfl, h1⟩
      have B1 := Lib.hid h1
      have GX := Lib.hid (h1.alloc h1.size (.cells #[.slice A0 xs.length c0] 27))
      have BX := Lib.hid (heap_alloc_new w1 (.cells #[.slice A0 xs.length c0] 27))
      have YX := Lib.hid (show w1.heap.size < (w1.alloc (.cells #[.slice A0 xs.length c0] 27)).heap.size by simp)
      clear h1
      go_wp2_with fail
      generalize World.alloc w1 _ = W1 at GX BX YX ⊢
      refine (LC.out W1 w1.heap.size GX.out (cell_of_row W1 _ 0 _ _ _ BX.out) YX.out).mono ?_
      rintro e w2 ⟨rfl, h2⟩
      have B2 := Lib.hid (bnext GX.out h2)
      clear h2
      go_wp2_with fail
      refine (LK.out _ (HE.out.below B2.out)).mono ?_
      rintro e w' ⟨rfl, rfl⟩
      go_wp2
      go_ret3
      exact ⟨_, _, by rw [E0.out]; rfl, by rw [E1.out]; exact .inl ⟨rfl, rfl⟩, by rw [E2.out]; exact .inl ⟨rfl, rfl⟩, B2.out⟩
end

section
open Go.RowKit Go.Sort

set_option maxHeartbeats 4000000 in
theorem sameStock_any (v0 v1 : Value) (xs ys : List Bk) (wf : ∀ b ∈ xs, b.Wf) (wfy : ∀ b ∈ ys, b.Wf) (w : World) (s i y : Addr) (he : Errs w s i y) (hs : SliceOf w v0 xs) (hs1 : SliceOf w v1 ys) (hn : xs.length ≤ 1048576) (hny : ys.length ≤ 1048576) :
    Calls Tryd.prog 53 #[v0, v1] w fun e w' => e = .returned (.tuple #[.bool (ssR xs ys), .int .i64 (boC xs ys)]) ∧ Below w.heap.size w w' := by
  have LC := Lib.hid (compare_any v0 v1 xs ys wf wfy w s i y he hs hs1 hn hny)
  obtain ⟨A0, c0, rfl, -⟩ := hs
  obtain ⟨A1, c1, rfl, -⟩ := hs1
  clear he wf wfy hn hny
  by_cases hq : boC xs ys = 0
  · have E := Lib.hid (show ssR xs ys = (decide ((miR xs ys).length = 0) && decide ((foR xs ys).length = 0)) by unfold ssR miR foR; rw [if_pos hq, if_pos hq, if_pos hq]; exact stk_both xs ys)
    rw [hq] at LC ⊢
    clear hq
    go_enter Tryd.func53, Tryd.ntmps53
    go_wp2_with fail
    refine LC.out.mono ?_
    rintro e w1 ⟨u1, u2, rfl, hu1, hu2, h1⟩
    obtain ⟨A2, k2, rfl, -⟩ := hu1.slice
    obtain ⟨A3, k3, rfl, -⟩ := hu2.slice
    clear hu1 hu2
    generalize (miR xs ys).length = m1 at *
    generalize (foR xs ys).length = m2 at *
    by_cases h1z : m1 = 0
    · have d1 : ((m1 : Int) == 0) = true := by rw [h1z]; rfl
      by_cases h2z : m2 = 0
      · have d2 : ((m2 : Int) == 0) = true := by rw [h2z]; rfl
        have E2 := Lib.hid (show ssR xs ys = true by rw [E.out, decide_eq_true h1z, decide_eq_true h2z]; rfl)
        clear h1z h2z
        go_wp2
        go_ret2
        exact ⟨by rw [E2.out]; rfl, h1⟩
      · have d2 : ((m2 : Int) == 0) = false := by simp; omega
        have E2 := Lib.hid (show ssR xs ys = false by rw [E.out, decide_eq_false h2z]; simp)
        clear h1z h2z
        go_wp2
        go_ret2
        exact ⟨by rw [E2.out]; rfl, h1⟩
    · have d1 : ((m1 : Int) == 0) = false := by simp; omega
      have E2 := Lib.hid (show ssR xs ys = false by rw [E.out, decide_eq_false h1z]; rfl)
      clear h1z
      go_wp2
      go_ret2
      exact ⟨by rw [E2.out]; rfl, h1⟩
  · have E := Lib.hid (show ssR xs ys = false by unfold ssR; rw [if_neg hq])
    generalize boC xs ys = q at *
    have d1 : (q == 0) = false := by simpa using hq
    have d2 : (q != 0) = true := by simpa using hq
    clear hq
    go_enter Tryd.func53, Tryd.ntmps53
    go_wp2_with fail
    refine LC.out.mono ?_
    rintro e w1 ⟨u1, u2, rfl, hu1, hu2, h1⟩
    obtain ⟨A2, k2, rfl, -⟩ := hu1.slice
    obtain ⟨A3, k3, rfl, -⟩ := hu2.slice
    clear hu1 hu2
    go_wp2
    go_ret2
    exact ⟨by rw [E.out]; rfl, h1⟩
end

end Go.Proofs.YteeblpdjpaellaaDoor
