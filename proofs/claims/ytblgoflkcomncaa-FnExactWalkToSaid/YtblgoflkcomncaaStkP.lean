/- A map from books to 64-bit counts that a call makes: what it holds, looked up and stored: the runs of the operations. No condition. -/
import Derived.Test.YtblgoflkcomncaaEqB
import Derived.Test.YtblgoflkcomncaaOpen
import Derived.Maps.Keyed
import Derived.DeepKeys4
import Derived.WideKeyEntry
import Derived.Carry
namespace Go.Proofs.Ytblgoflkcomncaa
set_option linter.unusedSimpArgs false
set_option linter.unusedVariables false
set_option maxRecDepth 100000
open Go.RowKit Go.MapKept Go.WideElems

def bkV (b : Bk) : Value := .agg #[.int .i16 b.c, .int .u8 b.m0, .int .u8 b.m1, .int .u8 b.m2, .int .i16 b.v, .int .i16 b.wi, .int .i16 b.hi, .int .i16 b.we]
theorem bkV_inj {a b : Bk} (h : bkV a = bkV b) : a = b := by
  obtain ⟨a0, a1, a2, a3, a4, a5, a6, a7⟩ := a
  obtain ⟨b0, b1, b2, b3, b4, b5, b6, b7⟩ := b
  simpa [bkV] using h
theorem wfI16 {n : Int} (h : -32768 ≤ n ∧ n ≤ 32767) : (Lit.int .i16 n).wf = true := WalkArith.wf_i16 h
theorem wfU8 {n : Int} (h : 0 ≤ n ∧ n ≤ 255) : (Lit.int .u8 n).wf = true := WalkArith.wf_u8 h
theorem types2 : ∃ m, Try.prog.types.size = m + 2 := by
  have h : decide (2 ≤ Try.prog.types.size) = true := by kernel_rfl
  have h2 := of_decide_eq_true h
  exact ⟨Try.prog.types.size - 2, by omega⟩
theorem bkKey (x : Bk) (h : x.Wf) : ∃ l, Go.keyOf Try.prog 114 (bkV x) = some l := by
  obtain ⟨m, hm⟩ := types2
  have hk : Try.prog.keyType 114 = true := by kernel_rfl
  have hf : (bkV x).formed Try.prog 114 = true := by
    have hc : Try.prog.cellsOf 114 = 8 := by kernel_rfl
    simp [bkV, Value.formed, Try.underlying114, hc]
  have c0 : Try.prog.cellsOf 114 = 8 := by kernel_rfl
  have c1 : Try.prog.cellsOf 22 = 1 := by kernel_rfl
  have c2 : Try.prog.cellsOf 5 = 1 := by kernel_rfl
  have c3 : Try.prog.cellsOf 112 = 3 := by kernel_rfl
  unfold Go.keyOf
  simp only [Try.underlying114]
  rw [hk, hf, hm]
  simp [bkV, Value.cells, Program.keyLits, Try.underlying114, Try.underlying22, Try.underlying5, Try.underlying112, c0, c1, c2, c3, wfI16 h.c, wfI16 h.v, wfI16 h.wi, wfI16 h.hi, wfI16 h.we, wfU8 h.m0, wfU8 h.m1, wfU8 h.m2, List.range, List.range.loop]

theorem rowBk : (114 : TypeId) < Try.prog.types.size := of_decide_eq_true (by kernel_rfl)
theorem wideBk : (match Try.prog.underlying 114 with | some (.array _ _) | some (.struct _) => true | _ => false) = true := by kernel_rfl
theorem lawBk : WideMaps.KeyLaw Try.prog 114 := deep_law_laid laidOut (m := 3) (by omega) rowBk (by kernel_rfl) wideBk
theorem zeroInt (w : World) : (zeroValue 2).run Try.prog w = .ok (.int .i64 0) w := by kernel_rfl

/-- The world with another map in block b. -/
def putMap (w : World) (b : Nat) (es : Array MapEntry) (clock : Nat) : World := { w with heap := w.heap.setIfInBounds b (.map es clock) }

/-- Block b is a map that tells c of each book. -/
def Stk (w : World) (b n : Nat) (c : Bk → Nat) : Prop :=
  ∃ es clock, w.heap[b]? = some (.map es clock) ∧ Stamped es clock ∧ es.size ≤ n ∧ (∀ e ∈ es.toList, ∃ x : Bk, x.Wf ∧ e.key = bkV x ∧ e.val = .int .i64 ((c x : Nat) : Int)) ∧ ∀ x : Bk, x.Wf → (∀ e ∈ es.toList, e.key ≠ bkV x) → c x = 0
theorem Stk.made (w : World) : Stk (w.alloc (.map #[] 0)) w.heap.size 0 (fun _ => 0) :=
  ⟨#[], 0, (MapKept.heap_alloc w _).1, stamped_empty 0, Nat.le_refl _, by simp, fun _ _ _ => rfl⟩
theorem Stk.lt {w : World} {b n : Nat} {c : Bk → Nat} (h : Stk w b n c) : b < w.heap.size := by
  obtain ⟨es, clock, hb, _⟩ := h
  exact (Array.getElem?_eq_some_iff.1 hb).1
theorem Stk.below {w w' : World} {b n : Nat} {c : Bk → Nat} (h : Stk w b n c) (hb : Below w.heap.size w w') : Stk w' b n c := by
  have hl := h.lt
  obtain ⟨es, clock, h1, h2⟩ := h
  exact ⟨es, clock, (hb.block b hl).trans h1, h2⟩
theorem Stk.drew {w : World} {b n : Nat} {c : Bk → Nat} (h : Stk w b n c) : Stk w.drew b n c := h
theorem Stk.keys {w : World} {b n : Nat} {c : Bk → Nat} {es : Array MapEntry} (h : ∀ e ∈ es.toList, ∃ x : Bk, x.Wf ∧ e.key = bkV x ∧ e.val = .int .i64 ((c x : Nat) : Int)) : ∀ e ∈ es.toList, ∃ l, Go.keyOf Try.prog 114 e.key = some l := by
  intro e he
  obtain ⟨x, wx, h1, _⟩ := h e he
  rw [h1]
  exact bkKey x wx
theorem Stk.look {w : World} {b n : Nat} {c : Bk → Nat} (h : Stk w b n c) (x : Bk) (wx : x.Wf) : (Instr.lookup 117 (.map (some b)) (bkV x) false).run Try.prog w = .ok (.int .i64 ((c x : Nat) : Int)) w := by
  obtain ⟨es, clock, hb, hs, hn, he, h0⟩ := h
  obtain ⟨l, hl⟩ := bkKey x wx
  have K := Maps.Keyed.of_law lawBk
  rcases K.find w hl es.toList (Stk.keys (w := w) (b := b) (n := n) he) with ⟨h1, h2⟩ | ⟨j, e, h1, h2, h3⟩
  · rw [h0 x wx h2]
    simp [Instr.lookup, run_underlying Try.underlying117, MapKept.run_getObj_map hb, K.check w es.isEmpty hl, h1, zeroInt, Result.andThen]
  · obtain ⟨y, wy, e1, e2⟩ := he e (List.mem_of_getElem? h2)
    obtain rfl : y = x := bkV_inj (e1.symm.trans h3)
    simp [Instr.lookup, run_underlying Try.underlying117, MapKept.run_getObj_map hb, K.check w es.isEmpty hl, h1, e2, zeroInt, Result.andThen]

def upd (c : Bk → Nat) (x : Bk) (v : Nat) : Bk → Nat := fun y => if y = x then v else c y
theorem upd_same (c : Bk → Nat) (x : Bk) (v : Nat) : upd c x v x = v := by simp [upd]
theorem upd_other (c : Bk → Nat) {x y : Bk} (v : Nat) (h : y ≠ x) : upd c x v y = c y := by simp [upd, h]

theorem putMap_at {w : World} {b : Nat} {es es' : Array MapEntry} {k k' : Nat} (hb : w.heap[b]? = some (.map es k)) : (putMap w b es' k').heap[b]? = some (.map es' k') := (heap_set hb).1
theorem putMap_twice {w : World} {b : Nat} {es es' : Array MapEntry} {k k' : Nat} : putMap (putMap w b es k) b es' k' = putMap w b es' k' := by
  unfold putMap
  simp
theorem putMap_grown {w : World} {b : Nat} {es es' : Array MapEntry} {k k' : Nat} (hb : w.heap[b]? = some (.map es k)) : w.grownBy (putMap w b es' k') (some b) :=
  ⟨rfl, rfl, rfl, by simp [putMap], fun i _ hi => (heap_set hb).2 i (fun e => hi (by rw [e]))⟩

/-- What a store at a book's own entry does: the entry is found or made first, then stored into. -/
theorem Stk.entry {w : World} {b n : Nat} {c : Bk → Nat} (h : Stk w b n c) (x : Bk) (wx : x.Wf) :
    ∃ (v0 : Value) (st : Nat) (w1 : World), (Instr.mapEntry 117 (.map (some b)) (bkV x)).run Try.prog w = .ok (.tuple #[v0, .int .i64 (st : Int)]) w1 ∧
      (Instr.lookup 117 (.map (some b)) (bkV x) false).run Try.prog w1 = .ok (.int .i64 ((c x : Nat) : Int)) w1 ∧ w.grownBy w1 (some b) ∧
      ∀ v : Nat, ∃ w2, (Instr.entryStore 117 (.map (some b)) (.int .i64 (st : Int)) (.int .i64 (v : Int))).run Try.prog w1 = .ok () w2 ∧ Stk w2 b (n + 1) (upd c x v) ∧ w.grownBy w2 (some b) := by
  obtain ⟨es, clock, hb, hs, hn, he, h0⟩ := h
  obtain ⟨l, hl⟩ := bkKey x wx
  have K := Maps.Keyed.of_law lawBk
  rcases K.find w hl es.toList (Stk.keys (w := w) (b := b) (n := n) he) with ⟨h1, h2⟩ | ⟨j, e, h1, h2, h3⟩
  · have hc := h0 x wx h2
    have S1 := stamped_push (val := .int .i64 0) hs h2
    have h1w : Stk (putMap w b (es.push ⟨bkV x, .int .i64 0, clock⟩) (clock + 1)) b (n + 1) c := by
      refine ⟨_, _, putMap_at hb, S1, by simp; omega, fun e hm => ?_, fun y wy hy => h0 y wy fun e hm => hy e (by simp; exact .inl (by simpa using hm))⟩
      simp only [Array.toList_push, List.mem_append, List.mem_singleton] at hm
      rcases hm with hm | rfl
      · exact he e hm
      · exact ⟨x, wx, rfl, by rw [hc]; rfl⟩
    refine ⟨.int .i64 0, clock, putMap w b (es.push ⟨bkV x, .int .i64 0, clock⟩) (clock + 1), ?_, h1w.look x wx, putMap_grown hb, fun v => ⟨putMap w b (es.push ⟨bkV x, .int .i64 v, clock⟩) (clock + 1), ?_, ?_, putMap_grown hb⟩⟩
    · simp [Instr.mapEntry, run_underlying Try.underlying117, MapKept.run_getObj_map hb, K.check w false hl, h1, zeroInt, MapKept.run_setObj_map _ hb, Result.andThen, putMap, goInt]
    · have hw2 := putMap_at (es' := es.push ⟨bkV x, .int .i64 0, clock⟩) (k' := clock + 1) hb
      have hidx : (es.push ⟨bkV x, .int .i64 0, clock⟩).findIdx? (fun e => ((e.born : Nat) : Int) == ((clock : Nat) : Int)) = some es.size := by
        rw [findIdx_arr]
        have := findIdx_born (l := (es.push ⟨bkV x, .int .i64 0, clock⟩).toList) (j := es.size) (e0 := ⟨bkV x, .int .i64 0, clock⟩) S1.2.1 (by simp)
        exact this
      have hmod : (es.push ⟨bkV x, .int .i64 0, clock⟩).modify es.size (fun e => { e with val := .int .i64 (v : Int) }) = es.push ⟨bkV x, .int .i64 (v : Int), clock⟩ := by
        apply Array.ext'
        rw [Array.toList_modify, Array.toList_push, Array.toList_push, ← Array.length_toList, modify_last]
      simp [Instr.entryStore, MapKept.run_getObj_map hw2, asInt, asIntOf, hidx, hmod, MapKept.run_setObj_map _ hw2, Result.andThen]
      unfold putMap
      simp
    · refine ⟨_, _, putMap_at hb, stamped_push hs h2, by simp; omega, fun e hm => ?_, fun y wy hy => ?_⟩
      · simp only [Array.toList_push, List.mem_append, List.mem_singleton] at hm
        rcases hm with hm | rfl
        · obtain ⟨y, wy, e1, e2⟩ := he e hm
          exact ⟨y, wy, e1, by rw [upd_other _ _ (fun q => h2 e hm (by rw [e1, q]))]; exact e2⟩
        · exact ⟨x, wx, rfl, by rw [upd_same]⟩
      · have hne : y ≠ x := fun q => hy ⟨bkV x, .int .i64 v, clock⟩ (by simp) (by rw [q])
        rw [upd_other _ _ hne]
        exact h0 y wy fun e hm => hy e (by simp; exact .inl (by simpa using hm))
  · have hj : es[j]? = some e := by simpa using h2
    have hmem : e ∈ es.toList := List.mem_of_getElem? h2
    have hsame : es.modify j (fun e => { e with key := bkV x }) = es := by
      apply Array.ext'
      rw [Array.toList_modify, ChangeMaps.modify_eq_set _ _ _ _ h2]
      have : ({ e with key := bkV x } : MapEntry) = e := by rw [← h3]
      rw [this]
      exact set_self _ _ _ h2
    have h1w : Stk (putMap w b es clock) b n c := ⟨_, _, putMap_at hb, hs, hn, he, h0⟩
    refine ⟨e.val, e.born, putMap w b es clock, ?_, h1w.look x wx, putMap_grown hb, fun v => ⟨putMap w b (es.modify j (fun e => { e with val := .int .i64 (v : Int) })) clock, ?_, ?_, putMap_grown hb⟩⟩
    · simp [Instr.mapEntry, run_underlying Try.underlying117, MapKept.run_getObj_map hb, K.check w false hl, h1, hj, h3, K.stays w hl, hsame, MapKept.run_setObj_map _ hb, Result.andThen, putMap, goInt]
    · have hw2 := putMap_at (es' := es) (k' := clock) hb
      have hidx : es.findIdx? (fun e' => ((e'.born : Nat) : Int) == ((e.born : Nat) : Int)) = some j := by
        rw [findIdx_arr]
        exact findIdx_born hs.2.1 h2
      simp [Instr.entryStore, MapKept.run_getObj_map hw2, asInt, asIntOf, hidx, MapKept.run_setObj_map _ hw2, Result.andThen]
      unfold putMap
      simp
    · have hl2 : (es.modify j (fun e => { e with val := .int .i64 (v : Int) })).toList = es.toList.set j { e with val := .int .i64 (v : Int) } := by
        rw [Array.toList_modify, ChangeMaps.modify_eq_set _ _ _ _ h2]
      refine ⟨_, _, putMap_at hb, stamped_modify hs _ _ (fun _ _ => rfl) (fun _ _ _ => rfl), by simp; omega, fun e' hm => ?_, fun y wy hy => ?_⟩
      · rw [hl2] at hm
        obtain ⟨i, hi, rfl⟩ := List.getElem_of_mem hm
        have hi' : i < es.toList.length := by simpa using hi
        by_cases q : j = i
        · subst q
          rw [List.getElem_set_self]
          exact ⟨x, wx, h3, by rw [upd_same]⟩
        · rw [List.getElem_set_ne q]
          obtain ⟨y, wy, e1, e2⟩ := he _ (List.getElem_mem hi')
          refine ⟨y, wy, e1, ?_⟩
          rw [upd_other _ _ (fun r => ?_)]
          · exact e2
          · have hjl : j < es.toList.length := (List.getElem?_eq_some_iff.1 h2).1
            have hk : (es.toList[i]'hi').key = (es.toList[j]'hjl).key := by
              rw [e1, r, ← h3, (List.getElem?_eq_some_iff.1 h2).2]
            have := (List.getElem_inj (i := i) (j := j) (h₀ := by simpa using hi') (h₁ := by simpa using hjl) hs.2.2).1 (by simpa using hk)
            exact q this.symm
      · have hne : y ≠ x := fun q => hy { e with val := .int .i64 (v : Int) } (by rw [hl2]; exact List.mem_of_getElem? (List.getElem?_set_self (List.getElem?_eq_some_iff.1 h2).1)) (by rw [q]; exact h3)
        rw [upd_other _ _ hne]
        refine h0 y wy fun e' hm hk => ?_
        obtain ⟨i, hi, rfl⟩ := List.getElem_of_mem hm
        by_cases q : j = i
        · subst q
          have e3 : es.toList[j] = e := (List.getElem?_eq_some_iff.1 h2).2
          rw [e3, h3] at hk
          exact hne (bkV_inj hk.symm)
        · exact hy es.toList[i] (by rw [hl2]; exact List.mem_of_getElem? ((List.getElem?_set_ne q).trans (List.getElem?_eq_getElem hi))) hk
end Go.Proofs.Ytblgoflkcomncaa
