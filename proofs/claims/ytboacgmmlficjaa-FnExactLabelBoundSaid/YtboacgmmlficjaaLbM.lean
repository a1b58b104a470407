/- A map from labels to books that a call makes: what it holds, looked up and stored: the runs of the operations. No condition. -/
import Derived.Test.YtboacgmmlficjaaLbP
import Derived.Test.YtboacgmmlficjaaEqB
import Derived.Test.YtboacgmmlficjaaOpen
import Derived.Maps.Keyed
import Derived.Carry
namespace Go.Proofs.Ytboacgmmlficjaa
set_option linter.unusedSimpArgs false
set_option linter.unusedVariables false
set_option maxRecDepth 100000
open Go.RowKit Go.MapKept Go.WideElems

def bkV (b : Bk) : Value := .agg #[.int .i16 b.c, .int .u8 b.m0, .int .u8 b.m1, .int .u8 b.m2, .int .i16 b.v, .int .i16 b.wi, .int .i16 b.hi, .int .i16 b.we]
def bkO (o : Option Bk) : Value := match o with | none => bkV ⟨0, 0, 0, 0, 0, 0, 0, 0⟩ | some x => bkV x
theorem zeroBkM (w : World) : (zeroValue 40).run Try.prog w = .ok (bkV ⟨0, 0, 0, 0, 0, 0, 0, 0⟩) w := by kernel_rfl
theorem keyedI : Maps.Keyed Try.prog 2 := Maps.int_keyed Try.underlying2
theorem nodup_at {α : Type} {l : List α} (h : l.Nodup) {i j : Nat} (hi : i < l.length) (hj : j < l.length) (e : l[i] = l[j]) : i = j := by
  rcases Nat.lt_trichotomy i j with hlt | heq | hgt
  · exact absurd e (List.pairwise_iff_getElem.1 h i j hi hj hlt)
  · exact heq
  · exact absurd e.symm (List.pairwise_iff_getElem.1 h j i hj hi hgt)
/-- The world with another map in block b. -/
def putMap (w : World) (b : Nat) (es : Array MapEntry) (clock : Nat) : World := { w with heap := w.heap.setIfInBounds b (.map es clock) }
theorem putMap_at {w : World} {b : Nat} {es es' : Array MapEntry} {k k' : Nat} (hb : w.heap[b]? = some (.map es k)) : (putMap w b es' k').heap[b]? = some (.map es' k') := (heap_set hb).1
theorem putMap_grown {w : World} {b : Nat} {es es' : Array MapEntry} {k k' : Nat} (hb : w.heap[b]? = some (.map es k)) : w.grownBy (putMap w b es' k') (some b) :=
  ⟨rfl, rfl, rfl, by simp [putMap], fun i _ hi => (heap_set hb).2 i (fun e => hi (by rw [e]))⟩

/-- Block b is a map of n entries that tells f of each label. -/
def Lbm (w : World) (b n : Nat) (f : Int → Option Bk) : Prop :=
  ∃ es clock, w.heap[b]? = some (.map es clock) ∧ Stamped es clock ∧ es.size = n ∧ (∀ e ∈ es.toList, ∃ z x, (Lit.int .i64 z).wf = true ∧ e.key = .int .i64 z ∧ f z = some x ∧ e.val = bkV x) ∧ ∀ z, (∀ e ∈ es.toList, e.key ≠ .int .i64 z) → f z = none
theorem Lbm.made (w : World) : Lbm (w.alloc (.map #[] 0)) w.heap.size 0 (fun _ => none) :=
  ⟨#[], 0, (MapKept.heap_alloc w _).1, stamped_empty 0, rfl, by simp, fun _ _ => rfl⟩
theorem Lbm.lt {w : World} {b n : Nat} {f : Int → Option Bk} (h : Lbm w b n f) : b < w.heap.size := by
  obtain ⟨es, clock, hb, _⟩ := h
  exact (Array.getElem?_eq_some_iff.1 hb).1
theorem Lbm.below {w w' : World} {b n : Nat} {f : Int → Option Bk} (h : Lbm w b n f) (hb : Below w.heap.size w w') : Lbm w' b n f := by
  have hl := h.lt
  obtain ⟨es, clock, h1, h2⟩ := h
  exact ⟨es, clock, (hb.block b hl).trans h1, h2⟩
theorem Lbm.drew {w : World} {b n : Nat} {f : Int → Option Bk} (h : Lbm w b n f) : Lbm w.drew b n f := h
theorem Lbm.keys {es : Array MapEntry} {f : Int → Option Bk} (h : ∀ e ∈ es.toList, ∃ z x, (Lit.int .i64 z).wf = true ∧ e.key = .int .i64 z ∧ f z = some x ∧ e.val = bkV x) : ∀ e ∈ es.toList, ∃ l, Go.keyOf Try.prog 2 e.key = some l := by
  intro e he
  obtain ⟨z, x, wz, h1, _⟩ := h e he
  rw [h1]
  exact ⟨_, Maps.keyOf_int_mk Try.underlying2 wz⟩
theorem Lbm.look {w : World} {b n : Nat} {f : Int → Option Bk} (h : Lbm w b n f) (z : Int) (wz : (Lit.int .i64 z).wf = true) : (Instr.lookup 43 (.map (some b)) (.int .i64 z) true).run Try.prog w = .ok (.tuple #[bkO (f z), .bool (f z).isSome]) w := by
  obtain ⟨es, clock, hb, hs, hn, he, h0⟩ := h
  have hl := Maps.keyOf_int_mk Try.underlying2 wz
  have K := keyedI
  rcases K.find w hl es.toList (Lbm.keys (f := f) he) with ⟨h1, h2⟩ | ⟨j, e, h1, h2, h3⟩
  · rw [h0 z h2]
    simp [Instr.lookup, run_underlying Try.underlying43, MapKept.run_getObj_map hb, K.check w es.isEmpty hl, h1, zeroBkM, Result.andThen, bkO]
    rfl
  · obtain ⟨y, x, wy, e1, e2, e3⟩ := he e (List.mem_of_getElem? h2)
    obtain rfl : y = z := by have := e1.symm.trans h3; injection this
    rw [e2]
    simp [Instr.lookup, run_underlying Try.underlying43, MapKept.run_getObj_map hb, K.check w es.isEmpty hl, h1, e3, zeroBkM, Result.andThen, bkO]
def updL (f : Int → Option Bk) (z : Int) (x : Bk) : Int → Option Bk := fun y => if z = y then some x else f y
theorem Lbm.put {w : World} {b n : Nat} {f : Int → Option Bk} (h : Lbm w b n f) (z : Int) (wz : (Lit.int .i64 z).wf = true) (x : Bk) :
    ∃ w2, (Instr.mapUpdate 43 (.map (some b)) (.int .i64 z) (bkV x)).run Try.prog w = .ok () w2 ∧ Lbm w2 b (n + (if f z = none then 1 else 0)) (updL f z x) ∧ w.grownBy w2 (some b) := by
  obtain ⟨es, clock, hb, hs, hn, he, h0⟩ := h
  have hl := Maps.keyOf_int_mk Try.underlying2 wz
  have K := keyedI
  rcases K.find w hl es.toList (Lbm.keys (f := f) he) with ⟨h1, h2⟩ | ⟨j, e0, h1, h2, h3⟩
  · refine ⟨putMap w b (es.push ⟨.int .i64 z, bkV x, clock⟩) (clock + 1), ?_, ?_, putMap_grown hb⟩
    · simp [Instr.mapUpdate, run_underlying Try.underlying43, MapKept.run_getObj_map hb, K.check w false hl, h1, MapKept.run_setObj_map _ hb, Result.andThen, putMap]
    · refine ⟨_, _, putMap_at hb, stamped_push hs h2, by rw [h0 z h2]; simp [hn], fun e hm => ?_, fun y hy => ?_⟩
      · simp only [Array.toList_push, List.mem_append, List.mem_singleton] at hm
        rcases hm with hm | rfl
        · obtain ⟨y, x', wy, e1, e2, e3⟩ := he e hm
          have hne : z ≠ y := fun q => h2 e hm (by rw [e1, q])
          exact ⟨y, x', wy, e1, by unfold updL; rw [if_neg hne]; exact e2, e3⟩
        · exact ⟨z, x, wz, rfl, by unfold updL; rw [if_pos rfl], rfl⟩
      · have hne : z ≠ y := fun q => hy ⟨.int .i64 z, bkV x, clock⟩ (by simp) (by rw [q])
        unfold updL
        rw [if_neg hne]
        exact h0 y fun e hm => hy e (by simp; exact .inl (by simpa using hm))
  · have hj : es[j]? = some e0 := by simpa using h2
    have hjl : j < es.toList.length := (List.getElem?_eq_some_iff.1 h2).1
    have hkeyf : ∀ e', es[j]? = some e' → ({ e' with key := .int .i64 z, val := bkV x } : MapEntry).key = e'.key := fun e' he' => by rw [hj] at he'; cases he'; exact h3.symm
    have hlist : (es.modify j (fun e' => { e' with key := .int .i64 z, val := bkV x })).toList = es.toList.set j { e0 with key := .int .i64 z, val := bkV x } := by rw [Array.toList_modify, ChangeMaps.modify_eq_set _ _ _ _ h2]
    have who : ∀ y ∈ es.toList.set j { e0 with key := .int .i64 z, val := bkV x }, y = { e0 with key := .int .i64 z, val := bkV x } ∨ (y ∈ es.toList ∧ y.key ≠ .int .i64 z) := by
      intro y hy
      obtain ⟨i, hi, ex⟩ := List.getElem_of_mem hy
      rw [List.getElem_set] at ex
      split at ex
      · exact Or.inl ex.symm
      · rename_i hne
        have hi' : i < es.toList.length := by simpa using hi
        refine Or.inr ⟨ex ▸ List.getElem_mem hi', fun q => hne ?_⟩
        have hnd := hs.2.2
        have hij : (es.toList.map (·.key))[i]'(by simpa using hi') = (es.toList.map (·.key))[j]'(by simpa using hjl) := by
          rw [List.getElem_map, List.getElem_map, ex, q]
          rw [show es.toList[j] = e0 from Option.some.inj ((List.getElem?_eq_getElem hjl).symm.trans h2), h3]
        exact nodup_at hnd _ _ hij.symm
    have hsome : f z ≠ none := by
      obtain ⟨y, x', _, e1, e2, _⟩ := he e0 (List.mem_of_getElem? h2)
      obtain rfl : y = z := by have := e1.symm.trans h3; injection this
      rw [e2]
      exact fun h => by cases h
    refine ⟨putMap w b (es.modify j (fun e' => { e' with key := .int .i64 z, val := bkV x })) clock, ?_, ?_, putMap_grown hb⟩
    · simp [Instr.mapUpdate, run_underlying Try.underlying43, MapKept.run_getObj_map hb, K.check w false hl, h1, hj, h3, K.stays w hl, MapKept.run_setObj_map _ hb, Result.andThen, putMap]
    · refine ⟨_, _, putMap_at hb, stamped_modify hs _ _ (fun _ _ => rfl) (fun e' _ he' => hkeyf e' he'), by rw [if_neg hsome]; simpa using hn, fun e hm => ?_, fun y hy => ?_⟩
      · rw [hlist] at hm
        rcases who e hm with rfl | ⟨hm, hne⟩
        · exact ⟨z, x, wz, rfl, by unfold updL; rw [if_pos rfl], rfl⟩
        · obtain ⟨y, x', wy, e1, e2, e3⟩ := he e hm
          have hne2 : z ≠ y := fun q => hne (by rw [e1, q])
          exact ⟨y, x', wy, e1, by unfold updL; rw [if_neg hne2]; exact e2, e3⟩
      · rw [hlist] at hy
        have hne : z ≠ y := fun q => hy _ (List.mem_iff_getElem.2 ⟨j, by simpa using hjl, by rw [List.getElem_set_self]⟩) (by rw [← q])
        unfold updL
        rw [if_neg hne]
        refine h0 y fun e hm q => ?_
        obtain ⟨i, hi, rfl⟩ := List.getElem_of_mem hm
        by_cases hij : j = i
        · subst hij
          rw [show es.toList[j] = e0 from Option.some.inj ((List.getElem?_eq_getElem hi).symm.trans h2), h3] at q
          injection q with _ q
          exact hne q
        · exact hy (es.toList[i]) (List.mem_iff_getElem.2 ⟨i, by simpa using hi, by rw [List.getElem_set_ne (by omega)]⟩) q
end Go.Proofs.Ytboacgmmlficjaa
