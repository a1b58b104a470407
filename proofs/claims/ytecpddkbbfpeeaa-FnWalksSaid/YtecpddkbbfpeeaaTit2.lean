/- A map from books to lists that a call makes: what it holds, looked up and stored: the runs of the operations. No condition. -/
import Derived.Test.YtecpddkbbfpeeaaStkP
namespace Go.Proofs.Ytecpddkbbfpeeaa
set_option linter.unusedSimpArgs false
set_option linter.unusedVariables false
set_option maxRecDepth 100000
open Go.RowKit Go.MapKept Go.WideElems

theorem zeroLst (w : World) : (zeroValue 24).run Try.prog w = .ok (.slice none 0 0) w := by kernel_rfl
theorem keyedBk : Maps.Keyed Try.prog 42 := Maps.Keyed.of_law lawBk
theorem nodup_at {α : Type} {l : List α} (h : l.Nodup) {i j : Nat} (hi : i < l.length) (hj : j < l.length) (e : l[i] = l[j]) : i = j := by
  rcases Nat.lt_trichotomy i j with hlt | heq | hgt
  · exact absurd e (List.pairwise_iff_getElem.1 h i j hi hj hlt)
  · exact heq
  · exact absurd e.symm (List.pairwise_iff_getElem.1 h j i hj hi hgt)
/-- Block b is a map of at most n entries that holds f of each book, nil where it has none. -/
def MpF (w : World) (b n : Nat) (f : Bk → Value) : Prop :=
  ∃ es clock, w.heap[b]? = some (.map es clock) ∧ Stamped es clock ∧ es.size ≤ n ∧ (∀ e ∈ es.toList, ∃ x : Bk, x.Wf ∧ e.key = bkV x ∧ e.val = f x) ∧ ∀ x : Bk, x.Wf → (∀ e ∈ es.toList, e.key ≠ bkV x) → f x = .slice none 0 0
theorem MpF.made (w : World) : MpF (w.alloc (.map #[] 0)) w.heap.size 0 (fun _ => .slice none 0 0) :=
  ⟨#[], 0, (MapKept.heap_alloc w _).1, stamped_empty 0, Nat.le_refl _, by simp, fun _ _ _ => rfl⟩
theorem MpF.lt {w : World} {b n : Nat} {f : Bk → Value} (h : MpF w b n f) : b < w.heap.size := by
  obtain ⟨es, clock, hb, _⟩ := h
  exact (Array.getElem?_eq_some_iff.1 hb).1
theorem MpF.below {w w' : World} {b n : Nat} {f : Bk → Value} (h : MpF w b n f) (hb : Below w.heap.size w w') : MpF w' b n f := by
  have hl := h.lt
  obtain ⟨es, clock, h1, h2⟩ := h
  exact ⟨es, clock, (hb.block b hl).trans h1, h2⟩
theorem MpF.other {w w' : World} {b n : Nat} {f : Bk → Value} {row : Option Nat} (h : MpF w b n f) (hg : w.grownBy w' row) (hne : some b ≠ row) : MpF w' b n f := by
  have hl := h.lt
  obtain ⟨es, clock, h1, h2⟩ := h
  exact ⟨es, clock, (hg.block b hl hne).trans h1, h2⟩
theorem MpF.drew {w : World} {b n : Nat} {f : Bk → Value} (h : MpF w b n f) : MpF w.drew b n f := h
theorem MpF.keys {es : Array MapEntry} {f : Bk → Value} (h : ∀ e ∈ es.toList, ∃ x : Bk, x.Wf ∧ e.key = bkV x ∧ e.val = f x) : ∀ e ∈ es.toList, ∃ l, Go.keyOf Try.prog 42 e.key = some l := by
  intro e he
  obtain ⟨x, wx, h1, _⟩ := h e he
  rw [h1]
  exact bkKey x wx
theorem MpF.look {w : World} {b n : Nat} {f : Bk → Value} (h : MpF w b n f) (x : Bk) (wx : x.Wf) : (Instr.lookup 82 (.map (some b)) (bkV x) false).run Try.prog w = .ok (f x) w := by
  obtain ⟨es, clock, hb, hs, hn, he, h0⟩ := h
  obtain ⟨l, hl⟩ := bkKey x wx
  have K := keyedBk
  rcases K.find w hl es.toList (MpF.keys (f := f) he) with ⟨h1, h2⟩ | ⟨j, e, h1, h2, h3⟩
  · rw [h0 x wx h2]
    simp [Instr.lookup, run_underlying Try.underlying82, MapKept.run_getObj_map hb, K.check w es.isEmpty hl, h1, zeroLst, Result.andThen]
  · obtain ⟨y, wy, e1, e2⟩ := he e (List.mem_of_getElem? h2)
    obtain rfl : y = x := bkV_inj (e1.symm.trans h3)
    simp [Instr.lookup, run_underlying Try.underlying82, MapKept.run_getObj_map hb, K.check w es.isEmpty hl, h1, e2, zeroLst, Result.andThen]
def updV (f : Bk → Value) (x : Bk) (v : Value) : Bk → Value := fun y => if x = y then v else f y
theorem updV_same (f : Bk → Value) (x : Bk) (v : Value) : updV f x v x = v := by simp [updV]
theorem updV_other (f : Bk → Value) {x y : Bk} (v : Value) (h : x ≠ y) : updV f x v y = f y := by simp [updV, h]
theorem MpF.put {w : World} {b n : Nat} {f : Bk → Value} (h : MpF w b n f) (z : Bk) (wz : z.Wf) (v : Value) :
    ∃ w2, (Instr.mapUpdate 82 (.map (some b)) (bkV z) v).run Try.prog w = .ok () w2 ∧ MpF w2 b (n + 1) (updV f z v) ∧ w.grownBy w2 (some b) := by
  obtain ⟨es, clock, hb, hs, hn, he, h0⟩ := h
  obtain ⟨l, hl⟩ := bkKey z wz
  have K := keyedBk
  rcases K.find w hl es.toList (MpF.keys (f := f) he) with ⟨h1, h2⟩ | ⟨j, e0, h1, h2, h3⟩
  · refine ⟨putMap w b (es.push ⟨bkV z, v, clock⟩) (clock + 1), ?_, ?_, putMap_grown hb⟩
    · simp [Instr.mapUpdate, run_underlying Try.underlying82, MapKept.run_getObj_map hb, K.check w false hl, h1, MapKept.run_setObj_map _ hb, Result.andThen, putMap]
    · refine ⟨_, _, putMap_at hb, stamped_push hs h2, by simp; omega, fun e hm => ?_, fun y wy hy => ?_⟩
      · simp only [Array.toList_push, List.mem_append, List.mem_singleton] at hm
        rcases hm with hm | rfl
        · obtain ⟨y, wy, e1, e2⟩ := he e hm
          have hne : z ≠ y := fun q => h2 e hm (by rw [e1, q])
          exact ⟨y, wy, e1, by rw [updV_other _ _ hne]; exact e2⟩
        · exact ⟨z, wz, rfl, by rw [updV_same]⟩
      · have hne : z ≠ y := fun q => hy ⟨bkV z, v, clock⟩ (by simp) (by rw [q])
        rw [updV_other _ _ hne]
        exact h0 y wy fun e hm => hy e (by simp; exact .inl (by simpa using hm))
  · have hj : es[j]? = some e0 := by simpa using h2
    have hjl : j < es.toList.length := (List.getElem?_eq_some_iff.1 h2).1
    have hkeyf : ∀ e', es[j]? = some e' → ({ e' with key := bkV z, val := v } : MapEntry).key = e'.key := fun e' he' => by rw [hj] at he'; cases he'; exact h3.symm
    have hlist : (es.modify j (fun e' => { e' with key := bkV z, val := v })).toList = es.toList.set j { e0 with key := bkV z, val := v } := by rw [Array.toList_modify, ChangeMaps.modify_eq_set _ _ _ _ h2]
    have who : ∀ y ∈ es.toList.set j { e0 with key := bkV z, val := v }, y = { e0 with key := bkV z, val := v } ∨ (y ∈ es.toList ∧ y.key ≠ bkV z) := by
      intro y hy
      obtain ⟨i, hi, ex⟩ := List.getElem_of_mem hy
      rw [List.getElem_set] at ex
      split at ex
      · exact Or.inl ex.symm
      · rename_i hne
        have hi' : i < es.toList.length := by simpa using hi
        refine Or.inr ⟨ex ▸ List.getElem_mem hi', fun q => hne ?_⟩
        have hnd := hs.2.2
        have hij : (es.toList.map (·.key))[i]'(by simpa using hi') = (es.toList.map (·.key))[j]'(by simpa using hjl) := by
          rw [List.getElem_map, List.getElem_map, ex, q]
          rw [show es.toList[j] = e0 from Option.some.inj ((List.getElem?_eq_getElem hjl).symm.trans h2), h3]
        exact nodup_at hnd _ _ hij.symm
    refine ⟨putMap w b (es.modify j (fun e' => { e' with key := bkV z, val := v })) clock, ?_, ?_, putMap_grown hb⟩
    · simp [Instr.mapUpdate, run_underlying Try.underlying82, MapKept.run_getObj_map hb, K.check w false hl, h1, hj, h3, K.stays w hl, MapKept.run_setObj_map _ hb, Result.andThen, putMap]
    · refine ⟨_, _, putMap_at hb, stamped_modify hs _ _ (fun _ _ => rfl) (fun e' _ he' => hkeyf e' he'), by simp; omega, fun e hm => ?_, fun y wy hy => ?_⟩
      · rw [hlist] at hm
        rcases who e hm with rfl | ⟨hm, hne⟩
        · exact ⟨z, wz, rfl, by rw [updV_same]⟩
        · obtain ⟨y, wy, e1, e2⟩ := he e hm
          have hne2 : z ≠ y := fun q => hne (by rw [e1, q])
          exact ⟨y, wy, e1, by rw [updV_other _ _ hne2]; exact e2⟩
      · rw [hlist] at hy
        have hne : z ≠ y := fun q => hy _ (List.mem_iff_getElem.2 ⟨j, by simpa using hjl, by rw [List.getElem_set_self]⟩) (by rw [← q])
        rw [updV_other _ _ hne]
        refine h0 y wy fun e hm q => ?_
        obtain ⟨i, hi, rfl⟩ := List.getElem_of_mem hm
        by_cases hij : j = i
        · subst hij
          rw [show es.toList[j] = e0 from Option.some.inj ((List.getElem?_eq_getElem hi).symm.trans h2), h3] at q
          exact hne (bkV_inj q)
        · exact hy (es.toList[i]) (List.mem_iff_getElem.2 ⟨i, by simpa using hi, by rw [List.getElem_set_ne (by omega)]⟩) q
end Go.Proofs.Ytecpddkbbfpeeaa
