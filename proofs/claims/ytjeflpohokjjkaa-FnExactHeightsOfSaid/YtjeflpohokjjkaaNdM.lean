/- A map from pegs to needs that a call makes: what it holds, looked up and stored: the runs of the operations. No condition. -/
import Derived.Test.YtjeflpohokjjkaaPegA
import Derived.Test.YtjeflpohokjjkaaOpen
import Derived.Maps.Keyed
import Derived.DeepKeys4
import Derived.WideKeyEntry
import Derived.Carry
namespace Go.Proofs.Ytjeflpohokjjkaa
set_option linter.unusedSimpArgs false
set_option linter.unusedVariables false
set_option maxRecDepth 100000
open Go.RowKit Go.MapKept Go.WideElems

/-- A height with the sums of the books that belong to it. -/
structure Nd where
  hi : Int
  wd : Int
  ar : Int
  deriving DecidableEq, Inhabited
def ndV (n : Nd) : Value := .agg #[.int .i64 n.hi, .int .i64 n.wd, .int .i64 n.ar]
def ndO (o : Option Nd) : Value := match o with | none => ndV ⟨0, 0, 0⟩ | some x => ndV x
theorem zeroNd (w : World) : (zeroValue 54).run Try.prog w = .ok (ndV ⟨0, 0, 0⟩) w := by kernel_rfl
def pgV (p : Pg) (x : Int) : Value := .agg #[.int .i16 x, .int .i16 p.st, .int .i16 p.bo]
theorem pgV_inj {p : Pg} {x y : Int} (h : pgV p x = pgV p y) : x = y := by simpa [pgV] using h
def I16 (z : Int) : Prop := -32768 ≤ z ∧ z ≤ 32767
theorem wfI16p {n : Int} (h : -32768 ≤ n ∧ n ≤ 32767) : (Lit.int .i16 n).wf = true := WalkArith.wf_i16 h
theorem types2p : ∃ m, Try.prog.types.size = m + 2 := by
  have h : decide (2 ≤ Try.prog.types.size) = true := by kernel_rfl
  have h2 := of_decide_eq_true h
  exact ⟨Try.prog.types.size - 2, by omega⟩
theorem pgKey {p : Pg} (hp : p.Wf) {z : Int} (h : I16 z) : ∃ l, Go.keyOf Try.prog 30 (pgV p z) = some l := by
  obtain ⟨m, hm⟩ := types2p
  have hk : Try.prog.keyType 30 = true := by kernel_rfl
  have hf : (pgV p z).formed Try.prog 30 = true := by
    have hc : Try.prog.cellsOf 30 = 3 := by kernel_rfl
    simp [pgV, Value.formed, Try.underlying30, hc]
  have c0 : Try.prog.cellsOf 30 = 3 := by kernel_rfl
  have c1 : Try.prog.cellsOf 22 = 1 := by kernel_rfl
  unfold Go.keyOf
  simp only [Try.underlying30]
  rw [hk, hf, hm]
  simp [pgV, Value.cells, Program.keyLits, Try.underlying30, Try.underlying22, c0, c1, wfI16p h, wfI16p hp.st, wfI16p hp.bo, List.range, List.range.loop]
theorem rowPg : (30 : TypeId) < Try.prog.types.size := of_decide_eq_true (by kernel_rfl)
theorem widePg : (match Try.prog.underlying 30 with | some (.array _ _) | some (.struct _) => true | _ => false) = true := by kernel_rfl
theorem lawPg : WideMaps.KeyLaw Try.prog 30 := deep_law_laid laidOut (m := 3) (by omega) rowPg (by kernel_rfl) widePg
theorem keyedPg : Maps.Keyed Try.prog 30 := Maps.Keyed.of_law lawPg
theorem nodup_atN {α : Type} {l : List α} (h : l.Nodup) {i j : Nat} (hi : i < l.length) (hj : j < l.length) (e : l[i] = l[j]) : i = j := by
  rcases Nat.lt_trichotomy i j with hlt | heq | hgt
  · exact absurd e (List.pairwise_iff_getElem.1 h i j hi hj hlt)
  · exact heq
  · exact absurd e.symm (List.pairwise_iff_getElem.1 h j i hj hi hgt)
/-- The world with another map in block b. -/
def putMapN (w : World) (b : Nat) (es : Array MapEntry) (clock : Nat) : World := { w with heap := w.heap.setIfInBounds b (.map es clock) }
theorem putMapN_at {w : World} {b : Nat} {es es' : Array MapEntry} {k k' : Nat} (hb : w.heap[b]? = some (.map es k)) : (putMapN w b es' k').heap[b]? = some (.map es' k') := (heap_set hb).1
theorem putMapN_grown {w : World} {b : Nat} {es es' : Array MapEntry} {k k' : Nat} (hb : w.heap[b]? = some (.map es k)) : w.grownBy (putMapN w b es' k') (some b) :=
  ⟨rfl, rfl, rfl, by simp [putMapN], fun i _ hi => (heap_set hb).2 i (fun e => hi (by rw [e]))⟩
section
variable {p : Pg}
/-- Block b is a map of n entries that tells f of each label. -/
def Ndm (p : Pg) (w : World) (b n : Nat) (f : Int → Option Nd) : Prop :=
  ∃ es clock, w.heap[b]? = some (.map es clock) ∧ Stamped es clock ∧ es.size = n ∧ (∀ e ∈ es.toList, ∃ z x, I16 z ∧ e.key = pgV p z ∧ f z = some x ∧ e.val = ndV x) ∧ ∀ z, (∀ e ∈ es.toList, e.key ≠ pgV p z) → f z = none
theorem Ndm.made (w : World) : Ndm p (w.alloc (.map #[] 0)) w.heap.size 0 (fun _ => none) :=
  ⟨#[], 0, (MapKept.heap_alloc w _).1, stamped_empty 0, rfl, by simp, fun _ _ => rfl⟩
theorem Ndm.lt {w : World} {b n : Nat} {f : Int → Option Nd} (h : Ndm p w b n f) : b < w.heap.size := by
  obtain ⟨es, clock, hb, _⟩ := h
  exact (Array.getElem?_eq_some_iff.1 hb).1
theorem Ndm.below {w w' : World} {b n : Nat} {f : Int → Option Nd} (h : Ndm p w b n f) (hb : Below w.heap.size w w') : Ndm p w' b n f := by
  have hl := h.lt
  obtain ⟨es, clock, h1, h2⟩ := h
  exact ⟨es, clock, (hb.block b hl).trans h1, h2⟩
theorem Ndm.keep {w w' : World} {b n : Nat} {f : Int → Option Nd} (h : Ndm p w b n f) (e : w'.heap[b]? = w.heap[b]?) : Ndm p w' b n f := by
  obtain ⟨es, clock, h1, h2⟩ := h
  exact ⟨es, clock, e.trans h1, h2⟩
theorem Ndm.drew {w : World} {b n : Nat} {f : Int → Option Nd} (h : Ndm p w b n f) : Ndm p w.drew b n f := h
theorem Ndm.keys (hp : p.Wf) {es : Array MapEntry} {f : Int → Option Nd} (h : ∀ e ∈ es.toList, ∃ z x, I16 z ∧ e.key = pgV p z ∧ f z = some x ∧ e.val = ndV x) : ∀ e ∈ es.toList, ∃ l, Go.keyOf Try.prog 30 e.key = some l := by
  intro e he
  obtain ⟨z, x, wz, h1, _⟩ := h e he
  rw [h1]
  exact pgKey hp wz
theorem Ndm.look (hp : p.Wf) {w : World} {b n : Nat} {f : Int → Option Nd} (h : Ndm p w b n f) (z : Int) (wz : I16 z) : (Instr.lookup 68 (.map (some b)) (pgV p z) true).run Try.prog w = .ok (.tuple #[ndO (f z), .bool (f z).isSome]) w := by
  obtain ⟨es, clock, hb, hs, hn, he, h0⟩ := h
  obtain ⟨l, hl⟩ := pgKey (p := p) hp wz
  have K := keyedPg
  rcases K.find w hl es.toList (Ndm.keys hp (f := f) he) with ⟨h1, h2⟩ | ⟨j, e, h1, h2, h3⟩
  · rw [h0 z h2]
    simp [Instr.lookup, run_underlying Try.underlying68, MapKept.run_getObj_map hb, K.check w es.isEmpty hl, h1, zeroNd, Result.andThen, ndO]
    rfl
  · obtain ⟨y, x, wy, e1, e2, e3⟩ := he e (List.mem_of_getElem? h2)
    obtain rfl : y = z := by have := e1.symm.trans h3; exact pgV_inj this
    rw [e2]
    simp [Instr.lookup, run_underlying Try.underlying68, MapKept.run_getObj_map hb, K.check w es.isEmpty hl, h1, e3, zeroNd, Result.andThen, ndO]
theorem Ndm.look1 (hp : p.Wf) {w : World} {b n : Nat} {f : Int → Option Nd} (h : Ndm p w b n f) (z : Int) (wz : I16 z) : (Instr.lookup 68 (.map (some b)) (pgV p z) false).run Try.prog w = .ok (ndO (f z)) w := by
  obtain ⟨es, clock, hb, hs, hn, he, h0⟩ := h
  obtain ⟨l, hl⟩ := pgKey (p := p) hp wz
  have K := keyedPg
  rcases K.find w hl es.toList (Ndm.keys hp (f := f) he) with ⟨h1, h2⟩ | ⟨j, e, h1, h2, h3⟩
  · rw [h0 z h2]
    simp [Instr.lookup, run_underlying Try.underlying68, MapKept.run_getObj_map hb, K.check w es.isEmpty hl, h1, zeroNd, Result.andThen, ndO]
    rfl
  · obtain ⟨y, x, wy, e1, e2, e3⟩ := he e (List.mem_of_getElem? h2)
    obtain rfl : y = z := by have := e1.symm.trans h3; exact pgV_inj this
    rw [e2]
    simp [Instr.lookup, run_underlying Try.underlying68, MapKept.run_getObj_map hb, K.check w es.isEmpty hl, h1, e3, zeroNd, Result.andThen, ndO]
def updN (f : Int → Option Nd) (z : Int) (x : Nd) : Int → Option Nd := fun y => if z = y then some x else f y
theorem Ndm.put (hp : p.Wf) {w : World} {b n : Nat} {f : Int → Option Nd} (h : Ndm p w b n f) (z : Int) (wz : I16 z) (x : Nd) :
    ∃ w2, (Instr.mapUpdate 68 (.map (some b)) (pgV p z) (ndV x)).run Try.prog w = .ok () w2 ∧ Ndm p w2 b (n + (if f z = none then 1 else 0)) (updN f z x) ∧ w.grownBy w2 (some b) := by
  obtain ⟨es, clock, hb, hs, hn, he, h0⟩ := h
  obtain ⟨l, hl⟩ := pgKey (p := p) hp wz
  have K := keyedPg
  rcases K.find w hl es.toList (Ndm.keys hp (f := f) he) with ⟨h1, h2⟩ | ⟨j, e0, h1, h2, h3⟩
  · refine ⟨putMapN w b (es.push ⟨pgV p z, ndV x, clock⟩) (clock + 1), ?_, ?_, putMapN_grown hb⟩
    · simp [Instr.mapUpdate, run_underlying Try.underlying68, MapKept.run_getObj_map hb, K.check w false hl, h1, MapKept.run_setObj_map _ hb, Result.andThen, putMapN]
    · refine ⟨_, _, putMapN_at hb, stamped_push hs h2, by rw [h0 z h2]; simp [hn], fun e hm => ?_, fun y hy => ?_⟩
      · simp only [Array.toList_push, List.mem_append, List.mem_singleton] at hm
        rcases hm with hm | rfl
        · obtain ⟨y, x', wy, e1, e2, e3⟩ := he e hm
          have hne : z ≠ y := fun q => h2 e hm (by rw [e1, q])
          exact ⟨y, x', wy, e1, by unfold updN; rw [if_neg hne]; exact e2, e3⟩
        · exact ⟨z, x, wz, rfl, by unfold updN; rw [if_pos rfl], rfl⟩
      · have hne : z ≠ y := fun q => hy ⟨pgV p z, ndV x, clock⟩ (by simp) (by rw [q])
        unfold updN
        rw [if_neg hne]
        exact h0 y fun e hm => hy e (by simp; exact .inl (by simpa using hm))
  · have hj : es[j]? = some e0 := by simpa using h2
    have hjl : j < es.toList.length := (List.getElem?_eq_some_iff.1 h2).1
    have hkeyf : ∀ e', es[j]? = some e' → ({ e' with key := pgV p z, val := ndV x } : MapEntry).key = e'.key := fun e' he' => by rw [hj] at he'; cases he'; exact h3.symm
    have hlist : (es.modify j (fun e' => { e' with key := pgV p z, val := ndV x })).toList = es.toList.set j { e0 with key := pgV p z, val := ndV x } := by rw [Array.toList_modify, ChangeMaps.modify_eq_set _ _ _ _ h2]
    have who : ∀ y ∈ es.toList.set j { e0 with key := pgV p z, val := ndV x }, y = { e0 with key := pgV p z, val := ndV x } ∨ (y ∈ es.toList ∧ y.key ≠ pgV p z) := by
      intro y hy
      obtain ⟨i, hi, ex⟩ := List.getElem_of_mem hy
      rw [List.getElem_set] at ex
      split at ex
      · exact Or.inl ex.symm
      · rename_i hne
        have hi' : i < es.toList.length := by simpa using hi
        refine Or.inr ⟨ex ▸ List.getElem_mem hi', fun q => hne ?_⟩
        have hnd := hs.2.2
        have hij : (es.toList.map (·.key))[i]'(by simpa using hi') = (es.toList.map (·.key))[j]'(by simpa using hjl) := by
          rw [List.getElem_map, List.getElem_map, ex, q]
          rw [show es.toList[j] = e0 from Option.some.inj ((List.getElem?_eq_getElem hjl).symm.trans h2), h3]
        exact nodup_atN hnd _ _ hij.symm
    have hsome : f z ≠ none := by
      obtain ⟨y, x', _, e1, e2, _⟩ := he e0 (List.mem_of_getElem? h2)
      obtain rfl : y = z := by have := e1.symm.trans h3; exact pgV_inj this
      rw [e2]
      exact fun h => by cases h
    refine ⟨putMapN w b (es.modify j (fun e' => { e' with key := pgV p z, val := ndV x })) clock, ?_, ?_, putMapN_grown hb⟩
    · simp [Instr.mapUpdate, run_underlying Try.underlying68, MapKept.run_getObj_map hb, K.check w false hl, h1, hj, h3, K.stays w hl, MapKept.run_setObj_map _ hb, Result.andThen, putMapN]
    · refine ⟨_, _, putMapN_at hb, stamped_modify hs _ _ (fun _ _ => rfl) (fun e' _ he' => hkeyf e' he'), by rw [if_neg hsome]; simpa using hn, fun e hm => ?_, fun y hy => ?_⟩
      · rw [hlist] at hm
        rcases who e hm with rfl | ⟨hm, hne⟩
        · exact ⟨z, x, wz, rfl, by unfold updN; rw [if_pos rfl], rfl⟩
        · obtain ⟨y, x', wy, e1, e2, e3⟩ := he e hm
          have hne2 : z ≠ y := fun q => hne (by rw [e1, q])
          exact ⟨y, x', wy, e1, by unfold updN; rw [if_neg hne2]; exact e2, e3⟩
      · rw [hlist] at hy
        have hne : z ≠ y := fun q => hy _ (List.mem_iff_getElem.2 ⟨j, by simpa using hjl, by rw [List.getElem_set_self]⟩) (by rw [← q])
        unfold updN
        rw [if_neg hne]
        refine h0 y fun e hm q => ?_
        obtain ⟨i, hi, rfl⟩ := List.getElem_of_mem hm
        by_cases hij : j = i
        · subst hij
          rw [show es.toList[j] = e0 from Option.some.inj ((List.getElem?_eq_getElem hi).symm.trans h2), h3] at q
          exact hne (pgV_inj q)
        · exact hy (es.toList[i]) (List.mem_iff_getElem.2 ⟨i, by simpa using hi, by rw [List.getElem_set_ne (by omega)]⟩) q
end
end Go.Proofs.Ytjeflpohokjjkaa
