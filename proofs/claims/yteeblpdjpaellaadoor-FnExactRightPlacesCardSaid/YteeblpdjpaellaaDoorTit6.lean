/- A map from books to lists of numbers that are read and cut from the front: relations and their steps. No condition. -/
import Derived.Test.YteeblpdjpaellaaDoorTit3
import Derived.Test.YteeblpdjpaellaaDoorOrd
import Derived.StillTailTactics
import Derived.IntWalk
namespace Go.Proofs.YteeblpdjpaellaaDoor
set_option linter.unusedSimpArgs false
set_option linter.unusedVariables false
set_option maxRecDepth 100000
open Go.RowKit Go.MapKept

theorem elemIntsT : Tryd.prog.underlying 24 = some (.slice (Tryd.prog.elem 24)) := by kernel_rfl
theorem sizeIntsT (w : World) : (sizeOf (Tryd.prog.elem 24)).run Tryd.prog w = .ok 1 w := by kernel_rfl
/-- The place of the rest behind the first number. -/
def restO (o c : Nat) : Nat := if c = 1 then o else o + 1
theorem run_restI (g o n c : Nat) (hn : 1 ≤ n) (hc : n ≤ c) (w : World) :
    (Instr.slice 24 (.slice (some ⟨g, o, none⟩) n c) (some (.int .i64 1)) none none).run Tryd.prog w = .ok (.slice (some ⟨g, restO o c, none⟩) (n - 1) (c - 1)) w := by
  rw [run_slice_l w _ _ _ _ elemIntsT _ _ (by omega) (by omega), sizeIntsT]
  unfold restO
  by_cases h : c = 1
  · simp [Result.andThen, sliced, h]
  · simp [Result.andThen, sliced, h, Addr.add]
/-- A value is no list and reads as none, or a list that lies from lo on, below B. -/
def SlI (w : World) (lo B : Nat) (v : Value) (l : List Int) : Prop := (v = .slice none 0 0 ∧ l = []) ∨ ∃ gb o c, v = .slice (some ⟨gb, o, none⟩) l.length c ∧ l.length ≤ c ∧ lo ≤ gb ∧ gb < B ∧ IntsAt .i64 w gb o l
theorem SlI.below {w w' : World} {lo B : Nat} {v : Value} {l : List Int} (h : SlI w lo B v l) (hb : Below B w w') : SlI w' lo B v l := by
  rcases h with h | ⟨gb, o, c, h1, h2, h3, h4, h5⟩
  · exact .inl h
  · exact .inr ⟨gb, o, c, h1, h2, h3, h4, h5.below hb h4⟩
theorem SlI.of_own {w : World} {lo : Nat} {v : Value} {l : List Int} (h : w.ownsRow lo 2 1 v l.length (IL l)) : SlI w lo w.heap.size v l := by
  obtain ⟨A, c, rfl, hat⟩ := ownInts (show w.ownsRow lo 2 1 v l.length (l.map (Value.int .i64)) from h)
  rcases h.2 with ⟨e, h0⟩ | ⟨g, cap, cur, e, hlo, hg, hc, _⟩
  · exact .inl ⟨by rw [e], List.eq_nil_of_length_eq_zero h0⟩
  · cases e
    refine .inr ⟨g, 0, c, rfl, by omega, hlo, (Array.getElem?_eq_some_iff.1 hg).1, ?_⟩
    by_cases h0 : 0 < l.length
    · obtain ⟨g', o', e', _, h5⟩ := hat h0
      cases e'
      exact h5
    · exact fun i hi => absurd hi (by omega)
theorem SlI.rest {w : World} {lo B gb o c : Nat} {l : List Int} (h1 : l.length ≤ c) (h2 : lo ≤ gb) (h3 : gb < B) (h : IntsAt .i64 w gb o l) (h0 : 0 < l.length) : SlI w lo B (.slice (some ⟨gb, restO o c, none⟩) (l.length - 1) (c - 1)) (l.drop 1) := by
  have hl : (l.drop 1).length = l.length - 1 := by rw [List.length_drop]
  refine .inr ⟨gb, restO o c, c - 1, by rw [hl], by rw [hl]; omega, h2, h3, fun i hi => ?_⟩
  rw [hl] at hi
  rw [List.getElem_drop]
  have := h (1 + i) (by omega)
  unfold restO
  rw [if_neg (by omega), show o + 1 + i = o + (1 + i) by omega]
  exact this
/-- Block b is a map that holds f's list of each book, to be read. -/
def GrR (w : World) (b B n : Nat) (g : Bk → Value) (f : Bk → List Int) : Prop := MpF w b n g ∧ b < B ∧ ∀ x : Bk, x.Wf → SlI w (b + 1) B (g x) (f x)
theorem GrR.of_GrI {w : World} {b n : Nat} {g : Bk → Value} {f : Bk → List Int} (h : GrI w b (b + 1) n g f) : GrR w b w.heap.size n g f :=
  ⟨h.1, h.1.lt, fun x wx => SlI.of_own (h.2.2.2.1 x wx)⟩
theorem MpF.belowB {w w' : World} {b n B : Nat} {f : Bk → Value} (h : MpF w b n f) (hb : Below B w w') (hl : b < B) : MpF w' b n f := by
  obtain ⟨es, clock, h1, h2⟩ := h
  exact ⟨es, clock, (hb.block b hl).trans h1, h2⟩
theorem GrR.below {w w' : World} {b B n : Nat} {g : Bk → Value} {f : Bk → List Int} (h : GrR w b B n g f) (hb : Below B w w') : GrR w' b B n g f :=
  ⟨h.1.belowB hb h.2.1, h.2.1, fun x wx => (h.2.2 x wx).below hb⟩
theorem SlI.other {w w' : World} {lo B b : Nat} {v : Value} {l : List Int} (h : SlI w lo B v l) (hg : w.grownBy w' (some b)) (hb : b < lo) (hB : B ≤ w.heap.size) : SlI w' lo B v l := by
  rcases h with h | ⟨gb, o, c, h1, h2, h3, h4, h5⟩
  · exact .inl h
  · refine .inr ⟨gb, o, c, h1, h2, h3, h4, fun i hi => ?_⟩
    have e := hg.block gb (by omega) (fun e => by injection e with e; omega)
    have := h5 i hi
    unfold World.cell? at this ⊢
    rw [e]
    exact this
theorem GrR.put {w : World} {b B n : Nat} {g : Bk → Value} {f : Bk → List Int} (h : GrR w b B n g f) (hB : B ≤ w.heap.size) {k : Bk} (wk : k.Wf) {v : Value} {l : List Int} (hv : SlI w (b + 1) B v l) :
    ∃ w2, (Instr.mapUpdate 91 (.map (some b)) (bkV k) v).run Tryd.prog w = .ok () w2 ∧ GrR w2 b B (n + 1) (updV g k v) (updF f k l) ∧ w.grownBy w2 (some b) := by
  obtain ⟨w2, hr, hm, hg⟩ := h.1.put k wk v
  refine ⟨w2, hr, ⟨hm, h.2.1, fun x wx => ?_⟩, hg⟩
  by_cases e : k = x
  · subst e
    rw [updV_same, updF_same]
    exact hv.other hg (by omega) hB
  · rw [updV_other _ _ e, updF_other _ _ e]
    exact (h.2.2 x wx).other hg (by omega) hB
end Go.Proofs.YteeblpdjpaellaaDoor
