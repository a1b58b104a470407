/- Lists of texts: how they read, compared, marked. Condition: at most 400 texts. -/
import Derived.Test.YtimojjkblofhnaaNlP
import Derived.Test.YtimojjkblofhnaaNums
import Derived.Test.YtimojjkblofhnaaOwn
import Derived.Test.YtimojjkblofhnaaDec
import Derived.Deep.RegionHeld3
import Derived.Test.YtimojjkblofhnaaQuiet
import Derived.BigQuiet
namespace Go.Proofs.Ytimojjkblofhnaa
set_option linter.unusedSimpArgs false
set_option linter.unusedVariables false
set_option maxRecDepth 100000
open Go.RowKit

def StrsAt (w : World) (g o : Nat) (ss : List (List UInt8)) : Prop := ∀ i (h : i < ss.length), w.cell? ⟨g, o + i, none⟩ = some (.string (tB ss[i]))
def StrsOf (w : World) (v : Value) (ss : List (List UInt8)) : Prop := ∃ A c, v = .slice A ss.length c ∧ (0 < ss.length → ∃ g o, A = some ⟨g, o, none⟩ ∧ g < w.heap.size ∧ StrsAt w g o ss)
theorem StrsAt.below {w w' : World} {B g o : Nat} {ss : List (List UInt8)} (h : StrsAt w g o ss) (hb : Below B w w') (hg : g < B) : StrsAt w' g o ss := fun i hi => (hb.cell (p := ⟨g, o + i, none⟩) hg).trans (h i hi)
theorem StrsOf.below {w w' : World} {v : Value} {ss : List (List UInt8)} (h : StrsOf w v ss) (hb : Below w.heap.size w w') : StrsOf w' v ss := by
  obtain ⟨A, c, rfl, hat⟩ := h
  refine ⟨A, c, rfl, fun h0 => ?_⟩
  obtain ⟨g, o, rfl, hg, ha⟩ := hat h0
  exact ⟨g, o, rfl, Nat.lt_of_lt_of_le hg hb.size, ha.below hb hg⟩
theorem ownStrs {w : World} {base n : Nat} {v : Value} {ss : List (List UInt8)} {t : TypeId} (h : w.ownsRow base t 1 v n (ss.map encStr)) (hn : n = ss.length) : StrsOf w v ss := by
  subst hn
  rcases h.2 with ⟨rfl, hn⟩ | ⟨g, cap, cur, rfl, hb, hg, _⟩
  · exact ⟨none, 0, by rw [hn], fun h0 => absurd h0 (by omega)⟩
  · refine ⟨_, cap, rfl, fun _ => ⟨g, 0, rfl, (Array.getElem?_eq_some_iff.1 hg).1, fun i hi => ?_⟩⟩
    rw [Nat.zero_add, h.cellAt i (by omega)]
    simp [List.getElem?_eq_getElem hi, encStr_tB]

/-! ### marks -/
def dgF : Nat → Nat → List UInt8 → List UInt8
  | 0, _, o => o
  | f + 1, k, o => if k = 0 then o else dgF f (k / 10) (digB k :: o)
def mtL (k : Nat) : List UInt8 := 109 :: dgF 20 k []
def mtV (j : Nat) : List Value := (List.range j).map fun i => Value.string (tB (mtL (i + 1)))
def mtR (n : Nat) : List (List UInt8) := (List.range n).map fun i => mtL (i + 1)
theorem mtV_len (j : Nat) : (mtV j).length = j := by simp [mtV]
theorem mtR_len (n : Nat) : (mtR n).length = n := by simp [mtR]
theorem mtR_map (n : Nat) : (mtR n).map encStr = mtV n := by unfold mtR mtV; rw [List.map_map]; rfl
theorem mtV_set {l : List Value} {j : Nat} (h : j < l.length) : (mtV j ++ l.drop j).set j (.string (tB (mtL (j + 1)))) = mtV (j + 1) ++ l.drop (j + 1) := by
  rw [List.set_append_right _ _ (by rw [mtV_len]; exact Nat.le_refl _), mtV_len, Nat.sub_self, List.drop_eq_getElem_cons h, List.set_cons_zero]
  unfold mtV
  rw [List.range_succ, List.map_append, List.append_assoc]
  rfl
end Go.Proofs.Ytimojjkblofhnaa
