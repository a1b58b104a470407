/- A row of places cut in two: the books of both parts. No condition. -/
import Derived.Test.YteeblpdjpaellaaDoorRkQ
namespace Go.Proofs.YteeblpdjpaellaaDoor
set_option linter.unusedSimpArgs false
set_option linter.unusedVariables false
set_option maxRecDepth 100000
open Go.RowKit

theorem whereTo_app (t : Bool) (a b : List Pc) : ∀ k, k ≤ a.length → whereTo t (a ++ b) k = whereTo t a k
  | 0, _ => rfl
  | k + 1, h => by
    rw [whereTo, whereTo, whereTo_app t a b k (by omega), List.getD_eq_getElem?_getD, List.getD_eq_getElem?_getD, List.getElem?_append_left (by omega)]
theorem whereTo_app2 (t : Bool) (a b : List Pc) : ∀ k, whereTo t (a ++ b) (a.length + k) = whereTo t a a.length ++ (whereTo t b k).map (· + (a.length : Int))
  | 0 => by rw [Nat.add_zero, whereTo_app t a b _ (Nat.le_refl _)]; simp [whereTo]
  | k + 1 => by
    rw [← Nat.add_assoc, whereTo, whereTo_app2 t a b k, whereTo, List.map_append, List.append_assoc]
    congr 2
    rw [List.getD_eq_getElem?_getD, List.getD_eq_getElem?_getD, List.getElem?_append_right (by omega), Nat.add_sub_cancel_left]
    split <;> simp <;> omega
theorem whr_app (t : Bool) (a b : List Pc) : whr t (a ++ b) = whr t a ++ (whr t b).map (· + (a.length : Int)) := by
  unfold whr
  rw [List.length_append]
  exact whereTo_app2 t a b b.length
def shP (k : Int) (x : Pl) : Pl := ⟨x.p + k, x.b⟩
theorem plq_app (a b : List Pc) : plq (a ++ b) = plq a ++ (plq b).map (shP (a.length : Int)) := by
  unfold plq
  rw [whr_app, List.map_append, List.map_map, List.map_map]
  congr 1
  · refine List.map_congr_left fun z hz => ?_
    obtain ⟨h1, h2⟩ := whr_mem hz
    rw [List.getD_eq_getElem?_getD, List.getD_eq_getElem?_getD, List.getElem?_append_left (by omega)]
  · refine List.map_congr_left fun z hz => ?_
    obtain ⟨h1, h2⟩ := whr_mem hz
    simp only [Function.comp, shP]
    rw [List.getD_eq_getElem?_getD, List.getD_eq_getElem?_getD, List.getElem?_append_right (by omega), show (z + (a.length : Int)).toNat - a.length = z.toNat by omega]
theorem plq_lt {q : List Pc} : ∀ x ∈ plq q, 0 ≤ x.p ∧ x.p < (q.length : Int) := fun x hx => by
  unfold plq at hx
  obtain ⟨z, hz, rfl⟩ := List.mem_map.1 hx
  exact whr_mem hz
/-- The books ahead of a place, and those from there on. -/
def lowP (k : Int) (ps : List Pl) : List Pl := ps.filter fun x => decide (x.p < k)
def highP (k : Int) (ps : List Pl) : List Pl := (ps.filter fun x => !decide (x.p < k)).map (shP (-k))
theorem split_plq {n k : Nat} {ps : List Pl} (hp : PosTo n ps ps.length) (hk : k ≤ n) : plq ((plc n ps).take k) = lowP k ps ∧ plq ((plc n ps).drop k) = highP k ps := by
  have hl : (plc n ps).length = n := plcTo_length n ps _
  have hl2 : ((plc n ps).take k).length = k := by rw [List.length_take]; omega
  have e := plq_app ((plc n ps).take k) ((plc n ps).drop k)
  rw [List.take_append_drop, plq_plc hp, hl2] at e
  have h1 : ∀ x ∈ plq ((plc n ps).take k), decide (x.p < (k : Int)) = true := fun x hx => by
    have := (plq_lt x hx).2
    rw [hl2] at this
    exact decide_eq_true this
  have h2 : ∀ x ∈ (plq ((plc n ps).drop k)).map (shP (k : Int)), decide (x.p < (k : Int)) = false := fun x hx => by
    obtain ⟨z, hz, rfl⟩ := List.mem_map.1 hx
    have := (plq_lt z hz).1
    refine decide_eq_false ?_
    simp only [shP]
    omega
  generalize plq ((plc n ps).take k) = P at e h1 ⊢
  generalize plq ((plc n ps).drop k) = Q at e h2 ⊢
  unfold lowP highP
  rw [e, List.filter_append, List.filter_append]
  have f1 := List.filter_eq_self.2 h1
  have f2 : ((Q).map (shP (k : Int))).filter (fun x => decide (x.p < (k : Int))) = [] := List.filter_eq_nil_iff.2 fun x hx => by rw [h2 x hx]; simp
  have f3 : (P).filter (fun x => !decide (x.p < (k : Int))) = [] := List.filter_eq_nil_iff.2 fun x hx => by rw [h1 x hx]; simp
  have f4 : ((Q).map (shP (k : Int))).filter (fun x => !decide (x.p < (k : Int))) = (Q).map (shP (k : Int)) := List.filter_eq_self.2 fun x hx => by rw [h2 x hx]; rfl
  rw [f1, f2, f3, f4, List.append_nil, List.nil_append, List.map_map]
  refine ⟨rfl, ?_⟩
  conv => lhs; rw [← List.map_id (Q)]
  refine List.map_congr_left fun x _ => ?_
  cases x
  simp only [Function.comp, shP, id]
  congr 1
  omega
end Go.Proofs.YteeblpdjpaellaaDoor
