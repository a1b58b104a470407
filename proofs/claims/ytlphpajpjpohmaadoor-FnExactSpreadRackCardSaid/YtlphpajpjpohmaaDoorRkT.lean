/- The model's array of the places that are taken: contracts. Condition: racks that are valid. -/
import Derived.Test.YtlphpajpjpohmaaDoorRkJ
import Derived.Deep.Cut
import Derived.Deep.MidRow
namespace Go.Proofs.YtlphpajpjpohmaaDoor
set_option linter.unusedSimpArgs false
set_option linter.unusedVariables false
set_option maxRecDepth 100000
open Go.RowKit Go.Sort

/-- Sixty places, the first k books laid into them. -/
def tkL (ps : List Pl) (k : Nat) : List Value := (List.range 60).map (fun j => Value.bool (tkB (ps.take k) j))
theorem tkL_length (ps : List Pl) (k : Nat) : (tkL ps k).length = 60 := by simp [tkL]
theorem tkL_get (ps : List Pl) (k j : Nat) (h : j < 60) : (tkL ps k)[j]? = some (.bool (tkB (ps.take k) j)) := by
  unfold tkL
  rw [List.getElem?_map, List.getElem?_range h]
  rfl
theorem tkB_take {ps : List Pl} {k : Nat} (h : k < ps.length) (j : Nat) : tkB (ps.take (k + 1)) j = (tkB (ps.take k) j || (ps[k].p == (j : Int))) := by
  unfold tkB
  rw [List.take_succ_eq_append_getElem h, List.any_append]
  simp
theorem tkL_zero (ps : List Pl) : tkL ps 0 = List.replicate 60 (Value.bool false) := by
  unfold tkL
  rw [List.take_zero]
  rfl
theorem tkL_step {ps : List Pl} {k p : Nat} (h : k < ps.length) (e : ps[k].p = (p : Int)) (hp : p < 60) : (tkL ps k).toArray.setIfInBounds p (.bool true) = (tkL ps (k + 1)).toArray := by
  rw [List.setIfInBounds_toArray]
  congr 1
  refine List.ext_getElem? fun j => ?_
  by_cases hj : j < 60
  · rw [tkL_get _ _ _ hj, tkB_take h, e, List.getElem?_set]
    by_cases e2 : p = j
    · subst e2
      rw [if_pos rfl, if_pos (by rw [tkL_length]; exact hp)]
      simp
    · rw [if_neg e2, tkL_get _ _ _ hj]
      have : ((p : Int) == (j : Int)) = false := by simp; omega
      rw [this, Bool.or_false]
  · rw [List.getElem?_eq_none (by rw [List.length_set, tkL_length]; omega), List.getElem?_eq_none (by rw [tkL_length]; omega)]
theorem results_cell {P : Program} {fn : Func} {tmps : Array Value} {a : Tmp} {t : TypeId} {b o : Nat} {v : Value} {w : World} (h : fn.results = #[.cell a t]) (ha : tmps.getD a undef = .pointer (some ⟨b, o, none⟩)) (hl : (loadVar t ⟨b, o, none⟩).run P w = .ok v w) : (results fn tmps).run P w = .ok v w := by
  have hs : (asAddr (tmps.getD a undef)).run P w = .ok ⟨b, o, none⟩ w := by rw [ha]; rfl
  simp only [Array.getD_eq_getD_getElem?] at hs
  simp [results, h, hs, hl]
theorem infoA60 : (Tryd.prog.info? 84).map (·.size) = some 60 := by kernel_rfl
theorem zeroA60 : (Tryd.prog.info? 84).map (·.zero) = some (some (.agg (tkL [] 0).toArray)) := by kernel_rfl

/-- Block g holds the places from its beginning on. -/
structure TkAt (w : World) (g : Nat) (ps : List Pl) (k : Nat) : Prop where
  r : w.rangeAt g 0 (tkL ps k)
  t : w.there g 0 60
theorem TkAt.lt {w : World} {g k : Nat} {ps : List Pl} (h : TkAt w g ps k) : g < w.heap.size := by
  have := h.r 0 _ (tkL_get ps k 0 (by omega))
  exact World.block_lt_of_cell? _ _ this
theorem TkAt.below {w w' : World} {g k B : Nat} {ps : List Pl} (h : TkAt w g ps k) (hb : Below B w w') (hg : g < B) : TkAt w' g ps k :=
  ⟨fun j v hv => (hb.cell (p := ⟨g, 0 + j, none⟩) hg).trans (h.r j v hv), fun j hj => by
    obtain ⟨a, b⟩ := h.t j hj
    rw [hb.cell (p := ⟨g, 0 + j, none⟩) hg, hb.frozen (p := ⟨g, 0 + j, none⟩) hg]
    exact ⟨a, b⟩⟩
theorem TkAt.cell {w : World} {g k : Nat} {ps : List Pl} (h : TkAt w g ps k) (j : Nat) (hj : j < 60) : w.cell? ⟨g, j, none⟩ = some (.bool (tkB (ps.take k) j)) := by
  have := h.r j _ (tkL_get ps k j hj)
  rwa [Nat.zero_add] at this
theorem TkAt.frozen {w : World} {g k : Nat} {ps : List Pl} (h : TkAt w g ps k) (j : Nat) (hj : j < 60) : w.frozen? ⟨g, j, none⟩ = false := by
  have := (h.t j hj).2
  rwa [Nat.zero_add] at this
theorem TkAt.step {w : World} {g k p : Nat} {ps : List Pl} (h : TkAt w g ps k) (hk : k < ps.length) (e : ps[k].p = (p : Int)) (hp : p < 60) : TkAt (w.setCell ⟨g, p, none⟩ (.bool true)) g ps (k + 1) := by
  have hc := h.cell p hp
  refine ⟨fun j v hv => ?_, fun j hj => ?_⟩
  · have hj : j < 60 := by have := (List.getElem?_eq_some_iff.1 hv).1; rwa [tkL_length] at this
    rw [tkL_get _ _ _ hj, tkB_take hk, e] at hv
    rw [Nat.zero_add]
    by_cases e2 : p = j
    · subst e2
      rw [World.cell?_setCell_same _ _ _ hc, ← hv]
      simp
    · rw [World.cell?_setCell_other _ ⟨g, p, none⟩ ⟨g, j, none⟩ _ (fun h => e2 (by injection h)), h.cell j hj, ← hv]
      have : ((p : Int) == (j : Int)) = false := by simp; omega
      rw [this, Bool.or_false]
  · rw [Nat.zero_add]
    refine ⟨?_, ?_⟩
    · by_cases e2 : p = j
      · subst e2
        rw [World.cell?_setCell_same _ _ _ hc]
        rfl
      · rw [World.cell?_setCell_other _ ⟨g, p, none⟩ ⟨g, j, none⟩ _ (fun h => e2 (by injection h)), h.cell j hj]
        rfl
    · rw [World.frozen?_setCell]
      exact h.frozen j hj
theorem there_new (w : World) (cs : Array Value) (t : TypeId) (h : cs.size = 60) : (w.alloc (.cells cs t)).there w.heap.size 0 60 := fun j hj => by
  have e := heap_alloc_new w (.cells cs t)
  rw [Nat.zero_add, cell_of_row _ _ _ _ _ _ e, frozen_of_row _ _ _ _ _ e, Array.getElem?_eq_getElem (by omega)]
  exact ⟨rfl, rfl⟩
theorem there_below {w w' : World} {g n B : Nat} (h : w.there g 0 n) (hb : Below B w w') (hg : g < B) : w'.there g 0 n := fun j hj => by
  obtain ⟨a, b⟩ := h j hj
  rw [hb.cell (p := ⟨g, 0 + j, none⟩) hg, hb.frozen (p := ⟨g, 0 + j, none⟩) hg]
  exact ⟨a, b⟩
theorem setCells_below {a : World} {B g : Nat} (hg : B ≤ g) : ∀ (vs : List Value) (o : Nat) (w : World), Below B a w → Below B a (w.setCells g o vs)
  | [], _, _, h => h
  | v :: r, o, w, h => setCells_below hg r (o + 1) _ (h.setCell (p := ⟨g, o, none⟩) hg v)
theorem tkS (ps : List Pl) (k : Nat) : (tkL ps k).toArray.size = 60 := by rw [List.size_toArray, tkL_length]
theorem tkl_one (ps : List Pl) (k : Nat) : (tkL ps k).toArray.all (·.oneCell') = true := by
  rw [Array.all_eq_true_iff_forall_mem]
  intro v hv
  have hv : v ∈ tkL ps k := by simpa using hv
  unfold tkL at hv
  obtain ⟨j, _, rfl⟩ := List.mem_map.1 hv
  rfl

set_option maxHeartbeats 8000000 in
theorem l05Taken_any (r : Rk) (hv : Value) (wf : r.Wf) (g o : Nat) (w : World) (ha : RackAt w g o r hv) (hk : rkB r = true) :
    Calls Tryd.prog 62 #[.pointer (some ⟨g, o, none⟩)] w fun e w' => e = .returned (.agg (tkL r.ps r.ps.length).toArray) ∧ Below w.heap.size w w' := by
  have HA := Lib.hid ha
  have WF := Lib.hid wf
  obtain ⟨A, c, rfl, hat⟩ := ha.ps
  have HT := Lib.hid hat
  have h60 := rkB_len hk
  have zg := ha.low
  clear ha hat wf
  go_enter Tryd.func62, Tryd.ntmps62
  go_upto_region 1 with (fail)
  have B0 := Lib.hid (show Below w.heap.size w (World.alloc w (.cells (tkL [] 0).toArray 84)) from (Below.refl _ _).alloc (Nat.le_refl _) _)
  have T0 := Lib.hid (there_new w (tkL [] 0).toArray 84 rfl)
  have Z0 := Lib.hid (show w.heap.size < (World.alloc w (.cells (tkL [] 0).toArray 84)).heap.size by simp)
  show Code.wp _ _ _ _ (World.alloc w (.cells (tkL [] 0).toArray 84))
  generalize World.alloc w _ = w0 at B0 T0 Z0 ⊢
  refine wp_region_list ?_
  go_step
  go_step
  go_step
  go_step
  go_step
  have B1 := Lib.hid (show Below w.heap.size w (World.alloc w0 (.cells (tkL [] 0).toArray 84)) from B0.out.alloc B0.out.size _)
  have T1 := Lib.hid (there_new w0 (tkL [] 0).toArray 84 rfl)
  have T0 := Lib.hid (World.there_alloc T0.out (.cells (tkL [] 0).toArray 84))
  show wpList _ _ _ _ _ (World.alloc w0 (.cells (tkL [] 0).toArray 84))
  have z1 : w0.heap.size < (World.alloc w0 (.cells (tkL [] 0).toArray 84)).heap.size := by simp
  have z0 := Z0.out
  generalize World.alloc w0 _ = w1 at B1 T1 T0 z1 ⊢
  refine wpList_store_mid rfl 84 (.tmp 3) (.tmp 5) rfl w0.heap.size 0 (tkL [] 0).toArray rfl rfl T1.out infoA60 (tkl_one _ _) ?_
  have K2 := Lib.hid (show TkAt (w1.setCells w0.heap.size 0 (tkL [] 0).toArray.toList) w0.heap.size r.ps 0 from ⟨by
    have := World.rangeAt_setCells_same w1 w0.heap.size 0 (tkL [] 0) T1.out
    rwa [show tkL [] 0 = tkL r.ps 0 by rw [tkL_zero, tkL_zero]] at this ⊢, World.there_setCells T1.out _ _ _⟩)
  have B2 := Lib.hid (setCells_below (g := w0.heap.size) B0.out.size (tkL [] 0).toArray.toList 0 w1 B1.out)
  have T2 := Lib.hid (World.there_setCells T0.out w0.heap.size 0 (tkL [] 0).toArray.toList)
  generalize World.setCells w1 _ _ _ = w2 at K2 B2 T2 ⊢
  clear T0 T1 B0 B1 z1
  have PM := Lib.hid (fun (k : Nat) (hk2 : k < r.ps.length) => show 0 ≤ r.ps[k].p ∧ r.ps[k].p < 60 by
    obtain ⟨⟨n1, n2⟩, hp, _⟩ := rkB_of hk
    have := hp.mem _ (List.getElem_mem hk2)
    omega)
  clear hk
  go_wp2
  go_loopw [4] (fun i_ wr => ∃ k : Nat, k ≤ r.ps.length ∧ i_ = .int .i64 (k : Int) ∧ TkAt wr w0.heap.size r.ps k ∧ wr.there w.heap.size 0 60 ∧ Below w.heap.size w wr) (fun i_ _ => r.ps.length - (intOf i_).toNat)
  case atStart => exact ⟨0, Nat.zero_le _, rfl, K2.out, T2.out, B2.out⟩
  case round =>
    obtain ⟨k, hk, rfl, htk, hth, hb⟩ := hrel
    have TK := Lib.hid htk
    have TH := Lib.hid hth
    have HB := Lib.hid hb
    have c1 := (HA.out.below hb).h
    clear htk hth hb
    by_cases hlt : k < r.ps.length
    · obtain ⟨ga, oa, rfl, hga, hat⟩ := HT.out (by omega)
      obtain ⟨p0, -⟩ := plAt_some (hat.below HB.out hga) hlt
      obtain ⟨m1, m2⟩ := PM.out k hlt
      obtain ⟨p, hp⟩ : ∃ p : Nat, r.ps[k].p = (p : Int) := ⟨(r.ps[k].p).toNat, by omega⟩
      have hp6 : p < 60 := by omega
      have TS := Lib.hid (TK.out.step hlt hp hp6)
      rw [hp] at p0
      have j1 : (0 : Int) ≤ (p : Int) := by omega
      have j2 : (p : Int) < 60 := by omega
      have q0 := TK.out.cell p hp6
      have f0 := TK.out.frozen p hp6
      have q1 : ∃ u, wr.cell? ⟨w0.heap.size, p, none⟩ = some u := ⟨_, q0⟩
      have TT := Lib.hid (show (wr.setCell ⟨w0.heap.size, p, none⟩ (.bool true)).there w.heap.size 0 60 from fun j hj => by
        have h := TH.out j hj
        rw [World.cell?_setCell_other _ ⟨w0.heap.size, p, none⟩ ⟨w.heap.size, 0 + j, none⟩ _ (fun h => by injection h with h1 _; omega), World.frozen?_setCell]
        exact h)
      have HB2 := Lib.hid (HB.out.setCell (p := ⟨w0.heap.size, p, none⟩) (by simp; omega) (.bool true))
      clear hat hp q1
      go_wp2
      go_roundw
      case rel => exact ⟨k + 1, by omega, by go_num, TS.out, TT.out, HB2.out⟩
      case measure => simp [intOf]; omega
    · obtain rfl : k = r.ps.length := by omega
      go_upto_region 6 with (fail)
      refine wp_region_list ?_
      refine wpList_load_mid rfl 84 (.tmp 3) rfl w0.heap.size 0 rfl (tkL r.ps r.ps.length) _ TK.out.r Tryd.underlying84 rfl (by rw [infoA60, tkL_length]) ?_
      refine wpList_store_mid rfl 84 (.tmp 2) (.tmp 24) rfl w.heap.size 0 (tkL r.ps r.ps.length).toArray rfl rfl (by rw [tkS]; exact TH.out) (by rw [infoA60, tkS]) (tkl_one _ _) ?_
      have HR := Lib.hid (World.rangeAt_setCells_same wr w.heap.size 0 (tkL r.ps r.ps.length) (by rw [tkL_length]; exact TH.out))
      have HB2 := Lib.hid (setCells_below (g := w.heap.size) (Nat.le_refl _) (tkL r.ps r.ps.length) 0 wr HB.out)
      show wpList _ _ _ _ _ (World.setCells wr w.heap.size 0 (tkL r.ps r.ps.length))
      generalize World.setCells wr _ _ _ = w5 at HR HB2 ⊢
      go_wp2
      exact bodyPost_ret (v := .agg (tkL r.ps r.ps.length).toArray) (results_cell Tryd.results62 rfl (run_loadVar_mid (P := Tryd.prog) w5 w.heap.size 0 84 (tkL r.ps r.ps.length) _ HR.out Tryd.underlying84 rfl (by rw [infoA60, tkL_length]))) rfl ⟨rfl, HB2.out⟩
end Go.Proofs.YtlphpajpjpohmaaDoor
