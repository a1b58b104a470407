/- The stream from which arguments are drawn: contracts. Condition: a code of at most 1048576 bytes. -/
import Derived.Test.YtimojjkblofhnaaNums
import Derived.Test.YtimojjkblofhnaaQuiet
import Derived.BigQuiet
import Derived.IntWalk
namespace Go.Proofs.Ytimojjkblofhnaa
set_option linter.unusedSimpArgs false
set_option linter.unusedVariables false
set_option maxRecDepth 100000
open Go.RowKit

def SrcV (W : World) (g : Nat) (cv : Value) (a sd : Int) : Prop := W.heap[g]? = some (.cells #[cv, .int .i64 a, .int .u64 sd] 58 (0, 0))
/-- A source that stands in a world, made since an elder one. -/
structure Src (w W : World) (g : Nat) (cv : Value) (m : Nat) : Prop where
  bl : Below w.heap.size w W
  lo : w.heap.size ≤ g
  ex : ∃ a sd, SrcV W g cv a sd ∧ 0 ≤ a ∧ a ≤ (m : Int)
section
variable {w W W' : World} {g m : Nat} {cv : Value} {a sd : Int}
theorem SrcV.lt (h : SrcV W g cv a sd) : g < W.heap.size := (Array.getElem?_eq_some_iff.1 h).1
theorem Src.lt (h : Src w W g cv m) : g < W.heap.size := by
  obtain ⟨a, sd, h1, _⟩ := h.ex
  exact h1.lt
theorem Src.below (h : Src w W g cv m) (hb : Below W.heap.size W W') : Src w W' g cv m := by
  obtain ⟨a, sd, h1, h2⟩ := h.ex
  exact ⟨bnext h.bl hb, h.lo, a, sd, (hb.block g h1.lt).trans h1, h2⟩
theorem Src.kept {row : Option Nat} (h : Src w W g cv m) (hg : W.grownBy W' row) (hne : some g ≠ row) (hr : ∀ k, row = some k → w.heap.size ≤ k) : Src w W' g cv m := by
  obtain ⟨a, sd, h1, h2⟩ := h.ex
  exact ⟨h.bl.grown hg h.bl.size hr, h.lo, a, sd, (hg.block g h1.lt hne).trans h1, h2⟩
theorem Src.more {n : Nat} (h : Src w W g cv m) (hn : m ≤ n) : Src w W g cv n := by
  obtain ⟨a, sd, h1, h2, h3⟩ := h.ex
  exact ⟨h.bl, h.lo, a, sd, h1, h2, by omega⟩
end
theorem SrcV.drewN {W : World} {g : Nat} {cv : Value} {a sd : Int} (h : SrcV W g cv a sd) (N : Nat) : SrcV (W.drewN N) g cv a sd := h
theorem grow_drewN {a W : World} {r : Option Nat} (h : a.grownBy W r) (N : Nat) : a.grownBy (W.drewN N) r := ⟨h.os, h.tape, h.output, h.size, h.block⟩
theorem SrcV.put {W : World} {g : Nat} {cv : Value} {a sd : Int} (h : SrcV W g cv a sd) (x y : Int) : SrcV ((W.setCell ⟨g, 1, none⟩ (.int .i64 x)).setCell ⟨g, 2, none⟩ (.int .u64 y)) g cv x y := by
  unfold SrcV at *
  have h1 := heap_setCell_same _ _ 1 _ _ (.int .i64 x) h
  have h2 := heap_setCell_same _ _ 2 _ _ (.int .u64 y) h1
  simpa using h2
theorem Src.step {w W W2 : World} {g m : Nat} {cv : Value} {sd x : Int} (h : Src w W g cv m) (hv : SrcV W2 g cv x sd) (hx : 0 ≤ x ∧ x ≤ (m : Int) + 1) (hg : W.grownBy W2 (some g)) : Src w W2 g cv (m + 1) :=
  ⟨h.bl.grown hg h.bl.size (fun k hk => by injection hk with hk; have := h.lo; omega), h.lo, x, sd, hv, hx.1, by push_cast; omega⟩
def a255 (x : Int) : Int := IntKind.u64.wrap ((BitVec.ofInt 64 x &&& BitVec.ofInt 64 255).toNat : Nat)
theorem a255_bd (x : Int) : 0 ≤ a255 x ∧ a255 x ≤ 255 := by
  unfold a255
  have h : (BitVec.ofInt 64 x &&& BitVec.ofInt 64 255).toNat ≤ 255 := by
    rw [BitVec.toNat_and]
    exact Nat.le_trans Nat.and_le_right (by decide)
  rw [show IntKind.u64.wrap (((BitVec.ofInt 64 x &&& BitVec.ofInt 64 255).toNat : Nat) : Int) = (((BitVec.ofInt 64 x &&& BitVec.ofInt 64 255).toNat : Nat) : Int) from IntWalk.u64_in _ (by omega)]
  omega
theorem bits255 (x : Int) : 0 ≤ wrap64 (bits .and .u64 x 255) ∧ wrap64 (bits .and .u64 x 255) ≤ 255 := by
  have h := a255_bd x
  have e : bits .and .u64 x 255 = a255 x := rfl
  rw [e]
  generalize a255 x = z at h
  have e2 : wrap64 z = z := by unfold wrap64; omega
  rw [e2]
  exact h
theorem run_and255 (x : Int) (W : World) : (binOp .and 56 (.int .u64 x) (.int .u64 255)).run Try.prog W = .ok (.int .u64 (a255 x)) W := by rfl
set_option maxHeartbeats 2000000 in
theorem next_any {w : World} {cv : Value} {zs : List Int} (hc : IntsOf .u8 w cv zs) (hb : ∀ z ∈ zs, 0 ≤ z ∧ z ≤ 255) (hl : zs.length ≤ 1048576) {g m : Nat} {W : World} (h : Src w W g cv m) (hm : m ≤ 1048576) :
    Calls Try.prog 41 #[.pointer (some ⟨g, 0, none⟩)] W fun e W' => ∃ z, e = .returned (.int .i64 z) ∧ (0 ≤ z ∧ z ≤ 255) ∧ Src w W' g cv (m + 1) ∧ W.grownBy W' (some g) := by
  have HS := Lib.hid h
  obtain ⟨a, sd, hv, ha0, ham⟩ := h.ex
  have HV := Lib.hid hv
  obtain ⟨A, c, rfl, hat⟩ := hc
  have HB := Lib.hid hb
  have HT := Lib.hid hat
  have zg := hv.lt
  have AN := fun x (V : World) => run_and255 x V
  have c0 := cell_of_row W _ 0 _ _ _ hv
  have c1 := cell_of_row W _ 1 _ _ _ hv
  have c2 := cell_of_row W _ 2 _ _ _ hv
  have fz := fun j => frozen_of_row W _ j _ _ hv
  simp only [List.getElem?_toArray, List.getElem?_cons_zero, List.getElem?_cons_succ] at c0 c1 c2
  clear h hv hb hat
  by_cases hlt : a < (zs.length : Int)
  · obtain ⟨k, rfl⟩ : ∃ k : Nat, a = (k : Int) := ⟨a.toNat, by omega⟩
    have hk : k < zs.length := by omega
    obtain ⟨g', o', rfl, hg', hi⟩ := HT.out (by omega)
    have p0 := (HS.out.bl.cell (p := ⟨g', o' + k, none⟩) hg').trans (hi k hk)
    have ZB := Lib.hid (HB.out _ (List.getElem_mem hk))
    generalize zs[k] = z at p0 ZB
    have zb1 := ZB.out.1
    have zb2 := ZB.out.2
    clear hi
    go_enter Try.func41, Try.ntmps41
    go_wp2
    go_quiet (fail)
    go_wp2
    go_quiet (fail)
    go_wp2
    refine (?_ : ∀ (N : Nat) (y : Int), Code.wp _ _ _ _ (((W.drewN N).setCell ⟨g, 1, none⟩ (.int .i64 ((k : Int) + 1))).setCell ⟨g, 2, none⟩ (.int .u64 y))) _ _
    intro N y
    have HN := HV.out.drewN N
    obtain ⟨W2, hW⟩ : ∃ W2, ((W.drewN N).setCell ⟨g, 1, none⟩ (.int .i64 ((k : Int) + 1))).setCell ⟨g, 2, none⟩ (.int .u64 y) = W2 := ⟨_, rfl⟩
    rw [hW]
    obtain ⟨sd2, V2⟩ : ∃ sd2, SrcV W2 g (.slice (some ⟨g', o', none⟩) zs.length c) ((k : Int) + 1) sd2 := ⟨_, by rw [← hW]; exact HN.put _ _⟩
    have G2 : W.grownBy W2 (some g) := by rw [← hW]; exact only_set2 (only_set2 (grow_drewN (World.grownBy.refl W (some g)) N) 1 _) 2 _
    have S2 := Lib.hid (HS.out.step V2 (by omega) G2)
    have G2 := Lib.hid G2
    have d0 := cell_of_row W2 _ 0 _ _ _ V2
    have d1 := cell_of_row W2 _ 1 _ _ _ V2
    have d2 := cell_of_row W2 _ 2 _ _ _ V2
    simp only [List.getElem?_toArray, List.getElem?_cons_zero, List.getElem?_cons_succ] at d0 d1 d2
    clear hW V2 HN fz c0 c1 c2
    go_quiet (fail)
    go_wp2
    go_ret
    exact ⟨z, rfl, ⟨zb1, zb2⟩, S2.out.below (below_drewN (Below.refl _ _) _), grow_drewN G2.out _⟩
  · have hge : (zs.length : Int) ≤ a := by omega
    have hne : ¬ a + 1 ≤ (zs.length : Int) := by omega
    go_enter Try.func41, Try.ntmps41
    go_wp2
    go_quiet (fail)
    go_wp2
    refine (?_ : ∀ (N : Nat) (y : Int), Code.wp _ _ _ _ (((W.drewN N).setCell ⟨g, 1, none⟩ (.int .i64 (a + 1))).setCell ⟨g, 2, none⟩ (.int .u64 y))) _ _
    intro N y
    have HN := HV.out.drewN N
    obtain ⟨W2, hW⟩ : ∃ W2, ((W.drewN N).setCell ⟨g, 1, none⟩ (.int .i64 (a + 1))).setCell ⟨g, 2, none⟩ (.int .u64 y) = W2 := ⟨_, rfl⟩
    rw [hW]
    obtain ⟨sd2, V2⟩ : ∃ sd2, SrcV W2 g (.slice A zs.length c) (a + 1) sd2 := ⟨_, by rw [← hW]; exact HN.put _ _⟩
    have G2 : W.grownBy W2 (some g) := by rw [← hW]; exact only_set2 (only_set2 (grow_drewN (World.grownBy.refl W (some g)) N) 1 _) 2 _
    have S2 := Lib.hid (HS.out.step V2 (by omega) G2)
    have G2 := Lib.hid G2
    have d0 := cell_of_row W2 _ 0 _ _ _ V2
    have d1 := cell_of_row W2 _ 1 _ _ _ V2
    have d2 := cell_of_row W2 _ 2 _ _ _ V2
    simp only [List.getElem?_toArray, List.getElem?_cons_zero, List.getElem?_cons_succ] at d0 d1 d2
    clear hW V2 HN fz c0 c1 c2
    go_quiet (fail)
    go_wp2
    go_ret
    exact ⟨wrap64 (bits .and .u64 (sd2 / 1099511627776) 255), rfl, bits255 _, S2.out.below (below_drewN (Below.refl _ _) _), grow_drewN G2.out _⟩
end Go.Proofs.Ytimojjkblofhnaa
