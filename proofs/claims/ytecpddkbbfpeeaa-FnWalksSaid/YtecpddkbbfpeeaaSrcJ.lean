/- The stream of draws, drawn books and lists: contracts. Condition: a code of at most 1048576 bytes. -/
import Derived.Test.YtecpddkbbfpeeaaNums
import Derived.Test.YtecpddkbbfpeeaaQuiet
import Derived.BigQuiet
import Derived.IntWalk
import Derived.Test.YtecpddkbbfpeeaaValid2
import Derived.Deep.CutBlock
import Derived.Test.YtecpddkbbfpeeaaStbS
import Derived.Test.YtecpddkbbfpeeaaFlB
namespace Go.Proofs.Ytecpddkbbfpeeaa
set_option linter.unusedSimpArgs false
set_option linter.unusedVariables false
set_option maxRecDepth 100000

section
open Go.RowKit

def SrcV (W : World) (g : Nat) (cv : Value) (a sd : Int) : Prop := W.heap[g]? = some (.cells #[cv, .int .i64 a, .int .u64 sd] 69 (0, 0))
/-- A source that stands in a world, made since an elder one. -/
structure Src (w W : World) (g : Nat) (cv : Value) (m : Nat) : Prop where
  bl : Below w.heap.size w W
  lo : w.heap.size ≤ g
  ex : ∃ a sd, SrcV W g cv a sd ∧ 0 ≤ a ∧ a ≤ (m : Int)
section
variable {w W W' : World} {g m : Nat} {cv : Value} {a sd : Int}
theorem SrcV.lt (h : SrcV W g cv a sd) : g < W.heap.size := (Array.getElem?_eq_some_iff.1 h).1
theorem Src.lt (h : Src w W g cv m) : g < W.heap.size := by
  obtain ⟨a, sd, h1, _⟩ := h.ex
  exact h1.lt
theorem Src.below (h : Src w W g cv m) (hb : Below W.heap.size W W') : Src w W' g cv m := by
  obtain ⟨a, sd, h1, h2⟩ := h.ex
  exact ⟨bnext h.bl hb, h.lo, a, sd, (hb.block g h1.lt).trans h1, h2⟩
theorem Src.kept {row : Option Nat} (h : Src w W g cv m) (hg : W.grownBy W' row) (hne : some g ≠ row) (hr : ∀ k, row = some k → w.heap.size ≤ k) : Src w W' g cv m := by
  obtain ⟨a, sd, h1, h2⟩ := h.ex
  exact ⟨h.bl.grown hg h.bl.size hr, h.lo, a, sd, (hg.block g h1.lt hne).trans h1, h2⟩
theorem Src.more {n : Nat} (h : Src w W g cv m) (hn : m ≤ n) : Src w W g cv n := by
  obtain ⟨a, sd, h1, h2, h3⟩ := h.ex
  exact ⟨h.bl, h.lo, a, sd, h1, h2, by omega⟩
end
theorem SrcV.drewN {W : World} {g : Nat} {cv : Value} {a sd : Int} (h : SrcV W g cv a sd) (N : Nat) : SrcV (W.drewN N) g cv a sd := h
theorem grow_drewN {a W : World} {r : Option Nat} (h : a.grownBy W r) (N : Nat) : a.grownBy (W.drewN N) r := ⟨h.os, h.tape, h.output, h.size, h.block⟩
theorem SrcV.put {W : World} {g : Nat} {cv : Value} {a sd : Int} (h : SrcV W g cv a sd) (x y : Int) : SrcV ((W.setCell ⟨g, 1, none⟩ (.int .i64 x)).setCell ⟨g, 2, none⟩ (.int .u64 y)) g cv x y := by
  unfold SrcV at *
  have h1 := heap_setCell_same _ _ 1 _ _ (.int .i64 x) h
  have h2 := heap_setCell_same _ _ 2 _ _ (.int .u64 y) h1
  simpa using h2
theorem Src.step {w W W2 : World} {g m : Nat} {cv : Value} {sd x : Int} (h : Src w W g cv m) (hv : SrcV W2 g cv x sd) (hx : 0 ≤ x ∧ x ≤ (m : Int) + 1) (hg : W.grownBy W2 (some g)) : Src w W2 g cv (m + 1) :=
  ⟨h.bl.grown hg h.bl.size (fun k hk => by injection hk with hk; have := h.lo; omega), h.lo, x, sd, hv, hx.1, by push_cast; omega⟩
def a255 (x : Int) : Int := IntKind.u64.wrap ((BitVec.ofInt 64 x &&& BitVec.ofInt 64 255).toNat : Nat)
theorem a255_bd (x : Int) : 0 ≤ a255 x ∧ a255 x ≤ 255 := by
  unfold a255
  have h : (BitVec.ofInt 64 x &&& BitVec.ofInt 64 255).toNat ≤ 255 := by
    rw [BitVec.toNat_and]
    exact Nat.le_trans Nat.and_le_right (by decide)
  rw [show IntKind.u64.wrap (((BitVec.ofInt 64 x &&& BitVec.ofInt 64 255).toNat : Nat) : Int) = (((BitVec.ofInt 64 x &&& BitVec.ofInt 64 255).toNat : Nat) : Int) from IntWalk.u64_in _ (by omega)]
  omega
theorem bits255 (x : Int) : 0 ≤ wrap64 (bits .and .u64 x 255) ∧ wrap64 (bits .and .u64 x 255) ≤ 255 := by
  have h := a255_bd x
  have e : bits .and .u64 x 255 = a255 x := rfl
  rw [e]
  generalize a255 x = z at h
  have e2 : wrap64 z = z := by unfold wrap64; omega
  rw [e2]
  exact h
theorem run_and255 (x : Int) (W : World) : (binOp .and 67 (.int .u64 x) (.int .u64 255)).run Try.prog W = .ok (.int .u64 (a255 x)) W := by rfl
set_option maxHeartbeats 2000000 in
theorem next_any {w : World} {cv : Value} {zs : List Int} (hc : IntsOf .u8 w cv zs) (hb : ∀ z ∈ zs, 0 ≤ z ∧ z ≤ 255) (hl : zs.length ≤ 1048576) {g m : Nat} {W : World} (h : Src w W g cv m) (hm : m ≤ 1048576) :
    Calls Try.prog 41 #[.pointer (some ⟨g, 0, none⟩)] W fun e W' => ∃ z, e = .returned (.int .i64 z) ∧ (0 ≤ z ∧ z ≤ 255) ∧ Src w W' g cv (m + 1) ∧ W.grownBy W' (some g) := by
  have HS := Lib.hid h
  obtain ⟨a, sd, hv, ha0, ham⟩ := h.ex
  have HV := Lib.hid hv
  obtain ⟨A, c, rfl, hat⟩ := hc
  have HB := Lib.hid hb
  have HT := Lib.hid hat
  have zg := hv.lt
  have AN := fun x (V : World) => run_and255 x V
  have c0 := cell_of_row W _ 0 _ _ _ hv
  have c1 := cell_of_row W _ 1 _ _ _ hv
  have c2 := cell_of_row W _ 2 _ _ _ hv
  have fz := fun j => frozen_of_row W _ j _ _ hv
  simp only [List.getElem?_toArray, List.getElem?_cons_zero, List.getElem?_cons_succ] at c0 c1 c2
  clear h hv hb hat
  by_cases hlt : a < (zs.length : Int)
  · obtain ⟨k, rfl⟩ : ∃ k : Nat, a = (k : Int) := ⟨a.toNat, by omega⟩
    have hk : k < zs.length := by omega
    obtain ⟨g', o', rfl, hg', hi⟩ := HT.out (by omega)
    have p0 := (HS.out.bl.cell (p := ⟨g', o' + k, none⟩) hg').trans (hi k hk)
    have ZB := Lib.hid (HB.out _ (List.getElem_mem hk))
    generalize zs[k] = z at p0 ZB
    have zb1 := ZB.out.1
    have zb2 := ZB.out.2
    clear hi
    go_enter Try.func41, Try.ntmps41
    go_wp2
    go_quiet (fail)
    go_wp2
    go_quiet (fail)
    go_wp2
    refine (?_ : ∀ (N : Nat) (y : Int), Code.wp _ _ _ _ (((W.drewN N).setCell ⟨g, 1, none⟩ (.int .i64 ((k : Int) + 1))).setCell ⟨g, 2, none⟩ (.int .u64 y))) _ _
    intro N y
    have HN := HV.out.drewN N
    obtain ⟨W2, hW⟩ : ∃ W2, ((W.drewN N).setCell ⟨g, 1, none⟩ (.int .i64 ((k : Int) + 1))).setCell ⟨g, 2, none⟩ (.int .u64 y) = W2 := ⟨_, rfl⟩
    rw [hW]
    obtain ⟨sd2, V2⟩ : ∃ sd2, SrcV W2 g (.slice (some ⟨g', o', none⟩) zs.length c) ((k : Int) + 1) sd2 := ⟨_, by rw [← hW]; exact HN.put _ _⟩
    have G2 : W.grownBy W2 (some g) := by rw [← hW]; exact only_set2 (only_set2 (grow_drewN (World.grownBy.refl W (some g)) N) 1 _) 2 _
    have S2 := Lib.hid (HS.out.step V2 (by omega) G2)
    have G2 := Lib.hid G2
    have d0 := cell_of_row W2 _ 0 _ _ _ V2
    have d1 := cell_of_row W2 _ 1 _ _ _ V2
    have d2 := cell_of_row W2 _ 2 _ _ _ V2
    simp only [List.getElem?_toArray, List.getElem?_cons_zero, List.getElem?_cons_succ] at d0 d1 d2
    clear hW V2 HN fz c0 c1 c2
    go_quiet (fail)
    go_wp2
    go_ret
    exact ⟨z, rfl, ⟨zb1, zb2⟩, S2.out.below (below_drewN (Below.refl _ _) _), grow_drewN G2.out _⟩
  · have hge : (zs.length : Int) ≤ a := by omega
    have hne : ¬ a + 1 ≤ (zs.length : Int) := by omega
    go_enter Try.func41, Try.ntmps41
    go_wp2
    go_quiet (fail)
    go_wp2
    refine (?_ : ∀ (N : Nat) (y : Int), Code.wp _ _ _ _ (((W.drewN N).setCell ⟨g, 1, none⟩ (.int .i64 (a + 1))).setCell ⟨g, 2, none⟩ (.int .u64 y))) _ _
    intro N y
    have HN := HV.out.drewN N
    obtain ⟨W2, hW⟩ : ∃ W2, ((W.drewN N).setCell ⟨g, 1, none⟩ (.int .i64 (a + 1))).setCell ⟨g, 2, none⟩ (.int .u64 y) = W2 := ⟨_, rfl⟩
    rw [hW]
    obtain ⟨sd2, V2⟩ : ∃ sd2, SrcV W2 g (.slice A zs.length c) (a + 1) sd2 := ⟨_, by rw [← hW]; exact HN.put _ _⟩
    have G2 : W.grownBy W2 (some g) := by rw [← hW]; exact only_set2 (only_set2 (grow_drewN (World.grownBy.refl W (some g)) N) 1 _) 2 _
    have S2 := Lib.hid (HS.out.step V2 (by omega) G2)
    have G2 := Lib.hid G2
    have d0 := cell_of_row W2 _ 0 _ _ _ V2
    have d1 := cell_of_row W2 _ 1 _ _ _ V2
    have d2 := cell_of_row W2 _ 2 _ _ _ V2
    simp only [List.getElem?_toArray, List.getElem?_cons_zero, List.getElem?_cons_succ] at d0 d1 d2
    clear hW V2 HN fz c0 c1 c2
    go_quiet (fail)
    go_wp2
    go_ret
    exact ⟨wrap64 (bits .and .u64 (sd2 / 1099511627776) 255), rfl, bits255 _, S2.out.below (below_drewN (Below.refl _ _) _), grow_drewN G2.out _⟩
end

section
open Go.RowKit

section
variable {w : World} {cv : Value} {zs : List Int}
theorem gr_trans {a b c : World} {g : Nat} (h : a.grownBy b (some g)) (k : b.grownBy c (some g)) : a.grownBy c (some g) :=
  ⟨k.os.trans h.os, k.tape.trans h.tape, k.output.trans h.output, Nat.le_trans h.size k.size, fun b hb hne => (k.block b (Nat.lt_of_lt_of_le hb h.size) hne).trans (h.block b hb hne)⟩
set_option maxHeartbeats 2000000 in
theorem pick_any (hc : IntsOf .u8 w cv zs) (hb : ∀ z ∈ zs, 0 ≤ z ∧ z ≤ 255) (hl : zs.length ≤ 1048576) {g m : Nat} {W : World} (h : Src w W g cv m) (hm : m ≤ 1048000) (n : Int) (hn1 : 2 ≤ n) (hn2 : n ≤ 1048576) :
    Calls Try.prog 20 #[.pointer (some ⟨g, 0, none⟩), .int .i64 n] W fun e W' => ∃ z, e = .returned (.int .i64 z) ∧ (0 ≤ z ∧ z < n) ∧ Src w W' g cv (m + 2) ∧ W.grownBy W' (some g) := by
  have H := Lib.hid h
  have NX := Lib.hid (fun (m : Nat) (V : World) (h : Src w V g cv m) (hm : m ≤ 1048576) => next_any hc hb hl h hm)
  have h1 : ¬ n ≤ 1 := by omega
  clear h hc hb
  go_enter Try.func20, Try.ntmps20
  go_wp2_with fail
  refine (NX.out _ _ H.out (by omega)).mono ?_
  rintro e W1 ⟨z, rfl, ⟨z1, z2⟩, s1, g1⟩
  have S1 := Lib.hid s1
  have G1 := Lib.hid g1
  clear s1 g1
  by_cases h2 : (200 : Int) < n
  · go_wp2_with fail
    refine (NX.out _ _ S1.out (by omega)).mono ?_
    rintro e W2 ⟨y, rfl, ⟨y1, y2⟩, s2, g2⟩
    have S2 := Lib.hid s2
    have G2 := Lib.hid g2
    clear s2 g2
    have hp : 0 ≤ (z * 256 + y) % n ∧ (z * 256 + y) % n < n := ⟨Int.emod_nonneg _ (by omega), Int.emod_lt_of_pos _ (by omega)⟩
    have te : (z * 256 + y).tmod n = (z * 256 + y) % n := Int.tmod_eq_emod_of_nonneg (by omega)
    have HP := Lib.hid hp
    clear hp
    go_wp2
    go_ret
    exact ⟨_, rfl, by first | exact HP.out | (rw [te]; exact HP.out), S2.out, gr_trans G1.out G2.out⟩
  · have hp : 0 ≤ z % n ∧ z % n < n := ⟨Int.emod_nonneg _ (by omega), Int.emod_lt_of_pos _ (by omega)⟩
    have te : z.tmod n = z % n := Int.tmod_eq_emod_of_nonneg (by omega)
    have HP := Lib.hid hp
    clear hp
    go_wp2
    go_ret
    exact ⟨_, rfl, by first | exact HP.out | (rw [te]; exact HP.out), S1.out.more (by omega), G1.out⟩
end
theorem from_any (cv : Value) {A : Option Addr} {n c : Nat} (hcv : cv = .slice A n c) (w : World) :
    Calls Try.prog 19 #[cv] w fun e W => ∃ g, e = .returned (.pointer (some ⟨g, 0, none⟩)) ∧ Src w W g cv 0 := by
  subst hcv
  have B := Lib.hid (show Src w (w.alloc (.cells #[.slice A n c, .int .i64 0, .int .u64 0] 69)) w.heap.size (.slice A n c) 0 from ⟨(Below.refl _ _).alloc (Nat.le_refl _) _, Nat.le_refl _, 0, 0, heap_alloc_new w _, by omega, by omega⟩)
  go_enter Try.func19, Try.ntmps19
  go_wp2
  go_ret
  exact ⟨_, rfl, B.out⟩
end

section
open Go.RowKit

/-- A book's block. -/
def K8 (W : World) (p : Nat) (c m0 m1 m2 v wi hi we : Int) : Prop := W.heap[p]? = some (.cells #[.int .i16 c, .int .u8 m0, .int .u8 m1, .int .u8 m2, .int .i16 v, .int .i16 wi, .int .i16 hi, .int .i16 we] 42 (0, 0))
section
variable {W W' : World} {p : Nat} {c m0 m1 m2 v wi hi we : Int}
theorem K8.lt (h : K8 W p c m0 m1 m2 v wi hi we) : p < W.heap.size := (Array.getElem?_eq_some_iff.1 h).1
theorem K8.kept {g : Nat} (h : K8 W p c m0 m1 m2 v wi hi we) (hg : W.grownBy W' (some g)) (hne : p ≠ g) : K8 W' p c m0 m1 m2 v wi hi we := (hg.block p h.lt (fun e => hne (by injection e))).trans h
theorem K8.below (h : K8 W p c m0 m1 m2 v wi hi we) (hb : Below W.heap.size W W') : K8 W' p c m0 m1 m2 v wi hi we := (hb.block p h.lt).trans h
theorem K8.fz (h : K8 W p c m0 m1 m2 v wi hi we) (i : Nat) : W.frozen? ⟨p, i, none⟩ = false := frozen_of_row W p i _ _ h
theorem K8.c0 (h : K8 W p c m0 m1 m2 v wi hi we) : W.cell? ⟨p, 0, none⟩ = some (.int .i16 c) := cell_of_row W p 0 _ _ _ h
theorem K8.c1 (h : K8 W p c m0 m1 m2 v wi hi we) : W.cell? ⟨p, 1, none⟩ = some (.int .u8 m0) := cell_of_row W p 1 _ _ _ h
theorem K8.c2 (h : K8 W p c m0 m1 m2 v wi hi we) : W.cell? ⟨p, 2, none⟩ = some (.int .u8 m1) := cell_of_row W p 2 _ _ _ h
theorem K8.c3 (h : K8 W p c m0 m1 m2 v wi hi we) : W.cell? ⟨p, 3, none⟩ = some (.int .u8 m2) := cell_of_row W p 3 _ _ _ h
theorem K8.c4 (h : K8 W p c m0 m1 m2 v wi hi we) : W.cell? ⟨p, 4, none⟩ = some (.int .i16 v) := cell_of_row W p 4 _ _ _ h
theorem K8.c5 (h : K8 W p c m0 m1 m2 v wi hi we) : W.cell? ⟨p, 5, none⟩ = some (.int .i16 wi) := cell_of_row W p 5 _ _ _ h
theorem K8.c6 (h : K8 W p c m0 m1 m2 v wi hi we) : W.cell? ⟨p, 6, none⟩ = some (.int .i16 hi) := cell_of_row W p 6 _ _ _ h
theorem K8.c7 (h : K8 W p c m0 m1 m2 v wi hi we) : W.cell? ⟨p, 7, none⟩ = some (.int .i16 we) := cell_of_row W p 7 _ _ _ h
theorem K8.s1 (h : K8 W p c m0 m1 m2 v wi hi we) (x : Int) : K8 (W.setCell ⟨p, 1, none⟩ (.int .u8 x)) p c x m1 m2 v wi hi we := by
  have h1 := heap_setCell_same _ _ 1 _ _ (.int .u8 x) h
  unfold K8
  simpa using h1
theorem K8.s2 (h : K8 W p c m0 m1 m2 v wi hi we) (x : Int) : K8 (W.setCell ⟨p, 2, none⟩ (.int .u8 x)) p c m0 x m2 v wi hi we := by
  have h1 := heap_setCell_same _ _ 2 _ _ (.int .u8 x) h
  unfold K8
  simpa using h1
theorem K8.s3 (h : K8 W p c m0 m1 m2 v wi hi we) (x : Int) : K8 (W.setCell ⟨p, 3, none⟩ (.int .u8 x)) p c m0 m1 x v wi hi we := by
  have h1 := heap_setCell_same _ _ 3 _ _ (.int .u8 x) h
  unfold K8
  simpa using h1
theorem K8.s0 (h : K8 W p c m0 m1 m2 v wi hi we) (x : Int) : K8 (W.setCell ⟨p, 0, none⟩ (.int .i16 x)) p x m0 m1 m2 v wi hi we := by
  have h1 := heap_setCell_same _ _ 0 _ _ (.int .i16 x) h
  unfold K8
  simpa using h1
theorem K8.s4 (h : K8 W p c m0 m1 m2 v wi hi we) (x : Int) : K8 (W.setCell ⟨p, 4, none⟩ (.int .i16 x)) p c m0 m1 m2 x wi hi we := by
  have h1 := heap_setCell_same _ _ 4 _ _ (.int .i16 x) h
  unfold K8
  simpa using h1
theorem K8.s5 (h : K8 W p c m0 m1 m2 v wi hi we) (x : Int) : K8 (W.setCell ⟨p, 5, none⟩ (.int .i16 x)) p c m0 m1 m2 v x hi we := by
  have h1 := heap_setCell_same _ _ 5 _ _ (.int .i16 x) h
  unfold K8
  simpa using h1
theorem K8.s6 (h : K8 W p c m0 m1 m2 v wi hi we) (x : Int) : K8 (W.setCell ⟨p, 6, none⟩ (.int .i16 x)) p c m0 m1 m2 v wi x we := by
  have h1 := heap_setCell_same _ _ 6 _ _ (.int .i16 x) h
  unfold K8
  simpa using h1
theorem K8.s7 (h : K8 W p c m0 m1 m2 v wi hi we) (x : Int) : K8 (W.setCell ⟨p, 7, none⟩ (.int .i16 x)) p c m0 m1 m2 v wi hi x := by
  have h1 := heap_setCell_same _ _ 7 _ _ (.int .i16 x) h
  unfold K8
  simpa using h1
theorem gset {W : World} (p i : Nat) (u : Value) : W.grownBy (W.setCell ⟨p, i, none⟩ u) (some p) := only_set2 (World.grownBy.refl W (some p)) i u
theorem Src.set {w W : World} {g m p i : Nat} {cv u : Value} (h : Src w W g cv m) (hp : w.heap.size ≤ p) (hne : g ≠ p) : Src w (W.setCell ⟨p, i, none⟩ u) g cv m :=
  h.kept (gset p i u) (fun e => hne (by injection e)) (fun k hk => by injection hk with hk; omega)
theorem K8.far {q i : Nat} {u : Value} (h : K8 W p c m0 m1 m2 v wi hi we) (hne : p ≠ q) : K8 (W.setCell ⟨q, i, none⟩ u) p c m0 m1 m2 v wi hi we := h.kept (gset q i u) hne
end
/-- A source that stands in a world in which all else of an elder world V stands as it did. -/
structure SrcG (V w W : World) (g : Nat) (cv : Value) (m : Nat) : Prop where
  src : Src w W g cv m
  gr : V.grownBy W (some g)
  lv : w.heap.size ≤ V.heap.size
section
variable {V w W W' : World} {g m : Nat} {cv : Value}
theorem gr_below {r : Option Nat} (h : V.grownBy W r) (hb : Below W.heap.size W W') : V.grownBy W' r :=
  ⟨hb.os.trans h.os, hb.tape.trans h.tape, hb.output.trans h.output, Nat.le_trans h.size hb.size, fun i hi hne => (hb.block i (Nat.lt_of_lt_of_le hi h.size)).trans (h.block i hi hne)⟩
theorem gr_setN {r : Option Nat} (h : V.grownBy W r) {p : Nat} (hp : V.heap.size ≤ p) (i : Nat) (u : Value) : V.grownBy (W.setCell ⟨p, i, none⟩ u) r :=
  ⟨h.os, h.tape, h.output, by simpa [World.setCell] using h.size, fun k hk hne => (Below.heap_setCell W ⟨p, i, none⟩ u k (by show k ≠ p; omega)).trans (h.block k hk hne)⟩
theorem SrcG.below (h : SrcG V w W g cv m) (hb : Below W.heap.size W W') : SrcG V w W' g cv m := ⟨h.src.below hb, gr_below h.gr hb, h.lv⟩
theorem SrcG.set {p i : Nat} {u : Value} (h : SrcG V w W g cv m) (hp : V.heap.size ≤ p) (hne : g ≠ p) : SrcG V w (W.setCell ⟨p, i, none⟩ u) g cv m :=
  ⟨h.src.set (Nat.le_trans h.lv hp) hne, gr_setN h.gr hp i u, h.lv⟩
end
set_option maxHeartbeats 8000000 in
theorem one_any {w : World} {cv : Value} {zs : List Int} (hc : IntsOf .u8 w cv zs) (hb : ∀ z ∈ zs, 0 ≤ z ∧ z ≤ 255) (hl : zs.length ≤ 1048576) {g m : Nat} {W : World} (h : Src w W g cv m) (hm : m ≤ 1047000) :
    Calls Try.prog 50 #[.pointer (some ⟨g, 0, none⟩)] W fun e W' => ∃ b : Bk, e = .returned (.agg #[.int .i16 b.c, .int .u8 b.m0, .int .u8 b.m1, .int .u8 b.m2, .int .i16 b.v, .int .i16 b.wi, .int .i16 b.hi, .int .i16 b.we]) ∧ bookB b = true ∧ Src w W' g cv (m + 14) ∧ W.grownBy W' (some g) := by
  have H := Lib.hid (⟨h, World.grownBy.refl W _, h.bl.size⟩ : SrcG W w W g cv m)
  have PK := Lib.hid (fun (m : Nat) (V : World) (h : SrcG W w V g cv m) (hm : m ≤ 1048000) (n : Int) (hn1 : 2 ≤ n) (hn2 : n ≤ 1048576) => (pick_any hc hb hl h.src hm n hn1 hn2).mono (show ∀ e W', _ → ∃ z, e = .returned (.int .i64 z) ∧ (0 ≤ z ∧ z < n) ∧ SrcG W w W' g cv (m + 2) ∧ V.grownBy W' (some g) from fun e W' ⟨z, e1, e2, e3, e4⟩ => ⟨z, e1, e2, ⟨e3, gr_trans h.gr e4, h.lv⟩, e4⟩))
  have hg := h.lt
  have hlo := h.lo
  clear h hc hb
  have ba := (Below.refl W.heap.size W).alloc (Nat.le_refl _) (.cells #[.int .i16 0, .int .u8 0, .int .u8 0, .int .u8 0, .int .i16 0, .int .i16 0, .int .i16 0, .int .i16 0] 42)
  have S0 := Lib.hid (H.out.below ba)
  have R0 := Lib.hid (show K8 (W.alloc (.cells #[.int .i16 0, .int .u8 0, .int .u8 0, .int .u8 0, .int .i16 0, .int .i16 0, .int .i16 0, .int .i16 0] 42)) W.heap.size 0 0 0 0 0 0 0 0 from heap_alloc_new W _)
  clear ba
  go_enter Try.func50, Try.ntmps50
  go_upto_region 1 with (fail)
  generalize World.alloc W _ = W0 at S0 R0 ⊢
  obtain ⟨p, hp⟩ : ∃ p, W.heap.size = p := ⟨_, rfl⟩
  rw [hp] at R0 ⊢
  have hgp : g < p := by omega
  go_wp2_with fail
  refine (PK.out _ _ S0.out (by omega) 8 (by omega) (by omega)).mono ?_
  rintro e W1 ⟨x1, rfl, ⟨xa, xb⟩, s1, g1⟩
  have R1 := Lib.hid (R0.out.kept g1 (by omega))
  have S1 := Lib.hid s1
  clear s1 g1
  go_wp2_with fail
  refine (PK.out _ _ S1.out (by omega) 3 (by omega) (by omega)).mono ?_
  rintro e W2 ⟨x2, rfl, ⟨xc, xd⟩, s2, g2⟩
  have ba := (Below.refl W2.heap.size W2).alloc (Nat.le_refl _) (.cells #[.int .i16 (x1 * 100), .int .u8 0, .int .u8 0, .int .u8 0, .int .i16 (1 + x2), .int .i16 0, .int .i16 0, .int .i16 0] 42)
  have R3 := Lib.hid ((R1.out.kept g2 (by omega)).below ba)
  have S3 := Lib.hid (s2.below ba)
  have Q3 := Lib.hid (show K8 (W2.alloc (.cells #[.int .i16 (x1 * 100), .int .u8 0, .int .u8 0, .int .u8 0, .int .i16 (1 + x2), .int .i16 0, .int .i16 0, .int .i16 0] 42)) W2.heap.size (x1 * 100) 0 0 0 (1 + x2) 0 0 0 from heap_alloc_new W2 _)
  have zq : p < W2.heap.size := (R1.out.kept g2 (by omega)).lt
  clear s2 g2 ba
  go_upto_region 2 with (fail)
  generalize World.alloc W2 _ = W3 at S3 R3 Q3 ⊢
  obtain ⟨q, hq⟩ : ∃ q, W2.heap.size = q := ⟨_, rfl⟩
  rw [hq] at Q3 zq ⊢
  have fz := Q3.out.fz
  have q1 := Q3.out.c1
  have q2 := Q3.out.c2
  have q3 := Q3.out.c3
  go_wp2
  refine wp_loop_rounds 4 ?_
  rw [rounds_succ]; go_wp2
  rw [rounds_succ]; go_wp2
  rw [rounds_succ]; go_wp2
  rw [rounds_succ]
  clear q1 q2 q3 fz
  have W4e := Lib.hid (Eq.refl (((W3.setCell ⟨q, 1, none⟩ (.int .u8 97)).setCell ⟨q, 2, none⟩ (.int .u8 97)).setCell ⟨q, 3, none⟩ (.int .u8 97)))
  have S4 := Lib.hid (((S3.out.set (i := 1) (u := .int .u8 97) (show W.heap.size ≤ q by omega) (show g ≠ q by omega)).set (i := 2) (u := .int .u8 97) (show W.heap.size ≤ q by omega) (show g ≠ q by omega)).set (i := 3) (u := .int .u8 97) (show W.heap.size ≤ q by omega) (show g ≠ q by omega))
  have Q4 := Lib.hid (((Q3.out.s1 97).s2 97).s3 97)
  have R4 := Lib.hid (((R3.out.far (q := q) (i := 1) (u := .int .u8 97) (by omega)).far (q := q) (i := 2) (u := .int .u8 97) (by omega)).far (q := q) (i := 3) (u := .int .u8 97) (by omega))
  clear W4e
  go_wp2_with fail
  generalize ((W3.setCell ⟨q, 1, none⟩ (.int .u8 97)).setCell ⟨q, 2, none⟩ (.int .u8 97)).setCell ⟨q, 3, none⟩ (.int .u8 97) = W4 at S4 Q4 R4 ⊢
  refine (PK.out _ _ S4.out (by omega) 3 (by omega) (by omega)).mono ?_
  rintro e W5 ⟨y1, rfl, ⟨ya, yb⟩, s5, g5⟩
  have S5 := Lib.hid s5
  have Q5 := Lib.hid (Q4.out.kept g5 (by omega))
  have R5 := Lib.hid (R4.out.kept g5 (by omega))
  clear s5 g5
  go_wp2_with fail
  refine (PK.out _ _ S5.out (by omega) 3 (by omega) (by omega)).mono ?_
  rintro e W6 ⟨y2, rfl, ⟨yc, yd⟩, s6, g6⟩
  have S6 := Lib.hid s6
  have Q6 := Lib.hid (Q5.out.kept g6 (by omega))
  have R6 := Lib.hid (R5.out.kept g6 (by omega))
  have fz := Q6.out.fz
  have q1 := Q6.out.c1
  have q2 := Q6.out.c2
  have q3 := Q6.out.c3
  clear s6 g6
  obtain rfl | rfl | rfl : y1 = 0 ∨ y1 = 1 ∨ y1 = 2 := by omega
  · have S7 := Lib.hid (S6.out.set (i := 1) (u := .int .u8 (97 + y2)) (show W.heap.size ≤ q by omega) (show g ≠ q by omega))
    have Q7 := Lib.hid (Q6.out.s1 (97 + y2))
    have R7 := Lib.hid (R6.out.far (q := q) (i := 1) (u := .int .u8 (97 + y2)) (by omega))
    go_wp2_with fail
    generalize World.setCell W6 _ _ = W7 at S7 Q7 R7 ⊢
    clear fz q1 q2 q3
    refine (PK.out _ _ S7.out (by omega) 9 (by omega) (by omega)).mono ?_
    rintro e W8 ⟨za, rfl, ⟨za1, za2⟩, s8, g8⟩
    have S8 := Lib.hid s8
    have Q8 := Lib.hid (Q7.out.kept g8 (by omega))
    have R8 := Lib.hid (R7.out.kept g8 (by omega))
    have fz := Q8.out.fz
    have qf := Q8.out.c5
    clear s8 g8
    have S9 := Lib.hid (S8.out.set (i := 5) (u := .int .i16 (10 + 5 * za)) (show W.heap.size ≤ q by omega) (show g ≠ q by omega))
    have Q9 := Lib.hid (Q8.out.s5 (10 + 5 * za))
    have R9 := Lib.hid (R8.out.far (q := q) (i := 5) (u := .int .i16 (10 + 5 * za)) (by omega))
    go_wp2_with fail
    generalize World.setCell W8 _ _ = W9 at S9 Q9 R9 ⊢
    clear fz qf
    refine (PK.out _ _ S9.out (by omega) 12 (by omega) (by omega)).mono ?_
    rintro e Wa ⟨zb, rfl, ⟨zb1, zb2⟩, sa, ga⟩
    have Sa := Lib.hid sa
    have Qa := Lib.hid (Q9.out.kept ga (by omega))
    have Ra := Lib.hid (R9.out.kept ga (by omega))
    have fz := Qa.out.fz
    have qf := Qa.out.c6
    clear sa ga
    have Sb := Lib.hid (Sa.out.set (i := 6) (u := .int .i16 (180 + 10 * zb)) (show W.heap.size ≤ q by omega) (show g ≠ q by omega))
    have Qb := Lib.hid (Qa.out.s6 (180 + 10 * zb))
    have Rb := Lib.hid (Ra.out.far (q := q) (i := 6) (u := .int .i16 (180 + 10 * zb)) (by omega))
    go_wp2_with fail
    generalize World.setCell Wa _ _ = Wb at Sb Qb Rb ⊢
    clear fz qf
    refine (PK.out _ _ Sb.out (by omega) 20 (by omega) (by omega)).mono ?_
    rintro e Wc ⟨zc, rfl, ⟨zc1, zc2⟩, sc, gc⟩
    have Sc := Lib.hid sc
    have Qc := Lib.hid (Qb.out.kept gc (by omega))
    have Rc := Lib.hid (Rb.out.kept gc (by omega))
    have fz := Qc.out.fz
    have qf := Qc.out.c7
    clear sc gc
    have Sd := Lib.hid (Sc.out.set (i := 7) (u := .int .i16 (100 * (1 + zc))) (show W.heap.size ≤ q by omega) (show g ≠ q by omega))
    have Qd := Lib.hid (Qc.out.s7 (100 * (1 + zc)))
    have Rd := Lib.hid (Rc.out.far (q := q) (i := 7) (u := .int .i16 (100 * (1 + zc))) (by omega))
    go_upto_region 10 with (fail)
    generalize World.setCell Wc _ _ = We at Sd Qd Rd ⊢
    clear fz qf
    have c0 := Qd.out.c0
    have c1 := Qd.out.c1
    have c2 := Qd.out.c2
    have c3 := Qd.out.c3
    have c4 := Qd.out.c4
    have c5 := Qd.out.c5
    have c6 := Qd.out.c6
    have c7 := Qd.out.c7
    have r0 := Rd.out.c0
    have r1 := Rd.out.c1
    have r2 := Rd.out.c2
    have r3 := Rd.out.c3
    have r4 := Rd.out.c4
    have r5 := Rd.out.c5
    have r6 := Rd.out.c6
    have r7 := Rd.out.c7
    have fz := Rd.out.fz
    have KF := Lib.hid ((((((((Rd.out.s0 (x1 * 100)).s1 (97 + y2)).s2 97).s3 97).s4 (1 + x2)).s5 (10 + 5 * za)).s6 (180 + 10 * zb)).s7 (100 * (1 + zc)))
    have SF := Lib.hid ((((((((Sd.out.set (i := 0) (u := .int .i16 (x1 * 100)) (show W.heap.size ≤ p by omega) (show g ≠ p by omega)).set (i := 1) (u := .int .u8 (97 + y2)) (show W.heap.size ≤ p by omega) (show g ≠ p by omega)).set (i := 2) (u := .int .u8 97) (show W.heap.size ≤ p by omega) (show g ≠ p by omega)).set (i := 3) (u := .int .u8 97) (show W.heap.size ≤ p by omega) (show g ≠ p by omega)).set (i := 4) (u := .int .i16 (1 + x2)) (show W.heap.size ≤ p by omega) (show g ≠ p by omega)).set (i := 5) (u := .int .i16 (10 + 5 * za)) (show W.heap.size ≤ p by omega) (show g ≠ p by omega)).set (i := 6) (u := .int .i16 (180 + 10 * zb)) (show W.heap.size ≤ p by omega) (show g ≠ p by omega)).set (i := 7) (u := .int .i16 (100 * (1 + zc))) (show W.heap.size ≤ p by omega) (show g ≠ p by omega))
    go_wp2
    have q0 := KF.out.c0
    have q1 := KF.out.c1
    have q2 := KF.out.c2
    have q3 := KF.out.c3
    have q4 := KF.out.c4
    have q5 := KF.out.c5
    have q6 := KF.out.c6
    have q7 := KF.out.c7
    exact bodyPost_ret (v := .agg #[.int .i16 (x1 * 100), .int .u8 (97 + y2), .int .u8 97, .int .u8 97, .int .i16 (1 + x2), .int .i16 (10 + 5 * za), .int .i16 (180 + 10 * zb), .int .i16 (100 * (1 + zc))]) (by simp [results, Try.results50, go_sem, q0, q1, q2, q3, q4, q5, q6, q7]) rfl ⟨⟨(x1 * 100), (97 + y2), 97, 97, (1 + x2), (10 + 5 * za), (180 + 10 * zb), (100 * (1 + zc))⟩, rfl, by simp only [bookB, markB, inB, Bool.and_eq_true, decide_eq_true_eq]; omega, SF.out.src.more (by omega), SF.out.gr⟩
  · have S7 := Lib.hid (S6.out.set (i := 2) (u := .int .u8 (97 + y2)) (show W.heap.size ≤ q by omega) (show g ≠ q by omega))
    have Q7 := Lib.hid (Q6.out.s2 (97 + y2))
    have R7 := Lib.hid (R6.out.far (q := q) (i := 2) (u := .int .u8 (97 + y2)) (by omega))
    go_wp2_with fail
    generalize World.setCell W6 _ _ = W7 at S7 Q7 R7 ⊢
    clear fz q1 q2 q3
    refine (PK.out _ _ S7.out (by omega) 9 (by omega) (by omega)).mono ?_
    rintro e W8 ⟨za, rfl, ⟨za1, za2⟩, s8, g8⟩
    have S8 := Lib.hid s8
    have Q8 := Lib.hid (Q7.out.kept g8 (by omega))
    have R8 := Lib.hid (R7.out.kept g8 (by omega))
    have fz := Q8.out.fz
    have qf := Q8.out.c5
    clear s8 g8
    have S9 := Lib.hid (S8.out.set (i := 5) (u := .int .i16 (10 + 5 * za)) (show W.heap.size ≤ q by omega) (show g ≠ q by omega))
    have Q9 := Lib.hid (Q8.out.s5 (10 + 5 * za))
    have R9 := Lib.hid (R8.out.far (q := q) (i := 5) (u := .int .i16 (10 + 5 * za)) (by omega))
    go_wp2_with fail
    generalize World.setCell W8 _ _ = W9 at S9 Q9 R9 ⊢
    clear fz qf
    refine (PK.out _ _ S9.out (by omega) 12 (by omega) (by omega)).mono ?_
    rintro e Wa ⟨zb, rfl, ⟨zb1, zb2⟩, sa, ga⟩
    have Sa := Lib.hid sa
    have Qa := Lib.hid (Q9.out.kept ga (by omega))
    have Ra := Lib.hid (R9.out.kept ga (by omega))
    have fz := Qa.out.fz
    have qf := Qa.out.c6
    clear sa ga
    have Sb := Lib.hid (Sa.out.set (i := 6) (u := .int .i16 (180 + 10 * zb)) (show W.heap.size ≤ q by omega) (show g ≠ q by omega))
    have Qb := Lib.hid (Qa.out.s6 (180 + 10 * zb))
    have Rb := Lib.hid (Ra.out.far (q := q) (i := 6) (u := .int .i16 (180 + 10 * zb)) (by omega))
    go_wp2_with fail
    generalize World.setCell Wa _ _ = Wb at Sb Qb Rb ⊢
    clear fz qf
    refine (PK.out _ _ Sb.out (by omega) 20 (by omega) (by omega)).mono ?_
    rintro e Wc ⟨zc, rfl, ⟨zc1, zc2⟩, sc, gc⟩
    have Sc := Lib.hid sc
    have Qc := Lib.hid (Qb.out.kept gc (by omega))
    have Rc := Lib.hid (Rb.out.kept gc (by omega))
    have fz := Qc.out.fz
    have qf := Qc.out.c7
    clear sc gc
    have Sd := Lib.hid (Sc.out.set (i := 7) (u := .int .i16 (100 * (1 + zc))) (show W.heap.size ≤ q by omega) (show g ≠ q by omega))
    have Qd := Lib.hid (Qc.out.s7 (100 * (1 + zc)))
    have Rd := Lib.hid (Rc.out.far (q := q) (i := 7) (u := .int .i16 (100 * (1 + zc))) (by omega))
    go_upto_region 10 with (fail)
    generalize World.setCell Wc _ _ = We at Sd Qd Rd ⊢
    clear fz qf
    have c0 := Qd.out.c0
    have c1 := Qd.out.c1
    have c2 := Qd.out.c2
    have c3 := Qd.out.c3
    have c4 := Qd.out.c4
    have c5 := Qd.out.c5
    have c6 := Qd.out.c6
    have c7 := Qd.out.c7
    have r0 := Rd.out.c0
    have r1 := Rd.out.c1
    have r2 := Rd.out.c2
    have r3 := Rd.out.c3
    have r4 := Rd.out.c4
    have r5 := Rd.out.c5
    have r6 := Rd.out.c6
    have r7 := Rd.out.c7
    have fz := Rd.out.fz
    have KF := Lib.hid ((((((((Rd.out.s0 (x1 * 100)).s1 97).s2 (97 + y2)).s3 97).s4 (1 + x2)).s5 (10 + 5 * za)).s6 (180 + 10 * zb)).s7 (100 * (1 + zc)))
    have SF := Lib.hid ((((((((Sd.out.set (i := 0) (u := .int .i16 (x1 * 100)) (show W.heap.size ≤ p by omega) (show g ≠ p by omega)).set (i := 1) (u := .int .u8 97) (show W.heap.size ≤ p by omega) (show g ≠ p by omega)).set (i := 2) (u := .int .u8 (97 + y2)) (show W.heap.size ≤ p by omega) (show g ≠ p by omega)).set (i := 3) (u := .int .u8 97) (show W.heap.size ≤ p by omega) (show g ≠ p by omega)).set (i := 4) (u := .int .i16 (1 + x2)) (show W.heap.size ≤ p by omega) (show g ≠ p by omega)).set (i := 5) (u := .int .i16 (10 + 5 * za)) (show W.heap.size ≤ p by omega) (show g ≠ p by omega)).set (i := 6) (u := .int .i16 (180 + 10 * zb)) (show W.heap.size ≤ p by omega) (show g ≠ p by omega)).set (i := 7) (u := .int .i16 (100 * (1 + zc))) (show W.heap.size ≤ p by omega) (show g ≠ p by omega))
    go_wp2
    have q0 := KF.out.c0
    have q1 := KF.out.c1
    have q2 := KF.out.c2
    have q3 := KF.out.c3
    have q4 := KF.out.c4
    have q5 := KF.out.c5
    have q6 := KF.out.c6
    have q7 := KF.out.c7
    exact bodyPost_ret (v := .agg #[.int .i16 (x1 * 100), .int .u8 97, .int .u8 (97 + y2), .int .u8 97, .int .i16 (1 + x2), .int .i16 (10 + 5 * za), .int .i16 (180 + 10 * zb), .int .i16 (100 * (1 + zc))]) (by simp [results, Try.results50, go_sem, q0, q1, q2, q3, q4, q5, q6, q7]) rfl ⟨⟨(x1 * 100), 97, (97 + y2), 97, (1 + x2), (10 + 5 * za), (180 + 10 * zb), (100 * (1 + zc))⟩, rfl, by simp only [bookB, markB, inB, Bool.and_eq_true, decide_eq_true_eq]; omega, SF.out.src.more (by omega), SF.out.gr⟩
  · have S7 := Lib.hid (S6.out.set (i := 3) (u := .int .u8 (97 + y2)) (show W.heap.size ≤ q by omega) (show g ≠ q by omega))
    have Q7 := Lib.hid (Q6.out.s3 (97 + y2))
    have R7 := Lib.hid (R6.out.far (q := q) (i := 3) (u := .int .u8 (97 + y2)) (by omega))
    go_wp2_with fail
    generalize World.setCell W6 _ _ = W7 at S7 Q7 R7 ⊢
    clear fz q1 q2 q3
    refine (PK.out _ _ S7.out (by omega) 9 (by omega) (by omega)).mono ?_
    rintro e W8 ⟨za, rfl, ⟨za1, za2⟩, s8, g8⟩
    have S8 := Lib.hid s8
    have Q8 := Lib.hid (Q7.out.kept g8 (by omega))
    have R8 := Lib.hid (R7.out.kept g8 (by omega))
    have fz := Q8.out.fz
    have qf := Q8.out.c5
    clear s8 g8
    have S9 := Lib.hid (S8.out.set (i := 5) (u := .int .i16 (10 + 5 * za)) (show W.heap.size ≤ q by omega) (show g ≠ q by omega))
    have Q9 := Lib.hid (Q8.out.s5 (10 + 5 * za))
    have R9 := Lib.hid (R8.out.far (q := q) (i := 5) (u := .int .i16 (10 + 5 * za)) (by omega))
    go_wp2_with fail
    generalize World.setCell W8 _ _ = W9 at S9 Q9 R9 ⊢
    clear fz qf
    refine (PK.out _ _ S9.out (by omega) 12 (by omega) (by omega)).mono ?_
    rintro e Wa ⟨zb, rfl, ⟨zb1, zb2⟩, sa, ga⟩
    have Sa := Lib.hid sa
    have Qa := Lib.hid (Q9.out.kept ga (by omega))
    have Ra := Lib.hid (R9.out.kept ga (by omega))
    have fz := Qa.out.fz
    have qf := Qa.out.c6
    clear sa ga
    have Sb := Lib.hid (Sa.out.set (i := 6) (u := .int .i16 (180 + 10 * zb)) (show W.heap.size ≤ q by omega) (show g ≠ q by omega))
    have Qb := Lib.hid (Qa.out.s6 (180 + 10 * zb))
    have Rb := Lib.hid (Ra.out.far (q := q) (i := 6) (u := .int .i16 (180 + 10 * zb)) (by omega))
    go_wp2_with fail
    generalize World.setCell Wa _ _ = Wb at Sb Qb Rb ⊢
    clear fz qf
    refine (PK.out _ _ Sb.out (by omega) 20 (by omega) (by omega)).mono ?_
    rintro e Wc ⟨zc, rfl, ⟨zc1, zc2⟩, sc, gc⟩
    have Sc := Lib.hid sc
    have Qc := Lib.hid (Qb.out.kept gc (by omega))
    have Rc := Lib.hid (Rb.out.kept gc (by omega))
    have fz := Qc.out.fz
    have qf := Qc.out.c7
    clear sc gc
    have Sd := Lib.hid (Sc.out.set (i := 7) (u := .int .i16 (100 * (1 + zc))) (show W.heap.size ≤ q by omega) (show g ≠ q by omega))
    have Qd := Lib.hid (Qc.out.s7 (100 * (1 + zc)))
    have Rd := Lib.hid (Rc.out.far (q := q) (i := 7) (u := .int .i16 (100 * (1 + zc))) (by omega))
    go_upto_region 10 with (fail)
    generalize World.setCell Wc _ _ = We at Sd Qd Rd ⊢
    clear fz qf
    have c0 := Qd.out.c0
    have c1 := Qd.out.c1
    have c2 := Qd.out.c2
    have c3 := Qd.out.c3
    have c4 := Qd.out.c4
    have c5 := Qd.out.c5
    have c6 := Qd.out.c6
    have c7 := Qd.out.c7
    have r0 := Rd.out.c0
    have r1 := Rd.out.c1
    have r2 := Rd.out.c2
    have r3 := Rd.out.c3
    have r4 := Rd.out.c4
    have r5 := Rd.out.c5
    have r6 := Rd.out.c6
    have r7 := Rd.out.c7
    have fz := Rd.out.fz
    have KF := Lib.hid ((((((((Rd.out.s0 (x1 * 100)).s1 97).s2 97).s3 (97 + y2)).s4 (1 + x2)).s5 (10 + 5 * za)).s6 (180 + 10 * zb)).s7 (100 * (1 + zc)))
    have SF := Lib.hid ((((((((Sd.out.set (i := 0) (u := .int .i16 (x1 * 100)) (show W.heap.size ≤ p by omega) (show g ≠ p by omega)).set (i := 1) (u := .int .u8 97) (show W.heap.size ≤ p by omega) (show g ≠ p by omega)).set (i := 2) (u := .int .u8 97) (show W.heap.size ≤ p by omega) (show g ≠ p by omega)).set (i := 3) (u := .int .u8 (97 + y2)) (show W.heap.size ≤ p by omega) (show g ≠ p by omega)).set (i := 4) (u := .int .i16 (1 + x2)) (show W.heap.size ≤ p by omega) (show g ≠ p by omega)).set (i := 5) (u := .int .i16 (10 + 5 * za)) (show W.heap.size ≤ p by omega) (show g ≠ p by omega)).set (i := 6) (u := .int .i16 (180 + 10 * zb)) (show W.heap.size ≤ p by omega) (show g ≠ p by omega)).set (i := 7) (u := .int .i16 (100 * (1 + zc))) (show W.heap.size ≤ p by omega) (show g ≠ p by omega))
    go_wp2
    have q0 := KF.out.c0
    have q1 := KF.out.c1
    have q2 := KF.out.c2
    have q3 := KF.out.c3
    have q4 := KF.out.c4
    have q5 := KF.out.c5
    have q6 := KF.out.c6
    have q7 := KF.out.c7
    exact bodyPost_ret (v := .agg #[.int .i16 (x1 * 100), .int .u8 97, .int .u8 97, .int .u8 (97 + y2), .int .i16 (1 + x2), .int .i16 (10 + 5 * za), .int .i16 (180 + 10 * zb), .int .i16 (100 * (1 + zc))]) (by simp [results, Try.results50, go_sem, q0, q1, q2, q3, q4, q5, q6, q7]) rfl ⟨⟨(x1 * 100), 97, 97, (97 + y2), (1 + x2), (10 + 5 * za), (180 + 10 * zb), (100 * (1 + zc))⟩, rfl, by simp only [bookB, markB, inB, Bool.and_eq_true, decide_eq_true_eq]; omega, SF.out.src.more (by omega), SF.out.gr⟩
end

section
open Go.RowKit

theorem K8.keptB {W W' : World} {p B : Nat} {c m0 m1 m2 v wi hi we : Int} (h : K8 W p c m0 m1 m2 v wi hi we) (hb : Below B W W') (hp : p < B) : K8 W' p c m0 m1 m2 v wi hi we := (hb.block p hp).trans h
set_option maxHeartbeats 2000000 in
theorem p6Pick_any {w : World} {cv : Value} {zs : List Int} (hc : IntsOf .u8 w cv zs) (hb : ∀ z ∈ zs, 0 ≤ z ∧ z ≤ 255) (hl : zs.length ≤ 1048576) (n : Int) (hn1 : 2 ≤ n) (hn2 : n ≤ 1048576) :
    Calls Try.prog 6 #[cv, .int .i64 n] w fun e w' => ∃ z, e = .returned (.int .i64 z) ∧ (0 ≤ z ∧ z < n) ∧ Below w.heap.size w w' := by
  have HC := Lib.hid hc
  obtain ⟨A, c, rfl, -⟩ := hc
  go_enter Try.func6, Try.ntmps6
  go_wp2_with fail
  refine (from_any _ rfl w).mono ?_
  rintro e W1 ⟨g, rfl, s1⟩
  have S1 := Lib.hid s1
  clear s1
  go_wp2_with fail
  refine (pick_any HC.out hb hl S1.out (by omega) n hn1 hn2).mono ?_
  rintro e W2 ⟨z, rfl, ⟨za, zb⟩, s2, -⟩
  have B2 := Lib.hid s2.bl
  clear s2
  go_wp2
  go_ret
  exact ⟨z, rfl, ⟨za, zb⟩, B2.out⟩
end

section
open Go.RowKit

section
variable {w : World} {cv : Value} {zs : List Int}
set_option maxHeartbeats 2000000 in
theorem sone_any (hc : IntsOf .u8 w cv zs) (hb : ∀ z ∈ zs, 0 ≤ z ∧ z ≤ 255) (hl : zs.length ≤ 1048576) {g m : Nat} {W : World} (h : Src w W g cv m) (hm : m ≤ 1048000) (n : Int) (hn1 : 2 ≤ n) (hn2 : n ≤ 1048576) :
    Calls Try.prog 51 #[.pointer (some ⟨g, 0, none⟩), .int .i64 n] W fun e W' => ∃ b : Bool, e = .returned (.bool b) ∧ Src w W' g cv (m + 2) ∧ W.grownBy W' (some g) := by
  have H := Lib.hid h
  have PK := Lib.hid (pick_any hc hb hl h hm n hn1 hn2)
  clear h hc hb
  go_enter Try.func51, Try.ntmps51
  go_wp2_with fail
  refine PK.out.mono ?_
  rintro e W1 ⟨z, rfl, ⟨z1, z2⟩, s1, g1⟩
  have S1 := Lib.hid s1
  have G1 := Lib.hid g1
  clear s1 g1
  obtain ⟨b, hb⟩ : ∃ b, decide (z = 0) = b := ⟨_, rfl⟩
  have HB := Lib.hid hb
  clear hb
  go_wp2
  go_ret
  exact ⟨_, rfl, S1.out, G1.out⟩
theorem infoIntD : (Try.prog.info? 2).map (fun i => (i.zero, i.size, i.bytes)) = some (some (.int .i64 0), 1, 8) := by kernel_rfl
theorem own_form {w : World} {base : Nat} {e : TypeId} {size n : Nat} {v : Value} {xs : List Value} (h : w.ownsRow base e size v n xs) (hne : v ≠ .slice none 0 0) : ∃ g N, v = .slice (some ⟨g, 0, none⟩) n N := by
  rcases h.2 with ⟨h, _⟩ | ⟨g, cap, cur, h, _⟩
  · exact absurd h hne
  · exact ⟨g, cap, h⟩
theorem bookB_Wf {b : Bk} (h : bookB b = true) : b.Wf := by
  unfold bookB markB inB at h
  simp only [Bool.and_eq_true, decide_eq_true_eq] at h
  constructor <;> omega
theorem SrcG.set8 {V w W : World} {g m p o : Nat} {cv : Value} {b : Bk} (h : SrcG V w W g cv m) (hp : V.heap.size ≤ p) (hne : g ≠ p) : SrcG V w (set8 W p o b) g cv m :=
  (((((((h.set hp hne).set hp hne).set hp hne).set hp hne).set hp hne).set hp hne).set hp hne).set hp hne
theorem SrcG.grown {V w W W' : World} {g m : Nat} {cv : Value} {row : Option Nat} (h : SrcG V w W g cv m) (hg : W.grownBy W' row) (hne : some g ≠ row) (hr : ∀ k, row = some k → V.heap.size ≤ k) : SrcG V w W' g cv m :=
  ⟨h.src.kept hg hne (fun k hk => Nat.le_trans h.lv (hr k hk)), ⟨hg.os.trans h.gr.os, hg.tape.trans h.gr.tape, hg.output.trans h.gr.output, Nat.le_trans h.gr.size hg.size, fun i hi hne2 => (hg.block i (Nat.lt_of_lt_of_le hi h.gr.size) (fun e => by have := hr i e.symm; omega)).trans (h.gr.block i hi hne2)⟩, h.lv⟩
theorem SrcG.more {V w W : World} {g m n : Nat} {cv : Value} (h : SrcG V w W g cv m) (hn : m ≤ n) : SrcG V w W g cv n := ⟨h.src.more hn, h.gr, h.lv⟩
theorem set8_blockS (w : World) (g o k : Nat) (b : Bk) (h : k ≠ g) : (set8 w g o b).heap[k]? = w.heap[k]? := by
  have e : ∀ (w : World) (o : Nat) (v : Value), (w.setCell ⟨g, o, none⟩ v).heap[k]? = w.heap[k]? := fun w o v => Below.heap_setCell w ⟨g, o, none⟩ v k (by simpa using h)
  unfold set8
  rw [e, e, e, e, e, e, e, e]
def swL (ys : List Bk) (i j : Nat) (a b : Bk) : List Bk := (ys.set i b).set j a
theorem swL_len (ys : List Bk) (i j : Nat) (a b : Bk) : (swL ys i j a b).length = ys.length := by unfold swL; simp
theorem swL_ok {ys : List Bk} {i j : Nat} {a b : Bk} (h : ∀ x ∈ ys, bookB x = true) (ha : bookB a = true) (hb : bookB b = true) : ∀ x ∈ swL ys i j a b, bookB x = true := by
  intro x hx
  unfold swL at hx
  rcases List.mem_or_eq_of_mem_set hx with hx | rfl
  · rcases List.mem_or_eq_of_mem_set hx with hx | rfl
    · exact h x hx
    · exact hb
  · exact ha
set_option maxHeartbeats 8000000 in
theorem l01Drawn_any (hc : IntsOf .u8 w cv zs) (hb : ∀ z ∈ zs, 0 ≤ z ∧ z ≤ 255) (hl : zs.length ≤ 1048576) {g m : Nat} {W : World} (h : Src w W g cv m) (hm : m ≤ 100000) :
    Calls Try.prog 28 #[.pointer (some ⟨g, 0, none⟩)] W fun e W' => ∃ (u : Value) (xs : List Bk), e = .returned u ∧ ResB W' W.heap.size u xs ∧ xs.length ≤ 11 ∧ (∀ b ∈ xs, bookB b = true) ∧ Src w W' g cv (m + 300) ∧ W.grownBy W' (some g) := by
  have H := Lib.hid h
  have PK := Lib.hid (fun (m : Nat) (V : World) (h : SrcG W w V g cv m) (hm : m ≤ 1048000) (n : Int) (hn1 : 2 ≤ n) (hn2 : n ≤ 1048576) => (pick_any hc hb hl h.src hm n hn1 hn2).mono (show ∀ e W', _ → ∃ z, e = .returned (.int .i64 z) ∧ (0 ≤ z ∧ z < n) ∧ SrcG W w W' g cv (m + 2) ∧ V.grownBy W' (some g) from fun e W' ⟨z, e1, e2, e3, e4⟩ => ⟨z, e1, e2, ⟨e3, gr_trans h.gr e4, h.lv⟩, e4⟩))
  have ON := Lib.hid (fun (m : Nat) (V : World) (h : SrcG W w V g cv m) (hm : m ≤ 1048000) => (sone_any hc hb hl h.src hm 2 (by omega) (by omega)).mono (show ∀ e W', _ → ∃ z : Bool, e = .returned (.bool z) ∧ SrcG W w W' g cv (m + 2) ∧ V.grownBy W' (some g) from fun e W' ⟨z, e1, e3, e4⟩ => ⟨z, e1, ⟨e3, gr_trans h.gr e4, h.lv⟩, e4⟩))
  have BO := Lib.hid (fun (m : Nat) (V : World) (h : SrcG W w V g cv m) (hm : m ≤ 1047000) => (one_any hc hb hl h.src hm).mono (show ∀ e W', _ → ∃ b : Bk, e = .returned (.agg #[.int .i16 b.c, .int .u8 b.m0, .int .u8 b.m1, .int .u8 b.m2, .int .i16 b.v, .int .i16 b.wi, .int .i16 b.hi, .int .i16 b.we]) ∧ bookB b = true ∧ SrcG W w W' g cv (m + 14) ∧ V.grownBy W' (some g) from fun e W' ⟨b, e1, e2, e3, e4⟩ => ⟨b, e1, e2, ⟨e3, gr_trans h.gr e4, h.lv⟩, e4⟩))
  have hg := h.lt
  have hlo := h.lo
  obtain ⟨i0, hi0, hz0, hz1, hz2⟩ := info_parts infoBook
  have SA := Lib.hid (show SrcG W w (W.alloc (.cells #[] 42)) g cv m from SrcG.below ⟨h, World.grownBy.refl W _, h.bl.size⟩ ((Below.refl _ _).alloc (Nat.le_refl _) _))
  have OA := Lib.hid (show (W.alloc (.cells #[] 42)).ownsRow W.heap.size 42 8 (.slice (some ⟨W.heap.size, 0, none⟩) 0 0) ([] : List Bk).length (flB []) from ⟨rfl, .inr ⟨W.heap.size, 0, #[], rfl, Nat.le_refl _, heap_alloc_new W _, Nat.le_refl _, Nat.zero_le _, rfl, rfl⟩⟩)
  clear h hc hb
  go_enter Try.func28, Try.ntmps28
  go_upto_region 2 with (fail)
  generalize World.alloc W _ = W0 at SA OA ⊢
  go_wp2_with fail
  refine (PK.out _ _ SA.out (by omega) 12 (by omega) (by omega)).mono ?_
  rintro e W1 ⟨k0, rfl, ⟨k1, k2⟩, s1, g1⟩
  have S1 := Lib.hid s1
  have O1 := Lib.hid (ownsOther OA.out g1 (by intro k hk e; have := (OA.out.lt k hk).1; injection e with e; omega))
  clear s1 g1
  go_wp2_with fail
  go_loopw [3, 4] (fun v_ k_ wr => ∃ (v : Value) (k j : Nat) (L : List Bk), v = v_ ∧ k_ = .int .i64 (k : Int) ∧ k + j ≤ 11 ∧ L.length = j ∧ (∀ b ∈ L, bookB b = true) ∧ wr.ownsRow W.heap.size 42 8 v L.length (flB L) ∧ SrcG W w wr g cv (m + 4 + 14 * j)) (fun _ k_ _ => (intOf k_).toNat)
  case atStart => exact ⟨_, k0.toNat, 0, [], rfl, by rw [Int.toNat_of_nonneg k1], by omega, rfl, (fun _ h => by cases h), O1.out, ⟨S1.out.src.more (by omega), S1.out.gr, S1.out.lv⟩⟩
  case round =>
    obtain ⟨v, k, j, L, rfl, rfl, hkj, hL, hok, hown, hs⟩ := hrel
    clear SA OA S1 O1
    have HL := Lib.hid hL
    have HO := Lib.hid hok
    have OW := Lib.hid hown
    have SR := Lib.hid hs
    clear hL hok hown hs
    have hsz := SR.out.gr.size
    by_cases hk : 0 < k
    · obtain ⟨A2, c2, rfl⟩ := vlen_own8 OW.out
      have hk' : ((k : Nat) : Int) > 0 := by omega
      have hL11 : L.length ≤ 11 := by rw [HL.out]; omega
      go_wp2_with fail
      refine (BO.out _ _ SR.out (by omega)).mono ?_
      rintro e V1 ⟨b, rfl, kb, s1, g1⟩
      have KB := Lib.hid kb
      have S1 := Lib.hid s1
      have O1 := Lib.hid (ownsOther OW.out g1 (by intro q hq e; have := (OW.out.lt q hq).1; injection e with e; omega))
      have hs1 := s1.gr.size
      clear kb s1 g1 OW
      go_wp2_with (at_builtin; refine wpList_append_own _ rfl (.tmp 15) (.tmp 18) _ rfl W.heap.size 42 i0 (.agg #[.int .i16 0, .int .u8 0, .int .u8 0, .int .u8 0, .int .i16 0, .int .i16 0, .int .i16 0, .int .i16 0]) 8 14 Try.underlying32 hi0 hz0 hz1 hz2 rfl (by decide) _ _ _ rfl (O1.out.alloc _) ⟨V1.heap.size, 0, none⟩ 1 1 [.int .i16 b.c, .int .u8 b.m0, .int .u8 b.m1, .int .u8 b.m2, .int .i16 b.v, .int .i16 b.wi, .int .i16 b.hi, .int .i16 b.we] rfl rfl (cell8_new _ _ _ _ _ _ _ _ _ _) (one8 b) (by unfold maxLen; omega) (by omega) (by simp; omega) ?_)
      intro v' w4 hown' hgrow' _
      have ha : Below V1.heap.size V1 (V1.alloc (.cells #[.int .i16 b.c, .int .u8 b.m0, .int .u8 b.m1, .int .u8 b.m2, .int .i16 b.v, .int .i16 b.wi, .int .i16 b.hi, .int .i16 b.we] 42)) := (Below.refl _ _).alloc (Nat.le_refl _) _
      have S4 := Lib.hid ((S1.out.below ha).grown hgrow' (fun e => by have := (O1.out.lt g e.symm).1; omega) (fun q hq => (O1.out.lt q hq).1))
      rw [← flB_snoc] at hown'
      have O4 := Lib.hid hown'
      obtain ⟨A3, c3, rfl⟩ := vlen_own8 hown'
      clear hown' hgrow' ha O1 S1 SR
      go_wp2
      go_roundw
      case rel => exact ⟨_, k - 1, j + 1, L ++ [b], rfl, by congr 1; omega, by omega, by rw [List.length_append, HL.out]; rfl, (fun x hx => by
        rcases List.mem_append.1 hx with h | h
        · exact HO.out x h
        · rw [List.mem_singleton.1 h]; exact KB.out), by rw [List.length_append]; exact O4.out, S4.out.more (by omega)⟩
      case measure => simp [intOf]; omega
    · obtain rfl : k = 0 := by omega
      have hL11 : L.length ≤ 11 := by rw [HL.out]; omega
      obtain ⟨A2, c2, rfl⟩ := vlen_own8 OW.out
      go_wp2_with fail
      refine (ON.out _ _ SR.out (by omega)).mono ?_
      rintro e V1 ⟨b1, rfl, s1, g1⟩
      have S1 := Lib.hid s1
      have O1 := Lib.hid (ownsOther OW.out g1 (by intro q hq e; have := (OW.out.lt q hq).1; injection e with e; omega))
      have hs1 := s1.gr.size
      clear s1 g1 OW SR
      cases b1
      · go_wp2
        go_ret
        exact ⟨_, L, rfl, ResB.ofL O1.out rfl, hL11, HO.out, S1.out.src.more (by omega), S1.out.gr⟩
      · have RB := Lib.hid (ResB.ofL O1.out rfl)
        have ba := (Below.refl V1.heap.size V1).alloc (Nat.le_refl _) (.cells #[.int .i8 1, .int .i8 2, .int .i8 3] 65)
        have SB := Lib.hid (S1.out.below ba)
        have RC := Lib.hid (RB.out.below ba)
        have IO := Lib.hid (show IntsOf .i8 (V1.alloc (.cells #[.int .i8 1, .int .i8 2, .int .i8 3] 65)) (.slice (some ⟨V1.heap.size, 0, none⟩) 3 3) [1, 2, 3] from ⟨_, 3, rfl, fun _ => ⟨V1.heap.size, 0, rfl, (Array.getElem?_eq_some_iff.1 (heap_alloc_new V1 _)).1, fun i hi => by
          have h := heap_alloc_new V1 (.cells #[.int .i8 1, .int .i8 2, .int .i8 3] 65)
          have h2 := cell_of_row _ _ (0 + i) _ _ _ h
          rw [h2]
          match i, hi with
          | 0, _ => rfl
          | 1, _ => rfl
          | 2, _ => rfl⟩⟩)
        have hb1 := ba.size
        go_wp2_with fail
        generalize World.alloc V1 _ = V2 at SB RC IO hb1 ⊢
        refine (l01Sorted_any _ _ [1, 2, 3] (by decide) L (fun b hb => bookB_Wf (HO.out b hb)) V2 IO.out (by decide) RC.out.slice (by omega)).mono ?_
        rintro e V3 ⟨u, rfl, r3, b3⟩
        have LY := Lib.hid (insTo_len (ltB [1, 2, 3]) L L.length)
        have YO := Lib.hid (show ∀ b ∈ insTo (ltB [1, 2, 3]) L L.length, bookB b = true from fun b hb => HO.out b (List.mem_of_mem_take ((insTo_perm (ltB [1, 2, 3]) L L.length (Nat.le_refl _)).mem_iff.1 hb)))
        generalize insTo (ltB [1, 2, 3]) L L.length = ys at r3 LY YO
        have hg2 := SB.out.gr.size
        have R3 := Lib.hid (r3.mono (show W.heap.size ≤ V2.heap.size by omega))
        have S3 := Lib.hid (SB.out.below b3)
        have hs3 := b3.size
        clear r3 b3 ba IO RC RB SB O1 S1
        obtain ⟨A3, c3, rfl⟩ : ∃ A c, u = .slice A ys.length c := by
          obtain ⟨A, c, h, _⟩ := R3.out.slice
          exact ⟨A, c, h⟩
        have hy11 : ys.length ≤ 11 := by rw [LY.out]; exact hL11
        by_cases h1 : 1 < ys.length
        · have d1 : (1 : Int) < (ys.length : Int) := by omega
          go_wp2_with fail
          refine (ON.out _ _ S3.out (by omega)).mono ?_
          rintro e V4 ⟨b2, rfl, s4, g4⟩
          have S4 := Lib.hid s4
          have R4 := Lib.hid (R3.out.other g4 (by intro q hq e; have := (R3.out.lt q hq).1; injection e with e; omega))
          clear s4 g4 R3 S3
          cases b2
          · go_wp2
            go_ret
            exact ⟨_, ys, rfl, R4.out, hy11, YO.out, S4.out.src.more (by omega), S4.out.gr⟩
          · go_wp2_with fail
            refine (PK.out _ _ S4.out (by omega) (ys.length : Int) (by omega) (by omega)).mono ?_
            rintro e V5 ⟨zi, rfl, ⟨zi1, zi2⟩, s5, g5⟩
            obtain ⟨i, rfl⟩ : ∃ i : Nat, zi = (i : Int) := ⟨zi.toNat, by omega⟩
            have S5 := Lib.hid s5
            have R5 := Lib.hid (R4.out.other g5 (by intro q hq e; have := (R4.out.lt q hq).1; injection e with e; omega))
            clear s5 g5 R4 S4
            go_wp2_with fail
            refine (PK.out _ _ S5.out (by omega) (ys.length : Int) (by omega) (by omega)).mono ?_
            rintro e V6 ⟨zj, rfl, ⟨zj1, zj2⟩, s6, g6⟩
            obtain ⟨k, rfl⟩ : ∃ k : Nat, zj = (k : Int) := ⟨zj.toNat, by omega⟩
            have S6 := Lib.hid s6
            have r6 := (R5.out.other g6 (by intro q hq e; have := (R5.out.lt q hq).1; injection e with e; omega))
            clear s6 g6 R5 S5
            have hi : i < ys.length := by omega
            have hk2 : k < ys.length := by omega
            have hS6 := S6.out.gr.size
            obtain ⟨gr, N, e1, hgb, hrk, hnN⟩ : ∃ gr N, (Value.slice A3 ys.length c3) = .slice (some ⟨gr, 0, none⟩) ys.length N ∧ W.heap.size ≤ gr ∧ RowK V6 gr ys ys.length N ∧ ys.length ≤ N := by
              rcases r6 with ⟨_, h⟩ | ⟨gr, N, h1, h2, h3, h4⟩
              · exact absurd h (by intro h; rw [h] at h1; simp at h1)
              · exact ⟨gr, N, h1, h2, h3, h4⟩
            injection e1 with e1 _ e2
            subst e1 e2
            have R6 := Lib.hid hrk
            have AT := Lib.hid (RowK.at_ hrk)
            obtain ⟨x0, x1, x2, x3, x4, x5, x6, x7⟩ := booksAt_some AT.out hi
            have BX := Lib.hid (heap_alloc_new V6 (.cells #[.int .i16 ys[i].c, .int .u8 ys[i].m0, .int .u8 ys[i].m1, .int .u8 ys[i].m2, .int .i16 ys[i].v, .int .i16 ys[i].wi, .int .i16 ys[i].hi, .int .i16 ys[i].we] 42))
            have ba := (Below.refl V6.heap.size V6).alloc (Nat.le_refl _) (.cells #[.int .i16 ys[i].c, .int .u8 ys[i].m0, .int .u8 ys[i].m1, .int .u8 ys[i].m2, .int .i16 ys[i].v, .int .i16 ys[i].wi, .int .i16 ys[i].hi, .int .i16 ys[i].we] 42)
            have SX := Lib.hid (S6.out.below ba)
            have RX := Lib.hid (hrk.below ba hrk.lt)
            have zg := hrk.lt
            clear hrk ba r6
            rw [Nat.zero_add] at x0 x1 x2 x3 x4 x5 x6 x7
            have bi := Lib.hid (YO.out _ (List.getElem_mem hi))
            have bk := Lib.hid (YO.out _ (List.getElem_mem hk2))
            generalize hxi : ys[i] = xi at x0 x1 x2 x3 x4 x5 x6 x7 BX SX RX bi
            clear hxi
            go_upto_region 12 with (fail)
            generalize World.alloc V6 _ = V7 at BX SX RX ⊢
            clear x0 x1 x2 x3 x4 x5 x6 x7 AT R6
            have AT := Lib.hid (RowK.at_ RX.out)
            obtain ⟨y0, y1, y2, y3, y4, y5, y6, y7⟩ := booksAt_some AT.out hk2
            rw [Nat.zero_add] at y0 y1 y2 y3 y4 y5 y6 y7
            generalize hxk : ys[k] = xk at y0 y1 y2 y3 y4 y5 y6 y7 bk
            clear hxk
            have fz := RX.out.frozen
            obtain ⟨⟨u0, q0⟩, ⟨u1, q1⟩, ⟨u2, q2⟩, ⟨u3, q3⟩, ⟨u4, q4⟩, ⟨u5, q5⟩, ⟨u6, q6⟩, ⟨u7, q7⟩⟩ := RX.out.cells8 i (by omega)
            go_upto_region 13 with (fail)
            generalize hW : World.setCell _ _ _ = W4
            have R4 := Lib.hid (show RowK W4 gr (ys.set i xk) ys.length c3 by rw [← hW]; exact RowK.putS (w := V7) RX.out i hi (by omega) xk)
            have S4 := Lib.hid (show SrcG W w W4 g cv _ by rw [← hW]; exact SX.out.set8 (o := i * 8) (b := xk) hgb (by omega))
            have X4 : W4.heap[V6.heap.size]? = some (.cells #[.int .i16 xi.c, .int .u8 xi.m0, .int .u8 xi.m1, .int .u8 xi.m2, .int .i16 xi.v, .int .i16 xi.wi, .int .i16 xi.hi, .int .i16 xi.we] 42 (0, 0)) := by rw [← hW]; exact (set8_blockS V7 gr (i * 8) V6.heap.size xk (by omega)).trans BX.out
            clear hW y0 y1 y2 y3 y4 y5 y6 y7 q0 q1 q2 q3 q4 q5 q6 q7 fz AT RX SX BX
            have fz := R4.out.frozen
            obtain ⟨⟨u0, q0⟩, ⟨u1, q1⟩, ⟨u2, q2⟩, ⟨u3, q3⟩, ⟨u4, q4⟩, ⟨u5, q5⟩, ⟨u6, q6⟩, ⟨u7, q7⟩⟩ := R4.out.cells8 k (by omega)
            have x0 := cell_of_row W4 _ 0 _ _ _ X4
            have x1 := cell_of_row W4 _ 1 _ _ _ X4
            have x2 := cell_of_row W4 _ 2 _ _ _ X4
            have x3 := cell_of_row W4 _ 3 _ _ _ X4
            have x4 := cell_of_row W4 _ 4 _ _ _ X4
            have x5 := cell_of_row W4 _ 5 _ _ _ X4
            have x6 := cell_of_row W4 _ 6 _ _ _ X4
            have x7 := cell_of_row W4 _ 7 _ _ _ X4
            simp only [List.getElem?_toArray, List.getElem?_cons_zero, List.getElem?_cons_succ] at x0 x1 x2 x3 x4 x5 x6 x7
            clear X4
            go_upto_region 14 with (fail)
            generalize hW : World.setCell _ _ _ = W5
            have R5 := Lib.hid (show RowK W5 gr ((ys.set i xk).set k xi) ys.length c3 by rw [← hW]; exact RowK.putS (w := W4) R4.out k (by rw [List.length_set]; exact hk2) (by omega) xi)
            have S5 := Lib.hid (show SrcG W w W5 g cv _ by rw [← hW]; exact S4.out.set8 (o := k * 8) (b := xi) hgb (by omega))
            clear hW q0 q1 q2 q3 q4 q5 q6 q7 x0 x1 x2 x3 x4 x5 x6 x7 fz R4 S4
            go_wp2
            go_ret
            exact ⟨_, swL ys i k xi xk, rfl, (.inr ⟨gr, c3, by rw [swL_len]; rfl, hgb, by rw [swL_len]; exact R5.out, by rw [swL_len]; exact hnN⟩ : ResB _ _ _ _), by rw [swL_len]; exact hy11, swL_ok YO.out bi.out bk.out, S5.out.src.more (by omega), S5.out.gr⟩
        · have d1 : ¬ (1 : Int) < (ys.length : Int) := by omega
          go_wp2
          go_ret
          first | exact ⟨_, ys, rfl, R3.out, hy11, YO.out, S3.out.src.more (by omega), S3.out.gr⟩ | exact ⟨_, rfl, ys, R3.out, hy11, YO.out, S3.out.src.more (by omega), S3.out.gr⟩
set_option maxHeartbeats 2000000 in
theorem p6List_any (hc : IntsOf .u8 w cv zs) (hb : ∀ z ∈ zs, 0 ≤ z ∧ z ≤ 255) (hl : zs.length ≤ 1048576) :
    Calls Try.prog 11 #[cv] w fun e w' => ∃ (u : Value) (xs : List Bk), e = .returned u ∧ ResB w' w.heap.size u xs ∧ xs.length ≤ 11 ∧ (∀ b ∈ xs, bookB b = true) ∧ Below w.heap.size w w' := by
  have HC := Lib.hid hc
  obtain ⟨A, c, rfl, -⟩ := hc
  go_enter Try.func11, Try.ntmps11
  go_wp2_with fail
  refine (from_any _ rfl w).mono ?_
  rintro e W1 ⟨g, rfl, s1⟩
  have S1 := Lib.hid s1
  clear s1
  go_wp2_with fail
  refine (l01Drawn_any HC.out hb hl S1.out (by omega)).mono ?_
  rintro e W2 ⟨u, xs, rfl, hr, hn, hx, s2, -⟩
  have R2 := Lib.hid (hr.mono S1.out.bl.size)
  have B2 := Lib.hid s2.bl
  have HX := Lib.hid hx
  clear hr s2 hx
  obtain ⟨A3, c3, rfl⟩ : ∃ A c, u = .slice A xs.length c := by
    obtain ⟨A, c, h, _⟩ := R2.out.slice
    exact ⟨A, c, h⟩
  go_wp2
  go_ret
  exact ⟨_, xs, rfl, R2.out, hn, HX.out, B2.out⟩
set_option maxHeartbeats 4000000 in
theorem p6Stops_any (hc : IntsOf .u8 w cv zs) (hb : ∀ z ∈ zs, 0 ≤ z ∧ z ≤ 255) (hl : zs.length ≤ 1048576) :
    Calls Try.prog 5 #[cv] w fun e w' => ∃ (u : Value) (ss : List Int), e = .returned u ∧ (∃ q N, u = .slice (some ⟨q, 0, none⟩) ss.length N) ∧ w'.ownsRow w.heap.size 2 1 u ss.length (ss.map (Value.int .i64)) ∧ ss.length ≤ 6 ∧ (∀ x ∈ ss, 0 ≤ x ∧ x ≤ 29) ∧ Below w.heap.size w w' := by
  have HC := Lib.hid hc
  obtain ⟨A, c, rfl, -⟩ := hc
  have PK := Lib.hid (fun (m : Nat) (V : World) (g : Nat) (h : Src w V g (.slice A zs.length c) m) (hm : m ≤ 1048000) (n : Int) (hn1 : 2 ≤ n) (hn2 : n ≤ 1048576) => pick_any HC.out hb hl h hm n hn1 hn2)
  clear hb
  obtain ⟨i0, hi0, hz0, hz1, hz2⟩ := info_parts infoIntD
  go_enter Try.func5, Try.ntmps5
  go_wp2_with fail
  refine (from_any _ rfl w).mono ?_
  rintro e W1 ⟨g, rfl, s1⟩
  have ba := (Below.refl W1.heap.size W1).alloc (Nat.le_refl _) (.cells #[] 2)
  have SA := Lib.hid (s1.below ba)
  have hz := s1.bl.size
  have hgl := s1.lt
  have OA := Lib.hid (show (W1.alloc (.cells #[] 2)).ownsRow W1.heap.size 2 1 (.slice (some ⟨W1.heap.size, 0, none⟩) 0 0) ([] : List Int).length (([] : List Int).map (Value.int .i64)) from ⟨rfl, .inr ⟨W1.heap.size, 0, #[], rfl, Nat.le_refl _, heap_alloc_new W1 _, Nat.le_refl _, Nat.zero_le _, rfl, rfl⟩⟩)
  obtain ⟨B, hB⟩ : ∃ B, W1.heap.size = B := ⟨_, rfl⟩
  rw [hB] at hz hgl
  have OA := Lib.hid (show (W1.alloc (.cells #[] 2)).ownsRow B 2 1 (.slice (some ⟨B, 0, none⟩) 0 0) ([] : List Int).length (([] : List Int).map (Value.int .i64)) by have h := OA.out; rwa [hB] at h)
  have hBA : B ≤ (W1.alloc (.cells #[] 2)).heap.size := by rw [← hB]; exact ba.size
  clear s1 ba
  go_upto_region 3 with (fail)
  generalize World.alloc W1 _ = W2 at SA OA hBA ⊢
  go_wp2_with fail
  refine (PK.out _ _ g SA.out (by omega) 7 (by omega) (by omega)).mono ?_
  rintro e W3 ⟨k0, rfl, ⟨k1, k2⟩, s3, g3⟩
  have S3 := Lib.hid s3
  have O3 := Lib.hid (ownsOther OA.out g3 (by intro k hk e; have := (OA.out.lt k hk).1; injection e with e; omega))
  have hB3 := Nat.le_trans hBA g3.size
  clear s3 g3 SA OA
  go_wp2_with fail
  go_loopw [4, 5] (fun v_ k_ wr => ∃ (v : Value) (k j : Nat) (L : List Int), v = v_ ∧ k_ = .int .i64 (k : Int) ∧ k + j ≤ 6 ∧ L.length = j ∧ (∀ x ∈ L, 0 ≤ x ∧ x ≤ 29) ∧ (∃ q N, v = .slice (some ⟨q, 0, none⟩) L.length N) ∧ wr.ownsRow B 2 1 v L.length (L.map (Value.int .i64)) ∧ Src w wr g (.slice A zs.length c) (4 + 2 * j) ∧ B ≤ wr.heap.size) (fun _ k_ _ => (intOf k_).toNat)
  case atStart => exact ⟨_, k0.toNat, 0, [], rfl, by rw [Int.toNat_of_nonneg k1], by omega, rfl, (fun _ h => by cases h), ⟨B, 0, rfl⟩, O3.out, S3.out.more (by omega), hB3⟩
  case round =>
    obtain ⟨v, k, j, L, rfl, rfl, hkj, hL, hok, hfm, hown, hs, hBr⟩ := hrel
    obtain ⟨q0, N0, rfl⟩ := hfm
    clear S3 O3 hB3
    have HL := Lib.hid hL
    have HO := Lib.hid hok
    have OW := Lib.hid hown
    have SR := Lib.hid hs
    have hL11 : L.length ≤ 6 := by rw [hL]; omega
    clear hL hok hown hs
    by_cases hk : 0 < k
    · have hk' : ((k : Nat) : Int) > 0 := by omega
      go_wp2_with fail
      refine (PK.out _ _ g SR.out (by omega) 30 (by omega) (by omega)).mono ?_
      rintro e V1 ⟨z, rfl, ⟨z1, z2⟩, s1, g1⟩
      have S1 := Lib.hid s1
      have O1 := Lib.hid (ownsOther OW.out g1 (by intro q hq e; have := (OW.out.lt q hq).1; injection e with e; omega))
      have hs1 := Nat.le_trans hBr g1.size
      clear s1 g1 OW SR
      go_wp2_with (at_builtin; refine wpList_append_own _ rfl (.tmp 15) (.tmp 18) _ rfl B 2 i0 (.int .i64 0) 1 8 Try.underlying24 hi0 hz0 hz1 hz2 rfl (by decide) _ _ _ rfl (O1.out.alloc _) ⟨V1.heap.size, 0, none⟩ 1 1 [.int .i64 z] rfl rfl ?c1 (by intro u hu; simp at hu; subst hu; rfl) (by unfold maxLen; omega) (by omega) (by simp; omega) ?_)
      case c1 => (intro j u hu; match j, hu with | 0, hu => (simp at hu; subst hu; exact (cell_of_row _ _ 0 _ _ _ (heap_alloc_new V1 _)).trans rfl) | j + 1, hu => simp at hu)
      intro v' w4 hown' hgrow' hne'
      have FM := Lib.hid (own_form hown' hne')
      have ha : Below V1.heap.size V1 (V1.alloc (.cells #[.int .i64 z] 2)) := (Below.refl _ _).alloc (Nat.le_refl _) _
      have S4 := Lib.hid ((S1.out.below ha).kept hgrow' (fun e => by have := (O1.out.lt g e.symm).1; omega) (fun q hq => by have := (O1.out.lt q hq).1; omega))
      have O4 := Lib.hid (show w4.ownsRow B 2 1 v' (L.length + 1) ((L ++ [z]).map (Value.int .i64)) by rw [List.map_append]; exact hown')
      have hB4 : B ≤ w4.heap.size := Nat.le_trans hs1 (Nat.le_trans ha.size hgrow'.size)
      obtain ⟨q3, c3, rfl⟩ := FM.out
      clear hown' hgrow' hne' ha O1 S1 FM
      go_wp2
      go_roundw
      case rel => exact ⟨_, k - 1, j + 1, L ++ [z], rfl, by congr 1; omega, by omega, by rw [List.length_append, HL.out]; rfl, (fun x hx => by
        rcases List.mem_append.1 hx with h | h
        · exact HO.out x h
        · rw [List.mem_singleton.1 h]; omega), ⟨q3, c3, by rw [List.length_append]; rfl⟩, by rw [List.length_append]; exact O4.out, S4.out.more (by omega), hB4⟩
      case measure => simp [intOf]; omega
    · obtain rfl : k = 0 := by omega
      go_wp2
      go_ret
      exact ⟨_, L, rfl, ⟨_, _, rfl⟩, ownsMono OW.out hz, hL11, HO.out, SR.out.bl⟩
end
end

end Go.Proofs.Ytecpddkbbfpeeaa
