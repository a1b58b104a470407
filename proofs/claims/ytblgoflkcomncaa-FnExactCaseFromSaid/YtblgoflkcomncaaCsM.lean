/- A case that a call hands back: its block, how it compares, what is marked in it: contracts. Condition: at most 300 shelves. -/
import Derived.Test.YtblgoflkcomncaaCaseOk
import Derived.Test.YtblgoflkcomncaaOwn
namespace Go.Proofs.Ytblgoflkcomncaa
set_option linter.unusedSimpArgs false
set_option linter.unusedVariables false
set_option maxRecDepth 100000
open Go.RowKit

theorem own_slK {w : World} {B n : Nat} {v : Value} {xs : List Value} {t : TypeId} (h : w.ownsRow B t 1 v n xs) : ∃ A cap, v = .slice A n cap := by
  rcases h.2 with ⟨rfl, rfl⟩ | ⟨g, cap, cur, rfl, _⟩
  · exact ⟨_, _, rfl⟩
  · exact ⟨_, _, rfl⟩
theorem infoI16 : (Try.prog.info? 22).map (fun i => (i.zero, i.size, i.bytes)) = some (some (.int .i16 0), 1, 2) := by kernel_rfl
set_option maxHeartbeats 2000000 in
theorem markI16o_any (v : Value) (l : List Int) (k0 : Int) (base : Nat) (w : World) (hn : l.length ≤ 300) (hk0 : 0 ≤ k0) (hk1 : k0 ≤ 1000) (hown : w.ownsRow base 22 1 v l.length (l.map (Value.int .i16))) :
    Calls Try.prog 79 #[v, .int .i64 k0] w fun e w' => e = .returned (.int .i64 (k0 + l.length)) ∧ w'.ownsRow base 22 1 v (mks k0 l).length ((mks k0 l).map (Value.int .i16)) ∧ w.grownBy w' v.ownBlock := by
  have el := mks_length k0 l
  by_cases h0 : l = []
  · subst h0
    obtain ⟨A, c, rfl⟩ : ∃ A c, v = .slice A 0 c := by
      rcases hown.2 with ⟨rfl, _⟩ | ⟨g, cap, cur, rfl, _⟩
      · exact ⟨_, _, rfl⟩
      · exact ⟨_, _, rfl⟩
    have HO := Lib.hid hown
    clear hown el hn
    go_enter Try.func79, Try.ntmps79
    go_wp2
    refine wp_loop_rounds 1 ?_
    rw [rounds_succ]; go_wp2
    go_ret
    exact ⟨by simp, HO.out, World.grownBy.refl w _⟩
  · have hpos : 0 < l.length := List.length_pos_iff.2 h0
    obtain ⟨g, cap, rfl⟩ : ∃ g cap, v = .slice (some ⟨g, 0, none⟩) l.length cap := by
      rcases hown.2 with ⟨_, h⟩ | ⟨g, cap, cur, h, _⟩
      · omega
      · exact ⟨g, cap, h⟩
    have HO := Lib.hid hown
    clear hown h0
    rw [el]
    clear el
    go_enter Try.func79, Try.ntmps79
    go_wp2
    go_loopw [1, 5] (fun x i wr => ∃ j : Nat, j ≤ l.length ∧ i = .int .i64 j ∧ x = .int .i64 (k0 + (j : Int)) ∧ wr.ownsRow base 22 1 (.slice (some ⟨g, 0, none⟩) l.length cap) l.length ((mksTo k0 l j).map (Value.int .i16)) ∧ w.grownBy wr (some g)) (fun _ i _ => l.length - (intOf i).toNat)
    case atStart => exact ⟨0, Nat.zero_le _, rfl, by simp, by rw [mksTo_zero]; exact HO.out, World.grownBy.refl w _⟩
    case round =>
      obtain ⟨j, hj, rfl, rfl, how, hgr⟩ := hrel
      have HW := Lib.hid how
      have HG := Lib.hid hgr
      clear how hgr
      by_cases hlt : j < l.length
      · have hlj : j < (mksTo k0 l j).length := by rw [mksTo_length]; exact hlt
        obtain ⟨u, hu⟩ : ∃ u, wr.cell? ⟨g, j, none⟩ = some u := ⟨_, (HW.out.cellAt j (by omega)).trans (by rw [List.getElem?_eq_getElem (by simpa using hlj)])⟩
        have fz := HW.out.frozenAt
        have hw16 : IntKind.i16.wrap (k0 + (j : Int)) = k0 + (j : Int) := IntWalk.i16_in _ (by omega)
        clear hlj
        go_wp2
        go_roundw
        case rel => exact ⟨j + 1, by omega, by go_num, by first | go_num | (congr 1; push_cast; omega), by rw [← mksTo_succ k0 .i16 l j hlt]; exact (HW.out.stored j _).1, only_set2 HG.out _ _⟩
        case measure => simp [intOf]; omega
      · obtain rfl : j = l.length := by omega
        go_wp2
        go_ret
        exact ⟨rfl, HW.out, HG.out⟩
set_option maxHeartbeats 2000000 in
theorem heldI16o_any (v : Value) (l : List Int) (k0 : Int) (w : World) (hn : l.length ≤ 300) (hk0 : 0 ≤ k0) (hk1 : k0 ≤ 1000) (hs : IntsOf .i16 w v (mks k0 l)) :
    Calls Try.prog 80 #[v, .int .i64 k0] w fun e w' => e = .returned (.int .i64 (k0 + l.length)) ∧ Below w.heap.size w w' := by
  obtain ⟨A, c, rfl, hs⟩ := hs
  have el := mks_length k0 l
  have HS := Lib.hid hs
  have EL := Lib.hid el
  clear hs
  rw [el]
  clear el
  go_enter Try.func80, Try.ntmps80
  go_wp2
  go_loopw [1, 5] (fun x i wr => ∃ j : Nat, j ≤ l.length ∧ i = .int .i64 j ∧ x = .int .i64 (k0 + (j : Int)) ∧ Below w.heap.size w wr) (fun _ i _ => l.length - (intOf i).toNat)
  case atStart => exact ⟨0, Nat.zero_le _, rfl, by simp, Below.refl _ _⟩
  case round =>
    obtain ⟨j, hj, rfl, rfl, hb⟩ := hrel
    by_cases hlt : j < l.length
    · obtain ⟨g, o, rfl, hg, hat⟩ := HS.out (by have := EL.out; omega)
      have c0 := hat.below hb hg j (by have := EL.out; omega)
      have e : (mks k0 l)[j]'(by have := EL.out; omega) = k0 + (j : Int) := by simp [mks, mksTo, hlt]
      rw [e] at c0
      have hw16 : IntKind.i16.wrap (k0 + (j : Int)) = k0 + (j : Int) := IntWalk.i16_in _ (by omega)
      clear hat e
      go_wp2
      go_roundw
      case rel => exact ⟨j + 1, by omega, by go_num, by first | go_num | (congr 1; push_cast; omega), hb⟩
      case measure => simp [intOf]; omega
    · obtain rfl : j = l.length := by omega
      go_wp2
      go_ret
      exact ⟨rfl, hb⟩
/-- A case in a block of its own. -/
def KB (W : World) (g : Nat) (a b : Int) (hv : Value) : Prop := W.heap[g]? = some (.cells #[.int .i16 a, .int .i32 b, hv] 28 (0, 0))
section
variable {W W' : World} {g k : Nat} {a b : Int} {hv : Value}
theorem KB.lt (h : KB W g a b hv) : g < W.heap.size := (Array.getElem?_eq_some_iff.1 h).1
theorem KB.kept {row : Option Nat} (h : KB W g a b hv) (hg : W.grownBy W' row) (hne : some g ≠ row) : KB W' g a b hv := (hg.block g h.lt hne).trans h
theorem KB.below (h : KB W g a b hv) (hb : Below W.heap.size W W') : KB W' g a b hv := (hb.block g h.lt).trans h
theorem KB.fz (h : KB W g a b hv) (i : Nat) : W.frozen? ⟨g, i, none⟩ = false := frozen_of_row W g i _ _ h
theorem KB.c0 (h : KB W g a b hv) : W.cell? ⟨g, 0, none⟩ = some (.int .i16 a) := cell_of_row W g 0 _ _ _ h
theorem KB.c1 (h : KB W g a b hv) : W.cell? ⟨g, 1, none⟩ = some (.int .i32 b) := cell_of_row W g 1 _ _ _ h
theorem KB.c2 (h : KB W g a b hv) : W.cell? ⟨g, 2, none⟩ = some hv := cell_of_row W g 2 _ _ _ h
theorem KB.s0 (h : KB W g a b hv) (z : Int) : KB (W.setCell ⟨g, 0, none⟩ (.int .i16 z)) g z b hv := by
  unfold KB at *
  rw [heap_setCell_same _ _ _ _ _ _ h]
  rfl
theorem KB.s1 (h : KB W g a b hv) (z : Int) : KB (W.setCell ⟨g, 1, none⟩ (.int .i32 z)) g a z hv := by
  unfold KB at *
  rw [heap_setCell_same _ _ _ _ _ _ h]
  rfl
theorem KB.s2 (h : KB W g a b hv) (z : Value) : KB (W.setCell ⟨g, 2, none⟩ z) g a b z := by
  unfold KB at *
  rw [heap_setCell_same _ _ _ _ _ _ h]
  rfl
theorem KB.all (h : KB W g a b hv) (x y : Int) (z : Value) : KB (((W.setCell ⟨g, 0, none⟩ (.int .i16 x)).setCell ⟨g, 1, none⟩ (.int .i32 y)).setCell ⟨g, 2, none⟩ z) g x y z := by
  unfold KB at *
  have h1 := heap_setCell_same _ _ 0 _ _ (.int .i16 x) h
  have h2 := heap_setCell_same _ _ 1 _ _ (.int .i32 y) h1
  have h3 := heap_setCell_same _ _ 2 _ _ z h2
  simpa using h3
end
set_option maxHeartbeats 2000000 in
theorem eqCase_sameR (c : Cs) (h1 h2 : Value) (w : World) (s1 : IntsOf .i16 w h1 c.hs) (s2 : IntsOf .i16 w h2 c.hs) (hn : c.hs.length ≤ maxLen) :
    Calls Try.prog 19 #[.agg #[.int .i16 c.wi, .int .i32 c.lo, h1], .agg #[.int .i16 c.wi, .int .i32 c.lo, h2]] w fun e w' => e = .returned (.bool true) ∧ Below w.heap.size w w' := by
  have H1 := Lib.hid s1
  have H2 := Lib.hid s2
  obtain ⟨A1, k1, rfl, -⟩ := s1
  obtain ⟨A2, k2, rfl, -⟩ := s2
  go_enter Try.func19, Try.ntmps19
  go_wp2_with fail
  refine (eqInt16S_same' _ _ _ _ (H1.out.below (by go_grown)) (H2.out.below (by go_grown)) hn).mono ?_
  rintro e w1 ⟨rfl, hb⟩
  go_wp2
  go_ret
  exact ⟨rfl, bnext (show Below w.heap.size w _ by go_grown) hb⟩
theorem grownAlloc {w w' : World} {o : Obj} {row : Option Nat} (h : (w.alloc o).grownBy w' row) : w.grownBy w' row :=
  ⟨h.os, h.tape, h.output, Nat.le_trans (by simp) h.size, fun k hk hne => (h.block k (by simp; omega) hne).trans (Below.heap_alloc w o k hk)⟩
set_option maxHeartbeats 1000000 in
theorem markCaseO (a b : Int) (A : Option Addr) (c : Nat) (l : List Int) (base : Nat) (w : World) (hn : l.length ≤ 300) (h : w.ownsRow base 22 1 (.slice A l.length c) l.length (l.map (Value.int .i16))) :
    Calls Try.prog 22 #[.agg #[.int .i16 a, .int .i32 b, .slice A l.length c], .int .i64 1] w fun e w' => e = .returned (.int .i64 (1 + l.length)) ∧ w'.ownsRow base 22 1 (.slice A l.length c) (mks 1 l).length ((mks 1 l).map (Value.int .i16)) ∧ w.grownBy w' (Value.slice A l.length c).ownBlock := by
  have HA := Lib.hid (ownBelow h ((Below.refl w.heap.size w).alloc (Nat.le_refl _) (.cells #[.int .i16 a, .int .i32 b, .slice A l.length c] 28)))
  clear h
  go_enter Try.func22, Try.ntmps22
  go_wp2_with fail
  refine (markI16o_any _ l 1 base _ hn (by omega) (by omega) HA.out).mono ?_
  rintro e w1 ⟨rfl, ho, k1⟩
  have HO := Lib.hid ho
  have HK := Lib.hid (grownAlloc k1)
  clear ho k1
  go_wp2
  go_ret
  exact ⟨rfl, HO.out, HK.out⟩
set_option maxHeartbeats 1000000 in
theorem heldCaseO (a b : Int) (A : Option Addr) (c : Nat) (l : List Int) (base : Nat) (w : World) (hn : l.length ≤ 300) (h : w.ownsRow base 22 1 (.slice A l.length c) (mks 1 l).length ((mks 1 l).map (Value.int .i16))) :
    Calls Try.prog 23 #[.agg #[.int .i16 a, .int .i32 b, .slice A l.length c], .int .i64 1] w fun e w' => e = .returned (.int .i64 (1 + l.length)) ∧ Below w.heap.size w w' := by
  have ba := Lib.hid ((Below.refl w.heap.size w).alloc (Nat.le_refl _) (.cells #[.int .i16 a, .int .i32 b, .slice A l.length c] 28))
  have HA := Lib.hid (ownInts (ownBelow h ba.out))
  have k0 : ¬ (1 + (l.length : Int) < 0) := by omega
  have k1 : decide (1 + (l.length : Int) < 0) = false := decide_eq_false k0
  clear h
  go_enter Try.func23, Try.ntmps23
  go_wp2_with fail
  refine (heldI16o_any _ l 1 _ hn (by omega) (by omega) HA.out).mono ?_
  rintro e w1 ⟨rfl, hb⟩
  have HB := Lib.hid (bnext ba.out hb)
  clear hb
  generalize hz : 1 + (l.length : Int) = z at *
  have HZ := Lib.hid hz
  clear hz
  go_wp2
  go_ret
  exact ⟨by rw [HZ.out]; rfl, HB.out⟩
end Go.Proofs.Ytblgoflkcomncaa
