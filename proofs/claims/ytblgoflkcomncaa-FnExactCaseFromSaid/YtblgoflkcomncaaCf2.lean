/- A case made of heights and counts, by the program: its iterator, a contract. Condition: numbers within their kinds, slices no longer than can be. -/
import Derived.RangeFuncNested
import Derived.RangeFuncBound
import Derived.RangeFuncCalls
import Derived.RangeFuncLeaves
import Derived.Shelf.Abstract
import Derived.Shelf.RegionOpen
import Derived.OwnWalkIn
import Derived.TacticsInMore
import Derived.LoopNIn
import Derived.LoopIn
import Derived.Test.YtblgoflkcomncaaCf1
namespace Go.Proofs.Ytblgoflkcomncaa
set_option linter.unusedSimpArgs false
set_option linter.unusedVariables false
set_option maxRecDepth 100000
open Go.RowKit Go.Shelf
attribute [local go_sem] Oper.semAt_some

theorem below_grownC {w w' : World} {row : Option Nat} (h : Below w.heap.size w w') : w.grownBy w' row := ⟨h.os, h.tape, h.output, h.size, fun i hi _ => h.block i hi⟩
/-- What a round that goes on keeps: all blocks below B, and the boxes of lists of numbers. -/
def KpC (B : Nat) (W W' : World) : Prop := W.heap.size ≤ W'.heap.size ∧ (∀ g, g < B → W'.heap[g]? = W.heap[g]?) ∧ ∀ (g : Nat) (a : Array Value), W.heap[g]? = some (.cells a 25 (0, 0)) → W'.heap[g]? = some (.cells a 25 (0, 0))
theorem kpC_t {B : Nat} {X Y Z : World} (h : KpC B X Y) (k : KpC B Y Z) : KpC B X Z := ⟨Nat.le_trans h.1 k.1, fun g hg => (k.2.1 g hg).trans (h.2.1 g hg), fun g a hg => k.2.2 g a (h.2.2 g a hg)⟩
theorem kpC_b {B : Nat} {w : World} (hB : B ≤ w.heap.size) (W : World) (l : Nat) (o o' : Obj) (hl : w.heap.size ≤ l) (h : W.heap[l]? = some o) (hc : o.isCells = false) (_ : o.isWalk = false) : KpC B W (W.putObj l o') :=
  ⟨by simp, fun g hg => World.putObj_heap_other (by omega), fun g a hg => (World.putObj_heap_other (fun e => by subst e; rw [h] at hg; cases hg; cases hc)).trans hg⟩
theorem kpC_below {B : Nat} {W W' : World} (h : Below W.heap.size W W') (hB : B ≤ W.heap.size) : KpC B W W' := ⟨h.size, fun g hg => h.block g (by omega), fun g a hg => (h.block g (Array.getElem?_eq_some_iff.1 hg).1).trans hg⟩
theorem kpC_grown {B : Nat} {W W' : World} {row : Option Nat} (h : W.grownBy W' row) (hB : B ≤ W.heap.size) (hr : ∀ k, row = some k → B ≤ k ∧ ∃ (o : Obj), W.heap[k]? = some o ∧ ∀ a, o ≠ .cells a 25 (0, 0)) : KpC B W W' :=
  ⟨h.size, fun g hg => h.block g (by omega) (fun e => by have := (hr g e.symm).1; omega), fun g a hg => (h.block g (Array.getElem?_eq_some_iff.1 hg).1 (fun e => by obtain ⟨o, h1, h2⟩ := (hr g e.symm).2; rw [h1] at hg; cases hg; exact h2 a rfl)).trans hg⟩

/-- An index, on the way down. -/
abbrev BQ (hs : List Int) := { i : Nat // i < hs.length }
def bwE (hs : List Int) (q : BQ hs) : Array Value := #[.int .i64 (q.1 : Int), .int .i64 (hs[q.1]'q.2)]
set_option maxHeartbeats 1000000 in
theorem backward_any (A : Option Addr) (n c : Nat) (w : World) :
    Calls Try.prog 76 #[.slice A n c] w fun e w' => e = .returned (.func (.func 130) #[] #[.pointer (some ⟨w.heap.size, 0, none⟩)]) ∧ w.alloc (.cells #[.slice A n c] 25) = w' := by
  go_enter Try.func76, Try.ntmps76
  go_wp2
  go_ret
  exact ⟨rfl, rfl⟩
theorem cell_of_blockK {W W' : World} {g : Nat} (h : W'.heap[g]? = W.heap[g]?) (o : Nat) : W'.cell? ⟨g, o, none⟩ = W.cell? ⟨g, o, none⟩ := by simp [World.cell?, h]
/-- The numbers of a list lie where they lay. -/
def IntsK (W : World) (B : Nat) (A : Option Addr) (hs : List Int) : Prop := 0 < hs.length → ∃ g o, A = some ⟨g, o, none⟩ ∧ g < B ∧ ∀ (k : Nat) (hk : k < hs.length), W.cell? ⟨g, o + k, none⟩ = some (.int .i64 hs[k])
theorem IntsK.kp {W W' : World} {B : Nat} {A : Option Addr} {hs : List Int} (h : IntsK W B A hs) (hk : KpC B W W') : IntsK W' B A hs := fun h0 => by
  obtain ⟨g, o, e, hg, hc⟩ := h h0
  refine ⟨g, o, e, hg, fun k hlt => ?_⟩
  rw [← hc k hlt]
  exact cell_of_blockK (hk.2.1 g hg) _
set_option maxHeartbeats 8000000 in
theorem bw_stops (n : Nat) (hn : 1 ≤ n) (B Bn : Nat) (A : Option Addr) (c : Nat) (hs : List Int) (w : World) (hc : w.heap[Bn]? = some (.cells #[.slice A hs.length c] 25 (0, 0))) (hi : IntsK w B A hs) (hB : B ≤ w.heap.size) (hlen : hs.length ≤ 100) :
    SeqStopsK Fence.wide n Try.prog 130 #[.pointer (some ⟨Bn, 0, none⟩)] (bwE hs) (KpC B) (fun ys => ys.map Subtype.val = (List.range hs.length).reverse) (fun _ => True) hs.length w := by
  intro l J Jx W hW hJ hJx hY h0
  have HC := Lib.hid ((hW.block _ (Array.getElem?_eq_some_iff.1 hc).1).trans hc)
  have HI := Lib.hid (hi.kp (kpC_below hW hB))
  have c0 : W.cell? ⟨Bn, 0, none⟩ = some (.slice A hs.length c) := cell_of_row W Bn 0 _ _ _ HC.out
  have HY := Lib.hid hY
  have H0 := Lib.hid h0
  clear hY h0 hJ hJx hc hi
  refine callsIn_of_wp Try.func130 rfl trivial ?_ rfl
  simp only [Try.ntmps130, List.size_toArray, List.length_cons, List.length_nil, Nat.reduceAdd, Nat.reduceSub, Array.replicate_succ, Array.replicate_zero, List.push_toArray, List.append_toArray, List.nil_append, List.cons_append]
  gi_wp2
  clear c0
  gi_loopw [3] (fun i_ wr => ∃ (i : Nat) (z : Int) (pre : List (BQ hs)), i ≤ hs.length ∧ i_ = .int .i64 z ∧ z = (i : Int) - 1 ∧ pre.map Subtype.val ++ (List.range i).reverse = (List.range hs.length).reverse ∧ wr.heap[Bn]? = some (.cells #[.slice A hs.length c] 25 (0, 0)) ∧ IntsK wr B A hs ∧ J pre wr) (fun i_ _ => (intOf i_ + 1).toNat)
  case atStart => exact ⟨hs.length, _, [], Nat.le_refl _, rfl, rfl, by simp, HC.out, HI.out, H0.out⟩
  case round =>
    obtain ⟨i, z, pre, hi, rfl, hz, hx, hbx, hik, hJs⟩ := hrel
    have HX := Lib.hid hx
    have HBX := Lib.hid hbx
    have HIK := Lib.hid hik
    have HS := Lib.hid hJs
    clear hx hbx hik hJs
    have c0 : wr.cell? ⟨Bn, 0, none⟩ = some (.slice A hs.length c) := cell_of_row wr Bn 0 _ _ _ HBX.out
    rcases i with _ | j
    · have hz1 : ¬ (0 ≤ z) := by omega
      have hz2 : z < 0 := by omega
      have HX := Lib.hid (show pre.map Subtype.val = (List.range hs.length).reverse by rw [← HX.out]; simp)
      gi_wp2
      go_end0
      exact ⟨⟨_, rfl⟩, .inl ⟨pre, HX.out, HS.out⟩⟩
    · obtain rfl : z = (j : Int) := by omega
      have hj : j < hs.length := by omega
      have hj0 : (j : Int) < (hs.length : Int) := by omega
      obtain ⟨g, o, rfl, hg, hcs⟩ := HIK.out (by omega)
      have q0 := hcs j hj
      have HX := Lib.hid (show pre.map Subtype.val ++ j :: (List.range j).reverse = (List.range hs.length).reverse by rw [← HX.out, List.range_succ, List.reverse_append]; rfl)
      obtain ⟨fn, tmps, assign, body, hy, hR⟩ := HY.out pre ⟨j, hj⟩ wr HS.out (by
        have := congrArg List.length HX.out
        simp at this
        omega)
      have hR := Lib.hid hR
      unfold bwE at hy
      dsimp only at hy
      clear hcs hz
      gi_wp2
      refine hR.out.mono ?_
      rintro e W3 (⟨rfl, hJ3, hk3⟩ | ⟨rfl, hJx3⟩)
      · have HB3 := Lib.hid (hk3.2.2 _ _ HBX.out)
        have HI3 := Lib.hid (HIK.out.kp hk3)
        have HJ3 := Lib.hid hJ3
        clear hJ3 hy hk3 q0 c0
        gi_wp2
        go_roundw
        case rel => exact ⟨j, _, pre ++ [⟨j, hj⟩], by omega, rfl, by simp, by rw [← HX.out]; simp, HB3.out, HI3.out, HJ3.out⟩
        case measure => simp [intOf] <;> omega
      · gi_wp2
        refine bodyPost_ret (results_none rfl _ _ _) rfl ?_
        exact ⟨⟨_, rfl⟩, .inr ⟨_, trivial, hJx3⟩⟩
end Go.Proofs.Ytblgoflkcomncaa
