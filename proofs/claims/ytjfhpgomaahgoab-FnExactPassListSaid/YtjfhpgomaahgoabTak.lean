/- The books of a list in the order in which they are taken, by the program's iterator: a contract. Condition: lists within the limits, whose numbers lie within their kinds. -/
import Derived.RangeFuncNested
import Derived.RangeFuncBound
import Derived.RangeFuncCalls
import Derived.RangeFuncLeaves
import Derived.Shelf.Abstract
import Derived.Shelf.RegionOpen
import Derived.OwnWalkIn
import Derived.TacticsInMore
import Derived.LoopNIn
import Derived.LoopIn
import Derived.Test.YtjfhpgomaahgoabPas
import Derived.Test.YtjfhpgomaahgoabInOrd
namespace Go.Proofs.Ytjfhpgomaahgoab
set_option linter.unusedSimpArgs false
set_option linter.unusedVariables false
set_option maxRecDepth 100000
open Go.RowKit Go.Shelf Stab
attribute [local go_sem] Oper.semAt_some

theorem below_grown {w w' : World} {row : Option Nat} (h : Below w.heap.size w w') : w.grownBy w' row := ⟨h.os, h.tape, h.output, h.size, fun i hi _ => h.block i hi⟩
theorem later_alloc {W : World} {k : Nat} {o : Obj} (h : W.heap[k]? = some o) (o' : Obj) : (W.alloc o').heap[k]? = some o := (Below.heap_alloc W o' k (Array.getElem?_eq_some_iff.1 h).1).trans h

/-- What a round that goes on keeps: the rows of ints. -/
def KpI (W W' : World) : Prop := W.heap.size ≤ W'.heap.size ∧ ∀ (g : Nat) (a : Array Value), W.heap[g]? = some (.cells a 3 (0, 0)) → W'.heap[g]? = some (.cells a 3 (0, 0))
theorem kpI_t {A B C : World} (h : KpI A B) (k : KpI B C) : KpI A C := ⟨Nat.le_trans h.1 k.1, fun g a hg => k.2 g a (h.2 g a hg)⟩
theorem kpI_b {w : World} (W : World) (l : Nat) (o o' : Obj) (_ : w.heap.size ≤ l) (h : W.heap[l]? = some o) (hc : o.isCells = false) (_ : o.isWalk = false) : KpI W (W.putObj l o') :=
  ⟨by simp, fun g a hg => (World.putObj_heap_other (fun e => by subst e; rw [h] at hg; cases hg; cases hc)).trans hg⟩
theorem kpI_below {W W' : World} (h : Below W.heap.size W W') : KpI W W' := ⟨h.size, fun g a hg => (h.block g (Array.getElem?_eq_some_iff.1 hg).1).trans hg⟩
theorem kpI_grown {W W' : World} {row : Option Nat} (h : W.grownBy W' row) (hr : ∀ k, row = some k → ∃ (o : Obj), W.heap[k]? = some o ∧ ∀ a, o ≠ .cells a 3 (0, 0)) : KpI W W' :=
  ⟨h.size, fun g a hg => (h.block g (Array.getElem?_eq_some_iff.1 hg).1 (fun e => by obtain ⟨o, h1, h2⟩ := hr g e.symm; rw [h1] at hg; cases hg; exact h2 a rfl)).trans hg⟩
theorem RowI.kp {W W' : World} {g n : Nat} {l : List Int} (h : RowI W g n l) (hk : KpI W W') : RowI W' g n l := by
  obtain ⟨hl, cs, h1, h2⟩ := h
  exact ⟨hl, cs, hk.2 _ _ h1, h2⟩

set_option maxHeartbeats 1000000 in
theorem taken_any (A : Option Addr) (n c : Nat) (w : World) :
    Calls Try.prog 79 #[.slice A n c] w fun e w' => e = .returned (.func (.func 110) #[] #[.pointer (some ⟨w.heap.size, 0, none⟩)]) ∧ w.alloc (.cells #[.slice A n c] 27) = w' := by
  go_enter Try.func79, Try.ntmps79
  go_wp2
  go_ret
  exact ⟨rfl, rfl⟩

/-- A book that is taken: its index, and its pass. -/
abbrev PQ (n : Nat) := { q : Int × Int // 0 ≤ q.1 ∧ q.1 < (n : Int) }

set_option maxHeartbeats 8000000 in
theorem tk_stops (n : Nat) (hn : 1 ≤ n) (Bn : Nat) (v0 : Value) (xs : List Bk) (wf : ∀ b ∈ xs, b.Wf) (h60 : xs.length ≤ 60) (w : World) (hc : w.heap[Bn]? = some (.cells #[v0] 27 (0, 0))) (hs : SliceOf w v0 xs) :
    SeqStopsK Fence.wide n Try.prog 110 #[.pointer (some ⟨Bn, 0, none⟩)] (fun q : PQ xs.length => #[.int .i64 q.1.1, .int .i64 q.1.2]) KpI (fun ys => ys.map Subtype.val = psP xs) (fun _ => True) (psP xs).length w := by
  intro l J Jx W hW hJ hJx hY h0
  have c0 : W.cell? ⟨Bn, 0, none⟩ = some v0 := cell_of_row W Bn 0 _ _ _ ((hW.block _ (Array.getElem?_eq_some_iff.1 hc).1).trans hc)
  have HSW := Lib.hid (hs.below hW)
  have HY := Lib.hid hY
  have H0 := Lib.hid h0
  have HJ := Lib.hid hJ
  have WF := Lib.hid wf
  have SLN := Lib.hid (srt_length wf)
  have SIN := Lib.hid (fun (p : Nat) (h : p < (srt xs).length) => srt_in wf h)
  have P0 := Lib.hid (show (([] : List (PQ xs.length)).map Subtype.val) ++ psG ((srt xs).drop 0) 0 ((1 : Nat) : Int) = psP xs by rw [List.drop_zero]; rfl)
  clear hY h0 hJ hJx hc hs wf hW
  refine callsIn_of_wp Try.func110 rfl trivial ?_ rfl
  simp only [Try.ntmps110, List.size_toArray, List.length_cons, List.length_nil, Nat.reduceAdd, Nat.reduceSub, Array.replicate_succ, Array.replicate_zero, List.push_toArray, List.append_toArray, List.nil_append, List.cons_append]
  gi_wp2_with fail
  refine ⟨trivial, (callsIn_wide.2 (sortedIndices_any v0 xs WF.out _ HSW.out (by omega))).mono ?_⟩
  rintro e w1 ⟨A, cap, rfl, hsr, g1⟩
  have HR := Lib.hid (show 0 < xs.length → ∃ gs, A = some ⟨gs, 0, none⟩ ∧ RowI w1 gs xs.length (srt xs) by
    intro h0
    obtain ⟨gs, a, b, c⟩ := hsr h0
    exact ⟨gs, a, c⟩)
  have HJ1 := Lib.hid (HJ.out _ _ _ none H0.out (below_grown g1) (fun r e => by cases e))
  clear c0 hsr
  gi_wp2
  gi_loopw [3, 4, 10] (fun k_ b_ i_ wr => ∃ (p k : Nat) (b : Int) (pre : List (PQ xs.length)), p ≤ xs.length ∧ k ≤ p + 1 ∧ k_ = .int .i64 (k : Int) ∧ b_ = .int .i64 b ∧ i_ = .int .i64 (p : Int) ∧ pre.map Subtype.val ++ psG ((srt xs).drop p) b (k : Int) = psP xs ∧ (0 < xs.length → ∃ gs, A = some ⟨gs, 0, none⟩ ∧ RowI wr gs xs.length (srt xs)) ∧ J pre wr)
    (fun _ _ i_ _ => xs.length - (intOf i_).toNat)
  case atStart => exact ⟨0, 1, 0, [], Nat.zero_le _, Nat.le_refl _, rfl, rfl, rfl, P0.out, HR.out, HJ1.out⟩
  case round =>
    obtain ⟨p, k, b, pre, hp, hk, rfl, rfl, rfl, hx, hrow, hJs⟩ := hrel
    have HX := Lib.hid hx
    have HS := Lib.hid hJs
    have HRW := Lib.hid hrow
    clear hx hJs hrow
    by_cases hlt : p < xs.length
    · obtain ⟨gs, rfl, hr⟩ := HRW.out (by omega)
      have hps : p < (srt xs).length := by have := SLN.out; omega
      have q0 := hr.cell p hlt
      rw [getD_get hps] at q0
      have ha := SIN.out p hps
      have HRI := Lib.hid hr
      have SC := Lib.hid (psG_cons (b := b) (k := (k : Int)) hps)
      clear hr
      generalize (srt xs)[p] = a at q0 ha SC
      have ha1 := ha.1
      have ha2 := ha.2
      by_cases hab : a < b
      · have hd : decide (a < b) = true := by simpa using hab
        have hw : IntKind.i64.wrap ((k : Int) + 1) = (k : Int) + 1 := IntWalk.i64_in _ (by omega)
        have EK : psK a b (k : Int) = (k : Int) + 1 := by unfold psK; rw [if_pos hab]
        have HX := Lib.hid (show pre.map Subtype.val ++ (a, (k : Int) + 1) :: psG ((srt xs).drop (p + 1)) a ((k : Int) + 1) = psP xs by rw [← HX.out, SC.out, EK])
        obtain ⟨fn, tmps, assign, body, hy, hR⟩ := HY.out pre ⟨(a, (k : Int) + 1), ha⟩ wr HS.out (by rw [← HX.out]; simp)
        have hR := Lib.hid hR
        dsimp only at hy
        clear EK SC hab
        gi_wp2
        refine hR.out.mono ?_
        rintro e W3 (⟨rfl, hJ3, hk3⟩ | ⟨rfl, hJx3⟩)
        · have HR3 := Lib.hid (HRI.out.kp hk3)
          have HJ3 := Lib.hid hJ3
          clear hJ3 hy hk3 q0
          gi_wp2
          go_roundw
          case rel => exact ⟨p + 1, k + 1, a, pre ++ [⟨(a, (k : Int) + 1), ⟨ha1, ha2⟩⟩], by omega, by omega, by go_num, rfl, by go_num, by rw [← HX.out]; simp, fun _ => ⟨gs, rfl, HR3.out⟩, HJ3.out⟩
          case measure => simp [intOf]; omega
        · gi_wp2
          refine bodyPost_ret (results_none rfl _ _ _) rfl ?_
          exact ⟨⟨_, rfl⟩, .inr ⟨_, trivial, hJx3⟩⟩
      · have hd : decide (a < b) = false := by simpa using hab
        have EK : psK a b (k : Int) = (k : Int) := by unfold psK; rw [if_neg hab]
        have HX := Lib.hid (show pre.map Subtype.val ++ (a, (k : Int)) :: psG ((srt xs).drop (p + 1)) a (k : Int) = psP xs by rw [← HX.out, SC.out, EK])
        obtain ⟨fn, tmps, assign, body, hy, hR⟩ := HY.out pre ⟨(a, (k : Int)), ha⟩ wr HS.out (by rw [← HX.out]; simp)
        have hR := Lib.hid hR
        dsimp only at hy
        clear EK SC hab
        gi_wp2
        refine hR.out.mono ?_
        rintro e W3 (⟨rfl, hJ3, hk3⟩ | ⟨rfl, hJx3⟩)
        · have HR3 := Lib.hid (HRI.out.kp hk3)
          have HJ3 := Lib.hid hJ3
          clear hJ3 hy hk3 q0
          gi_wp2
          go_roundw
          case rel => exact ⟨p + 1, k, a, pre ++ [⟨(a, (k : Int)), ⟨ha1, ha2⟩⟩], by omega, by omega, rfl, rfl, by go_num, by rw [← HX.out]; simp, fun _ => ⟨gs, rfl, HR3.out⟩, HJ3.out⟩
          case measure => simp [intOf]; omega
        · gi_wp2
          refine bodyPost_ret (results_none rfl _ _ _) rfl ?_
          exact ⟨⟨_, rfl⟩, .inr ⟨_, trivial, hJx3⟩⟩
    · obtain rfl : p = xs.length := by omega
      have HX := Lib.hid (show pre.map Subtype.val = psP xs by rw [← HX.out, psG_nil (by rw [SLN.out]; exact Nat.le_refl _), List.append_nil])
      gi_wp2
      go_end0
      exact ⟨⟨_, rfl⟩, .inl ⟨pre, HX.out, HS.out⟩⟩

end Go.Proofs.Ytjfhpgomaahgoab
