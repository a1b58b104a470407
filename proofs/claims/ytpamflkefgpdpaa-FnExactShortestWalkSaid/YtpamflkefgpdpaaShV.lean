/- A list's values, collected: the iterator, contracts. Condition: at most 100 numbers. -/
import Derived.RangeFuncNested
import Derived.RangeFuncBound
import Derived.RangeFuncCalls
import Derived.RangeFuncLeaves
import Derived.Shelf.Abstract
import Derived.Shelf.RegionOpen
import Derived.OwnWalkIn
import Derived.TacticsInMore
import Derived.LoopNIn
import Derived.LoopIn
import Derived.Test.YtpamflkefgpdpaaShS2
namespace Go.Proofs.Ytpamflkefgpdpaa
set_option linter.unusedSimpArgs false
set_option linter.unusedVariables false
set_option maxRecDepth 100000
open Go.RowKit Go.Shelf
attribute [local go_sem] Oper.semAt_some

/-- What a round that goes on keeps: all blocks below B. -/
def KpV (B : Nat) (W W' : World) : Prop := W.heap.size ≤ W'.heap.size ∧ ∀ g, g < B → W'.heap[g]? = W.heap[g]?
theorem kpV_t {B : Nat} {X Y Z : World} (h : KpV B X Y) (k : KpV B Y Z) : KpV B X Z := ⟨Nat.le_trans h.1 k.1, fun g hg => (k.2 g hg).trans (h.2 g hg)⟩
theorem kpV_b {B : Nat} {w : World} (hB : B ≤ w.heap.size) (W : World) (l : Nat) (o o' : Obj) (hl : w.heap.size ≤ l) (_ : W.heap[l]? = some o) (_ : o.isCells = false) (_ : o.isWalk = false) : KpV B W (W.putObj l o') :=
  ⟨by simp, fun g hg => World.putObj_heap_other (by omega)⟩
theorem kpV_below {B : Nat} {W W' : World} (h : Below B W W') : KpV B W W' := ⟨h.size, h.block⟩

/-- An index, on the way up. -/
abbrev VQ (hs : List Int) := { i : Nat // i < hs.length }
def vwE (hs : List Int) (q : VQ hs) : Array Value := #[.int .i64 (hs[q.1]'q.2)]
set_option maxHeartbeats 1000000 in
theorem values_any (A : Option Addr) (n c : Nat) (w : World) :
    Calls Try.prog 64 #[.slice A n c] w fun e w' => e = .returned (.func (.func 95) #[] #[.pointer (some ⟨w.heap.size, 0, none⟩)]) ∧ w.alloc (.cells #[.slice A n c] 22) = w' := by
  go_enter Try.func64, Try.ntmps64
  go_wp2
  go_ret
  exact ⟨rfl, rfl⟩
theorem cell_of_blockV {W W' : World} {g : Nat} (h : W'.heap[g]? = W.heap[g]?) (o : Nat) : W'.cell? ⟨g, o, none⟩ = W.cell? ⟨g, o, none⟩ := by simp [World.cell?, h]
/-- The numbers of a list lie where they lay. -/
def IntsV (W : World) (B : Nat) (A : Option Addr) (hs : List Int) : Prop := 0 < hs.length → ∃ g o, A = some ⟨g, o, none⟩ ∧ g < B ∧ ∀ (k : Nat) (hk : k < hs.length), W.cell? ⟨g, o + k, none⟩ = some (.int .i64 hs[k])
theorem IntsV.kp {W W' : World} {B : Nat} {A : Option Addr} {hs : List Int} (h : IntsV W B A hs) (hk : KpV B W W') : IntsV W' B A hs := fun h0 => by
  obtain ⟨g, o, e, hg, hc⟩ := h h0
  refine ⟨g, o, e, hg, fun k hlt => ?_⟩
  rw [← hc k hlt]
  exact cell_of_blockV (hk.2 g hg) _
set_option maxHeartbeats 8000000 in
theorem vw_stops (n : Nat) (hn : 1 ≤ n) (B Bn : Nat) (A : Option Addr) (c : Nat) (hs : List Int) (w : World) (hc : w.heap[Bn]? = some (.cells #[.slice A hs.length c] 22 (0, 0))) (hbn : Bn < B) (hi : IntsV w B A hs) (hB : B ≤ w.heap.size) (hlen : hs.length ≤ 100) :
    SeqStopsK Fence.wide n Try.prog 95 #[.pointer (some ⟨Bn, 0, none⟩)] (vwE hs) (KpV B) (fun ys => ys.map Subtype.val = List.range hs.length) (fun _ => True) hs.length w := by
  intro l J Jx W hW hJ hJx hY h0
  have HC := Lib.hid ((hW.block _ (Array.getElem?_eq_some_iff.1 hc).1).trans hc)
  have HI := Lib.hid (hi.kp (kpV_below (hW.mono hB)))
  have c0 : W.cell? ⟨Bn, 0, none⟩ = some (.slice A hs.length c) := cell_of_row W Bn 0 _ _ _ HC.out
  have HY := Lib.hid hY
  have H0 := Lib.hid h0
  clear hY h0 hJ hJx hc hi
  refine callsIn_of_wp Try.func95 rfl trivial ?_ rfl
  simp only [Try.ntmps95, List.size_toArray, List.length_cons, List.length_nil, Nat.reduceAdd, Nat.reduceSub, Array.replicate_succ, Array.replicate_zero, List.push_toArray, List.append_toArray, List.nil_append, List.cons_append]
  gi_wp2
  clear c0
  gi_loopw [7] (fun i_ wr => ∃ (i : Nat) (pre : List (VQ hs)), i ≤ hs.length ∧ i_ = .int .i64 (i : Int) ∧ pre.map Subtype.val = List.range i ∧ wr.heap[Bn]? = some (.cells #[.slice A hs.length c] 22 (0, 0)) ∧ IntsV wr B A hs ∧ J pre wr) (fun i_ _ => hs.length - (intOf i_).toNat)
  case atStart => exact ⟨0, [], Nat.zero_le _, rfl, rfl, HC.out, HI.out, H0.out⟩
  case round =>
    obtain ⟨i, pre, hi, rfl, hx, hbx, hik, hJs⟩ := hrel
    have HX := Lib.hid hx
    have HBX := Lib.hid hbx
    have HIK := Lib.hid hik
    have HS := Lib.hid hJs
    clear hx hbx hik hJs
    have c0 : wr.cell? ⟨Bn, 0, none⟩ = some (.slice A hs.length c) := cell_of_row wr Bn 0 _ _ _ HBX.out
    by_cases hj : i < hs.length
    · obtain ⟨g, o, rfl, hg, hcs⟩ := HIK.out (by omega)
      have q0 := hcs i hj
      obtain ⟨fn, tmps, assign, body, hy, hR⟩ := HY.out pre ⟨i, hj⟩ wr HS.out (by
        have := congrArg List.length HX.out
        simp at this
        omega)
      have hR := Lib.hid hR
      unfold vwE at hy
      dsimp only at hy
      clear hcs
      gi_wp2
      refine hR.out.mono ?_
      rintro e W3 (⟨rfl, hJ3, hk3⟩ | ⟨rfl, hJx3⟩)
      · have HB3 := Lib.hid ((hk3.2 _ hbn).trans HBX.out)
        have HI3 := Lib.hid (HIK.out.kp hk3)
        have HJ3 := Lib.hid hJ3
        clear hJ3 hy hk3 q0 c0
        gi_wp2
        go_roundw
        case rel => exact ⟨i + 1, pre ++ [⟨i, hj⟩], by omega, by go_num, by rw [List.map_append, HX.out, List.range_succ]; rfl, HB3.out, HI3.out, HJ3.out⟩
        case measure => simp [intOf] <;> omega
      · gi_wp2
        refine bodyPost_ret (results_none rfl _ _ _) rfl ?_
        exact ⟨⟨_, rfl⟩, .inr ⟨_, trivial, hJx3⟩⟩
    · obtain rfl : i = hs.length := by omega
      gi_wp2
      go_end0
      exact ⟨⟨_, rfl⟩, .inl ⟨pre, HX.out, HS.out⟩⟩
end Go.Proofs.Ytpamflkefgpdpaa
