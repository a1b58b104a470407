/- NextDue: which copy is due next; by the model: contract. Condition: no longer than slices can be, numbers within their kinds. -/
import Derived.Test.YtmafjncaigllbaaDkQ
import Derived.Deep.Quiet
namespace Go.Proofs.Ytmafjncaigllbaa
set_option linter.unusedSimpArgs false
set_option linter.unusedVariables false
set_option maxRecDepth 100000
open Go.RowKit

def lentB (c : Cp) : Bool := decide (c.st = 1)
def dueAt (cs : List Cp) (j : Int) : Int := (cs.getD j.toNat default).due
theorem dueAt_nat {cs : List Cp} {j : Nat} (h : j < cs.length) : dueAt cs (j : Int) = cs[j].due := by
  unfold dueAt
  simp [List.getD, List.getElem?_eq_getElem h]
def nStep (cs : List Cp) (m x : Int) : Int := if m < 0 ∨ dueAt cs x < dueAt cs m then x else m
def nMin (cs : List Cp) (l : List Int) : Int := l.foldl (nStep cs) (-1)
theorem nMin_nil (cs : List Cp) : nMin cs [] = -1 := rfl
theorem nMin_snoc (cs : List Cp) (l : List Int) (x : Int) : nMin cs (l ++ [x]) = nStep cs (nMin cs l) x := by simp [nMin]
theorem nFold_mem (cs : List Cp) : ∀ (l : List Int) (m : Int), l.foldl (nStep cs) m = m ∨ l.foldl (nStep cs) m ∈ l
  | [], m => .inl rfl
  | x :: l, m => by
    rcases nFold_mem cs l (nStep cs m x) with h | h
    · rw [List.foldl_cons, h]
      unfold nStep
      split
      · exact .inr (List.mem_cons_self ..)
      · exact .inl rfl
    · exact .inr (by rw [List.foldl_cons]; exact List.mem_cons_of_mem _ h)
theorem nMin_mem (cs : List Cp) {l : List Int} (h : l ≠ []) : nMin cs l ∈ l := by
  cases l with
  | nil => exact absurd rfl h
  | cons x l =>
    have e : nMin cs (x :: l) = l.foldl (nStep cs) x := by unfold nMin; rw [List.foldl_cons]; unfold nStep; simp
    rw [e]
    rcases nFold_mem cs l x with h2 | h2
    · rw [h2]; exact List.mem_cons_self ..
    · exact List.mem_cons_of_mem _ h2
theorem nMin_to (cs : List Cp) (p : Cp → Bool) (k : Nat) : (whTo cs p k = [] ∧ nMin cs (whTo cs p k) = -1) ∨ (whTo cs p k ≠ [] ∧ ∃ j : Nat, j < cs.length ∧ nMin cs (whTo cs p k) = (j : Int)) := by
  by_cases h : whTo cs p k = []
  · exact .inl ⟨h, by rw [h]; rfl⟩
  · obtain ⟨_, _, j, hj, e, _⟩ := whTo_mem k _ (nMin_mem cs h)
    exact .inr ⟨h, j, hj, e⟩
theorem nStep_new {cs : List Cp} {m x : Int} (h : m < 0) : nStep cs m x = x := by unfold nStep; rw [if_pos (.inl h)]
theorem nStep_less {cs : List Cp} {m x : Int} (h : dueAt cs x < dueAt cs m) : nStep cs m x = x := by unfold nStep; rw [if_pos (.inr h)]
theorem nStep_old {cs : List Cp} {m x : Int} (h1 : 0 ≤ m) (h2 : ¬ dueAt cs x < dueAt cs m) : nStep cs m x = m := by unfold nStep; rw [if_neg (fun h => by rcases h with h | h <;> omega)]
def ndI (cs : List Cp) : Int := if wh cs lentB = [] then 0 else nMin cs (wh cs lentB)
def ndD (cs : List Cp) : Int := if wh cs lentB = [] then 0 else dueAt cs (nMin cs (wh cs lentB))
def ndC (k : Int) (cs : List Cp) : Int := if k = 0 then (if wh cs lentB = [] then 6 else 0) else k

set_option maxHeartbeats 8000000 in
theorem specNextDue_any (d : Dk) (hv : Value) (wf : d.Wf ∧ ∀ c ∈ d.cs, c.q.length ≤ maxLen) (w : World) (hs : CpsOf w hv d.cs) (hn : d.cs.length ≤ maxLen) :
    Calls Try.prog 37 #[.agg #[.int .i16 d.day, hv]] w fun e w' => e = .returned (.tuple #[.int .i64 (ndI (cnCs d 0)), .int .i64 (ndD (cnCs d 0)), .int .i64 (ndC (cnC d 0) (cnCs d 0))]) ∧ Below w.heap.size w w' := by
  have HD := Lib.hid (DkAt.new (t := 30) hs)
  have WF := Lib.hid wf
  have OK := Lib.hid (fun W (h : DkAt W w.heap.size d hv) => l06Ok_any d hv wf w.heap.size W h hn)
  obtain ⟨A, c, rfl, -⟩ := hs
  have G0 := Lib.hid (show Below w.heap.size w (w.alloc (.cells #[.int .i16 d.day, .slice A d.cs.length c] 30)) from (Below.refl _ _).alloc (Nat.le_refl _) _)
  clear wf
  rcases cn_cases d 0 with ⟨h1, h2, -, h4⟩ | ⟨h1, hp, h2, -, h4⟩ | ⟨h1, hp, h2, -, h4⟩
  · rw [h2, h4]
    rw [h1] at OK
    clear h1 h2 h4
    go_enter Try.func37, Try.ntmps37
    go_wp2_with fail
    generalize World.alloc w _ = W at HD G0 ⊢
    refine (OK.out _ HD.out).mono ?_
    rintro e w1 ⟨rfl, g1⟩
    have G1 := Lib.hid (bnext G0.out g1)
    go_wp2
    go_ret3
    exact ⟨rfl, G1.out⟩
  · exact absurd hp (by decide)
  · rw [h2, h4]
    rw [h1] at OK
    have h60 := dk_60 h1
    clear h1 h2 h4
    go_enter Try.func37, Try.ntmps37
    go_wp2_with fail
    generalize World.alloc w _ = W at HD G0 ⊢
    refine (OK.out _ HD.out).mono ?_
    rintro e w1 ⟨rfl, g1⟩
    have G1 := Lib.hid (bnext G0.out g1)
    have HD1 := Lib.hid (HD.out.below g1)
    clear g1 hp
    go_wp2
    go_loopw [5, 6] (fun j_ i_ wr => ∃ i : Nat, i ≤ d.cs.length ∧ i_ = .int .i64 (i : Int) ∧ j_ = .int .i64 (nMin d.cs (whTo d.cs lentB i)) ∧ Below w1.heap.size w1 wr) (fun _ i_ _ => d.cs.length - (intOf i_).toNat)
    case atStart => exact ⟨0, Nat.zero_le _, rfl, rfl, Below.refl _ _⟩
    case round =>
      obtain ⟨i, hi, rfl, rfl, hb⟩ := hrel
      have HB := Lib.hid hb
      obtain ⟨b0, b1, hg2, hs⟩ := HD1.out.below hb
      have HS := Lib.hid hs
      clear hb hs
      by_cases hlt : i < d.cs.length
      · obtain ⟨ga, oa, rfl, hga, p0, -, p2, -, -⟩ := HS.out.in0 hlt
        have DX := dueAt_nat hlt
        have WY := Lib.hid (fun h => whTo_yes (p := lentB) hlt h)
        have WN := Lib.hid (fun h => whTo_no (p := lentB) hlt h)
        by_cases h1 : d.cs[i].st = 1
        · have YS := Lib.hid (show nMin d.cs (whTo d.cs lentB (i + 1)) = nStep d.cs (nMin d.cs (whTo d.cs lentB i)) (i : Int) by rw [WY.out (by simp [lentB, h1]), nMin_snoc])
          rw [h1] at p0
          clear h1 WY WN
          rcases nMin_to d.cs lentB i with ⟨-, hm⟩ | ⟨-, j, hj, hm⟩
          · rw [hm] at YS
            rw [hm]
            have E := Lib.hid (YS.out.trans (nStep_new (by decide)))
            clear hm DX
            go_wp2
            go_quiet (fail)
            clear p0 p2 b0 b1
            go_wp2
            go_roundw
            case rel => exact ⟨i + 1, by omega, by go_num, by rw [E.out], below_drewN HB.out _⟩
            case measure => simp [intOf]; omega
          · rw [hm] at YS
            rw [hm]
            have DY := dueAt_nat hj
            obtain ⟨ga', oa', e', -, -, -, q2, -, -⟩ := HS.out.in0 hj
            cases e'
            by_cases hlq : d.cs[i].due < d.cs[j].due
            · have E := Lib.hid (YS.out.trans (nStep_less (by rw [DX, DY]; exact hlq)))
              have hd : decide (d.cs[i].due < d.cs[j].due) = true := decide_eq_true hlq
              generalize d.cs[i].due = x at *
              generalize d.cs[j].due = y at *
              clear hm DX DY YS
              go_wp2
              go_quiet (fail)
              clear p0 p2 b0 b1 q2 hd hlq
              go_wp2
              go_roundw
              case rel => exact ⟨i + 1, by omega, by go_num, by rw [E.out], below_drewN HB.out _⟩
              case measure => simp [intOf]; omega
            · have E := Lib.hid (YS.out.trans (nStep_old (by omega) (by rw [DX, DY]; exact hlq)))
              have hd : decide (d.cs[i].due < d.cs[j].due) = false := decide_eq_false hlq
              generalize d.cs[i].due = x at *
              generalize d.cs[j].due = y at *
              clear hm DX DY YS
              go_wp2
              go_quiet (fail)
              clear p0 p2 b0 b1 q2 hd hlq
              go_wp2
              go_roundw
              case rel => exact ⟨i + 1, by omega, by go_num, by rw [E.out], below_drewN HB.out _⟩
              case measure => simp [intOf]; omega
        · have E := Lib.hid (show nMin d.cs (whTo d.cs lentB (i + 1)) = nMin d.cs (whTo d.cs lentB i) by rw [WN.out (by simp [lentB, h1])])
          have hd : (d.cs[i].st == 1) = false := by simpa using h1
          generalize d.cs[i].st = x at *
          clear h1 WY WN DX
          generalize nMin d.cs (whTo d.cs lentB i) = m at *
          go_wp2
          go_quiet (fail)
          clear p0 p2 b0 b1 hd
          go_wp2
          go_roundw
          case rel => exact ⟨i + 1, by omega, by go_num, by rw [E.out], below_drewN HB.out _⟩
          case measure => simp [intOf]; omega
      · obtain rfl : i = d.cs.length := by omega
        have NT := nMin_to d.cs lentB d.cs.length
        rw [show whTo d.cs lentB d.cs.length = wh d.cs lentB from rfl] at NT ⊢
        rcases NT with ⟨h0, hm⟩ | ⟨h0, j, hj, hm⟩
        · have E := Lib.hid (show ndI d.cs = 0 ∧ ndD d.cs = 0 ∧ ndC 0 d.cs = 6 by unfold ndI ndD ndC; rw [if_pos h0, if_pos h0, if_pos rfl, if_pos h0]; exact ⟨rfl, rfl, rfl⟩)
          rw [hm]
          clear h0 hm
          go_wp2
          go_ret3
          exact ⟨by rw [E.out.1, E.out.2.1, E.out.2.2]; rfl, bnext G1.out HB.out⟩
        · have E := Lib.hid (show ndI d.cs = (j : Int) ∧ ndD d.cs = d.cs[j].due ∧ ndC 0 d.cs = 0 by unfold ndI ndD ndC; rw [if_neg h0, if_neg h0, if_pos rfl, if_neg h0, hm, dueAt_nat hj]; exact ⟨rfl, rfl, rfl⟩)
          obtain ⟨ga, oa, rfl, hga, -, -, q2, -, -⟩ := HS.out.in0 hj
          obtain ⟨r1, r2⟩ := (WF.out.1.cs _ (List.getElem_mem hj)).due
          rw [hm]
          generalize d.cs[j].due = x at *
          clear h0 hm
          go_wp2
          go_quiet (fail)
          clear b0 b1 q2
          go_wp2
          go_ret3
          exact ⟨by rw [E.out.1, E.out.2.1, E.out.2.2]; rfl, below_drewN (bnext G1.out HB.out) _⟩
end Go.Proofs.Ytmafjncaigllbaa
