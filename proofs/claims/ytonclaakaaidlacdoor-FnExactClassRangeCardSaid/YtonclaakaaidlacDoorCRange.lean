/- ClassRange, by the model and by the program: contracts. Condition: the three error variables hold three different errors of errors.New's make; at most 1048576 books. -/
import Derived.Test.YtonclaakaaidlacDoorAsked
import Derived.Test.YtonclaakaaidlacDoorClassW
namespace Go.Proofs.YtonclaakaaidlacDoor
set_option linter.unusedSimpArgs false
set_option linter.unusedVariables false
set_option maxRecDepth 100000
open Go.RowKit

def crCode (xs : List Bk) (lo hi : Int) : Int := if askS xs ≠ 0 then askS xs else if lo < 0 ∨ 999 < hi ∨ hi < lo then 2 else 0
def crA (xs : List Bk) (lo hi : Int) : Int := if crCode xs lo hi = 0 then (xs.findIdx (fun b => decide (lo ≤ b.c)) : Int) else 0
def crB (xs : List Bk) (lo hi : Int) : Int := if crCode xs lo hi = 0 then (xs.findIdx (fun b => decide (hi < b.c)) : Int) else 0
theorem cr_ask {xs : List Bk} {lo hi : Int} (h : askS xs ≠ 0) : crA xs lo hi = 0 ∧ crB xs lo hi = 0 ∧ crCode xs lo hi = askS xs := by
  have e : crCode xs lo hi = askS xs := by unfold crCode; rw [if_pos h]
  refine ⟨?_, ?_, e⟩
  · unfold crA; rw [e, if_neg h]
  · unfold crB; rw [e, if_neg h]
theorem cr_range {xs : List Bk} {lo hi : Int} (h : askS xs = 0) (h2 : lo < 0 ∨ 999 < hi ∨ hi < lo) : crA xs lo hi = 0 ∧ crB xs lo hi = 0 ∧ crCode xs lo hi = 2 := by
  have e : crCode xs lo hi = 2 := by unfold crCode; rw [if_neg (by omega), if_pos h2]
  refine ⟨?_, ?_, e⟩
  · unfold crA; rw [e]; rfl
  · unfold crB; rw [e]; rfl
theorem cr_ok {xs : List Bk} {lo hi : Int} (h : askS xs = 0) (h2 : ¬ (lo < 0 ∨ 999 < hi ∨ hi < lo)) : crA xs lo hi = (xs.findIdx (fun b => decide (lo ≤ b.c)) : Int) ∧ crB xs lo hi = (xs.findIdx (fun b => decide (hi < b.c)) : Int) ∧ crCode xs lo hi = 0 := by
  have e : crCode xs lo hi = 0 := by unfold crCode; rw [if_neg (by omega), if_neg h2]
  refine ⟨?_, ?_, e⟩
  · unfold crA; rw [e]; rfl
  · unfold crB; rw [e]; rfl
theorem cnt_low (xs : List Bk) (z : Int) {k : Nat} (h : k < xs.length) : (cntN (fun b => decide (z ≤ b.c)) xs (k + 1) : Int) = (cntN (fun b => decide (z ≤ b.c)) xs k : Int) + (if xs[k].c < z then 1 else 0) := by
  rw [cntN, getD_nth h]
  by_cases hz : z ≤ xs[k].c
  · rw [if_pos (decide_eq_true hz), if_neg (by omega)]; omega
  · rw [if_neg (by simpa using hz), if_pos (by omega)]; omega
theorem cnt_high (xs : List Bk) (z : Int) {k : Nat} (h : k < xs.length) : (cntN (fun b => decide (z < b.c)) xs (k + 1) : Int) = (cntN (fun b => decide (z < b.c)) xs k : Int) + (if xs[k].c ≤ z then 1 else 0) := by
  rw [cntN, getD_nth h]
  by_cases hz : z < xs[k].c
  · rw [if_pos (decide_eq_true hz), if_neg (by omega)]; omega
  · rw [if_neg (by simpa using hz), if_pos (by omega)]; omega

set_option maxHeartbeats 4000000 in
theorem specClassRange_any (v : Value) (xs : List Bk) (lo hi : Int) (wf : ∀ b ∈ xs, b.Wf) (w : World) (hs : SliceOf w v xs) (hm : xs.length ≤ maxLen) :
    Calls Tryd.prog 18 #[v, .int .i64 lo, .int .i64 hi] w fun e w' => e = .returned (.tuple #[.int .i64 (crA xs lo hi), .int .i64 (crB xs lo hi), .int .i64 (crCode xs lo hi)]) ∧ Below w.heap.size w w' := by
  have HS := Lib.hid hs
  have WF := Lib.hid wf
  obtain ⟨A, c, rfl, hs⟩ := hs
  have HAT := Lib.hid hs
  clear wf hs
  have L0 := Lib.hid (fun W => l01Class_any lo W)
  have L1 := Lib.hid (fun W => l01Class_any hi W)
  by_cases hk : askS xs = 0
  · have ASK := Lib.hid (l01Asked_any _ xs WF.out w HS.out hm)
    rw [hk] at ASK
    by_cases hr : lo < 0 ∨ 999 < hi ∨ hi < lo
    · obtain ⟨e1, e2, e3⟩ := cr_range hk hr
      have E1 := Lib.hid e1
      have E2 := Lib.hid e2
      have E3 := Lib.hid e3
      clear e1 e2 e3 hk
      cases ha : inB lo 0 999
      · rw [ha] at L0
        clear hr
        go_enter Tryd.func18, Tryd.ntmps18
        go_wp2_with fail
        refine ASK.out.mono ?_
        rintro e w1 ⟨rfl, h1⟩
        go_wp2_with (go_at_call 41; refine (L0.out _).mono ?_; rintro e w' ⟨rfl, rfl⟩)
        go_ret3
        exact ⟨by rw [E1.out, E2.out, E3.out]; rfl, h1⟩
      · rw [ha] at L0
        have hlo : 0 ≤ lo ∧ lo ≤ 999 := by unfold inB at ha; simpa using ha
        cases hb : inB hi 0 999
        · rw [hb] at L1
          clear hr hlo
          go_enter Tryd.func18, Tryd.ntmps18
          go_wp2_with fail
          refine ASK.out.mono ?_
          rintro e w1 ⟨rfl, h1⟩
          go_wp2_with (first | (go_at_call 41; refine (L0.out _).mono ?_; rintro e w' ⟨rfl, rfl⟩) | (go_at_call 41; refine (L1.out _).mono ?_; rintro e w' ⟨rfl, rfl⟩))
          go_ret3
          exact ⟨by rw [E1.out, E2.out, E3.out]; rfl, h1⟩
        · rw [hb] at L1
          have hhi : 0 ≤ hi ∧ hi ≤ 999 := by unfold inB at hb; simpa using hb
          have hlt : hi < lo := by omega
          clear hr hlo hhi
          go_enter Tryd.func18, Tryd.ntmps18
          go_wp2_with fail
          refine ASK.out.mono ?_
          rintro e w1 ⟨rfl, h1⟩
          go_wp2_with (first | (go_at_call 41; refine (L0.out _).mono ?_; rintro e w' ⟨rfl, rfl⟩) | (go_at_call 41; refine (L1.out _).mono ?_; rintro e w' ⟨rfl, rfl⟩))
          go_ret3
          exact ⟨by rw [E1.out, E2.out, E3.out]; rfl, h1⟩
    · obtain ⟨e1, e2, e3⟩ := cr_ok hk hr
      obtain ⟨hok, hfo⟩ := askS_ok hk
      have hno := sorted_none hfo
      have h60 : xs.length ≤ 60 := by unfold okB at hok; simp at hok; exact hok.2
      rw [← cntN_all (up_low WF.out hno lo)] at e1
      rw [← cntN_all (up_high WF.out hno hi)] at e2
      have E1 := Lib.hid e1
      have E2 := Lib.hid e2
      have E3 := Lib.hid e3
      have ha : inB lo 0 999 = true := by unfold inB; simp; omega
      have hb : inB hi 0 999 = true := by unfold inB; simp; omega
      have hlt : ¬ hi < lo := by omega
      rw [ha] at L0
      rw [hb] at L1
      clear e1 e2 e3 hk hr hok hfo hno ha hb
      go_enter Tryd.func18, Tryd.ntmps18
      go_wp2_with fail
      refine ASK.out.mono ?_
      rintro e w1 ⟨rfl, h1⟩
      go_wp2_with (first | (go_at_call 41; refine (L0.out _).mono ?_; rintro e w' ⟨rfl, rfl⟩) | (go_at_call 41; refine (L1.out _).mono ?_; rintro e w' ⟨rfl, rfl⟩))
      go_loopw [10, 11, 12] (fun f_ t_ i_ wr => ∃ k : Nat, k ≤ xs.length ∧ i_ = .int .i64 (k : Int) ∧ f_ = .int .i64 (cntN (fun b => decide (lo ≤ b.c)) xs k : Int) ∧ t_ = .int .i64 (cntN (fun b => decide (hi < b.c)) xs k : Int) ∧ wr = w1) (fun _ _ i_ _ => xs.length - (intOf i_).toNat)
      case atStart => exact ⟨0, Nat.zero_le _, rfl, rfl, rfl, rfl⟩
      case round =>
        obtain ⟨k, hk, rfl, rfl, rfl, rfl⟩ := hrel
        have cl := cntN_le (fun b => decide (lo ≤ b.c)) xs k
        have ch := cntN_le (fun b => decide (hi < b.c)) xs k
        by_cases hlx : k < xs.length
        · obtain ⟨ga, oa, rfl, hga, hat⟩ := HAT.out (by omega)
          obtain ⟨p0, p1, p2, p3, p4, p5, p6, p7⟩ := booksAt_some (hat.below h1 hga) hlx
          have wc := (WF.out _ (List.getElem_mem hlx)).c
          have SA := Lib.hid (cnt_low xs lo hlx)
          have SB := Lib.hid (cnt_high xs hi hlx)
          generalize cntN (fun b => decide (lo ≤ b.c)) xs k = f at *
          generalize cntN (fun b => decide (hi < b.c)) xs k = t at *
          generalize xs[k].c = z at *
          obtain ⟨wc1, wc2⟩ := wc
          have n1 : IntKind.i64.wrap z = z := IntWalk.i64_in _ (by omega)
          have n2 : IntKind.i64.wrap ((f : Int) + 1) = (f : Int) + 1 := IntWalk.i64_in _ (by omega)
          have n3 : IntKind.i64.wrap ((t : Int) + 1) = (t : Int) + 1 := IntWalk.i64_in _ (by omega)
          clear hat
          by_cases c1 : z < lo <;> by_cases c2 : z ≤ hi
          all_goals first | (exfalso; omega) | skip
          all_goals
            go_wp2
            go_roundw
            case rel => exact ⟨k + 1, by omega, by go_num, by rw [SA.out]; simp [c1], by rw [SB.out]; simp [c2], by first | rfl | trivial⟩
            case measure => simp [intOf]; omega
        · obtain rfl : k = xs.length := by omega
          go_wp2
          go_ret3
          exact ⟨by rw [E1.out, E2.out, E3.out]; rfl, h1⟩
  · obtain ⟨e1, e2, e3⟩ := cr_ask (lo := lo) (hi := hi) hk
    have E1 := Lib.hid e1
    have E2 := Lib.hid e2
    have E3 := Lib.hid e3
    have ASK := Lib.hid (l01Asked_any _ xs WF.out w HS.out hm)
    clear e1 e2 e3
    generalize askS xs = a at *
    have hk2 : (a == 0) = false := beq_eq_false_iff_ne.2 hk
    go_enter Tryd.func18, Tryd.ntmps18
    go_wp2_with fail
    refine ASK.out.mono ?_
    rintro e w1 ⟨rfl, h1⟩
    go_wp2
    go_ret3
    exact ⟨by rw [E1.out, E2.out, E3.out]; rfl, h1⟩

set_option maxHeartbeats 4000000 in
theorem classRange_any (v : Value) (xs : List Bk) (lo hi : Int) (wf : ∀ b ∈ xs, b.Wf) (w : World) (s i y : Addr) (he : Errs w s i y) (hs : SliceOf w v xs) (hn : xs.length ≤ 1048576) (hm : xs.length ≤ maxLen) :
    Calls Tryd.prog 19 #[v, .int .i64 lo, .int .i64 hi] w fun e w' => e = .returned (.tuple #[.int .i64 (crA xs lo hi), .int .i64 (crB xs lo hi), .int .i64 (crCode xs lo hi)]) ∧ Below w.heap.size w w' := by
  have HS := Lib.hid hs
  have WF := Lib.hid wf
  have HE := Lib.hid he
  obtain ⟨A, c, rfl, -⟩ := hs
  have isi : Tryd.prog.isIface 51 = true := by kernel_rfl
  have en := fun (X : World) (v : Value) => run_neq_iface_nil (P := Tryd.prog) (w := X) 51 isi 113 v
  have en0 := fun (X : World) => run_neq_nil_nil_at (P := Tryd.prog) (w := X) 51 isi
  clear wf he
  by_cases hk : askS xs = 0
  · have EV : errV xs s i = .nilIface := by unfold errV; rw [hk]; rfl
    by_cases hr : lo < 0 ∨ 999 < hi ∨ hi < lo
    · obtain ⟨e1, e2, e3⟩ := cr_range hk hr
      have E1 := Lib.hid e1
      have E2 := Lib.hid e2
      have E3 := Lib.hid e3
      clear e1 e2 e3 hk
      have hcs : lo < 0 ∨ (¬ lo < 0 ∧ 999 < hi) ∨ (¬ lo < 0 ∧ ¬ 999 < hi ∧ hi < lo) := by omega
      clear hr
      rcases hcs with hc | ⟨hc, hc2⟩ | ⟨hc, hc2, hc3⟩
      all_goals
        go_enter Tryd.func19, Tryd.ntmps19
        go_wp2_with fail
        generalize hw0 : World.alloc _ _ = W
        have g0 : Below w.heap.size w W := by rw [← hw0]; clear hw0; go_grown
        have q0 : W.cell? ⟨w.heap.size, 0, none⟩ = some (.int .i64 lo) := by rw [← hw0]; clear hw0; go_simp
        have q1 : W.cell? ⟨w.heap.size + 1, 0, none⟩ = some (.int .i64 hi) := by rw [← hw0]; clear hw0; go_simp
        have q2 : W.cell? ⟨w.heap.size + 2, 0, none⟩ = some (.slice A xs.length c) := by rw [← hw0]; clear hw0; go_simp
        have z2 : w.heap.size + 2 < W.heap.size := by rw [← hw0]; clear hw0; simp
        clear hw0
        refine (checkSorted_any _ xs WF.out W (w.heap.size + 2) s i y (HE.out.below g0) q2 z2 (HS.out.below g0) hn hm).mono ?_
        rintro e w1 ⟨rfl, h1⟩
        rw [EV]
        have q0 := (h1.cell (p := ⟨w.heap.size, 0, none⟩) (by show w.heap.size < _; omega)).trans q0
        have q1 := (h1.cell (p := ⟨w.heap.size + 1, 0, none⟩) (by show w.heap.size + 1 < _; omega)).trans q1
        clear q2
        go_wp2
        go_ret3
        exact ⟨by rw [E1.out, E2.out, E3.out]; rfl, bnext g0 h1⟩
    · obtain ⟨e1, e2, e3⟩ := cr_ok hk hr
      obtain ⟨hok, hfo⟩ := askS_ok hk
      have h60 : xs.length ≤ 60 := by unfold okB at hok; simp at hok; exact hok.2
      have E1 := Lib.hid e1
      have E2 := Lib.hid e2
      have E3 := Lib.hid e3
      have hc : ¬ lo < 0 := by omega
      have hc2 : ¬ 999 < hi := by omega
      have hc3 : ¬ hi < lo := by omega
      clear e1 e2 e3 hk hr hok hfo
      go_enter Tryd.func19, Tryd.ntmps19
      go_wp2_with fail
      generalize hw0 : World.alloc _ _ = W
      have g0 : Below w.heap.size w W := by rw [← hw0]; clear hw0; go_grown
      have q0 : W.cell? ⟨w.heap.size, 0, none⟩ = some (.int .i64 lo) := by rw [← hw0]; clear hw0; go_simp
      have q1 : W.cell? ⟨w.heap.size + 1, 0, none⟩ = some (.int .i64 hi) := by rw [← hw0]; clear hw0; go_simp
      have q2 : W.cell? ⟨w.heap.size + 2, 0, none⟩ = some (.slice A xs.length c) := by rw [← hw0]; clear hw0; go_simp
      have z2 : w.heap.size + 2 < W.heap.size := by rw [← hw0]; clear hw0; simp
      clear hw0
      refine (checkSorted_any _ xs WF.out W (w.heap.size + 2) s i y (HE.out.below g0) q2 z2 (HS.out.below g0) hn hm).mono ?_
      rintro e w1 ⟨rfl, h1⟩
      rw [EV]
      have z1 := h1.size
      have q0 := (h1.cell (p := ⟨w.heap.size, 0, none⟩) (by show w.heap.size < _; omega)).trans q0
      have q1 := (h1.cell (p := ⟨w.heap.size + 1, 0, none⟩) (by show w.heap.size + 1 < _; omega)).trans q1
      have Q0 := Lib.hid q0
      have Q1 := Lib.hid q1
      have g1 := Lib.hid (bnext g0 h1)
      clear q2
      go_wp2_with fail
      refine (first_low _ xs lo w.heap.size WF.out w1 (HS.out.below g1.out) h60 Q0.out (by omega)).mono ?_
      rintro e w2 ⟨rfl, h2⟩
      have q1' := Lib.hid ((h2.cell (p := ⟨w.heap.size + 1, 0, none⟩) (by show w.heap.size + 1 < _; omega)).trans Q1.out)
      have z3 := h2.size
      clear q0 q1
      go_wp2_with fail
      refine (first_high _ xs hi (w.heap.size + 1) WF.out w2 (HS.out.below (bnext g1.out h2)) h60 q1'.out (by omega)).mono ?_
      rintro e w3 ⟨rfl, h3⟩
      go_wp2
      go_ret3
      exact ⟨by rw [E1.out, E2.out, E3.out]; rfl, bnext (bnext g1.out h2) h3⟩
  · obtain ⟨e1, e2, e3⟩ := cr_ask (lo := lo) (hi := hi) hk
    have E1 := Lib.hid e1
    have E2 := Lib.hid e2
    clear e1 e2
    have h14 : askS xs = 1 ∨ askS xs = 4 := by
      unfold askS at hk ⊢
      split
      · split
        · rename_i h1 h2; rw [if_pos h1, if_pos h2] at hk; exact absurd rfl hk
        · exact .inr rfl
      · exact .inl rfl
    rcases h14 with h1 | h1
    · have EV : errV xs s i = .iface 113 (.pointer (some i)) := by unfold errV; rw [if_pos h1]
      have E3 := Lib.hid (e3.trans h1)
      clear e3 h1 hk
      go_enter Tryd.func19, Tryd.ntmps19
      go_wp2_with fail
      generalize hw0 : World.alloc _ _ = W
      have g0 : Below w.heap.size w W := by rw [← hw0]; clear hw0; go_grown
      have q2 : W.cell? ⟨w.heap.size + 2, 0, none⟩ = some (.slice A xs.length c) := by rw [← hw0]; clear hw0; go_simp
      have z2 : w.heap.size + 2 < W.heap.size := by rw [← hw0]; clear hw0; simp
      clear hw0
      refine (checkSorted_any _ xs WF.out W (w.heap.size + 2) s i y (HE.out.below g0) q2 z2 (HS.out.below g0) hn hm).mono ?_
      rintro e w1 ⟨rfl, h1⟩
      rw [EV]
      clear q2
      go_wp2_with fail
      refine (codeOf_invalid _ s i y (HE.out.below (bnext g0 h1))).mono ?_
      rintro e w2 ⟨rfl, rfl⟩
      go_wp2
      go_ret3
      exact ⟨by rw [E1.out, E2.out, E3.out]; rfl, bnext g0 h1⟩
    · have EV : errV xs s i = .iface 113 (.pointer (some s)) := by unfold errV; rw [if_neg (by omega), if_pos h1]
      have E3 := Lib.hid (e3.trans h1)
      clear e3 h1 hk
      go_enter Tryd.func19, Tryd.ntmps19
      go_wp2_with fail
      generalize hw0 : World.alloc _ _ = W
      have g0 : Below w.heap.size w W := by rw [← hw0]; clear hw0; go_grown
      have q2 : W.cell? ⟨w.heap.size + 2, 0, none⟩ = some (.slice A xs.length c) := by rw [← hw0]; clear hw0; go_simp
      have z2 : w.heap.size + 2 < W.heap.size := by rw [← hw0]; clear hw0; simp
      clear hw0
      refine (checkSorted_any _ xs WF.out W (w.heap.size + 2) s i y (HE.out.below g0) q2 z2 (HS.out.below g0) hn hm).mono ?_
      rintro e w1 ⟨rfl, h1⟩
      rw [EV]
      clear q2
      go_wp2_with fail
      refine (codeOf_state _ s i y (HE.out.below (bnext g0 h1))).mono ?_
      rintro e w2 ⟨rfl, rfl⟩
      go_wp2
      go_ret3
      exact ⟨by rw [E1.out, E2.out, E3.out]; rfl, bnext g0 h1⟩

end Go.Proofs.YtonclaakaaidlacDoor
