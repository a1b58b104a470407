/- The model's tests of people, of queues and of copies: contracts. Condition: queues no longer than can be, numbers within their kinds. -/
import Derived.Test.YtmafjncaigllbabDkP
namespace Go.Proofs.Ytmafjncaigllbab
set_option linter.unusedSimpArgs false
set_option linter.unusedVariables false
set_option maxRecDepth 100000
open Go.RowKit

theorem quiet_same_d {P : Program} {f : FuncId} {args : Array Value} {w : World} {n : Nat} {v : Value}
    (h : Calls P f args (w.drewN n) fun e w' => e = .returned v ∧ w.drewN n = w') : Calls P f args (w.drewN n) fun e w'' => e = .returned v ∧ ∃ m, w'' = w.drewN m :=
  h.mono fun _ _ ⟨he, hm⟩ => ⟨he, n, hm.symm⟩
theorem quiet_in_d {P : Program} {f : FuncId} {args : Array Value} {w : World} {n : Nat} {v u : Value} (hv : v = u)
    (h : Calls P f args (w.drewN n) fun e w' => e = .returned v ∧ w.drewN n = w') : Calls P f args (w.drewN n) fun e w'' => e = .returned u ∧ ∃ m, w'' = w.drewN m :=
  h.mono fun _ _ ⟨he, hm⟩ => ⟨by rw [← hv]; exact he, n, hm.symm⟩

set_option maxHeartbeats 400000 in
theorem l06Person_any (n : Int) (w : World) :
    Calls Try.prog 18 #[.int .i64 n] w fun e w' => e = .returned (.bool (perB n)) ∧ w = w' := by
  go_enter Try.func18, Try.ntmps18
  go_wp2_with fail
  refine (l00In_any _ _ _ _).mono ?_
  rintro e w' ⟨rfl, rfl⟩
  go_wp2
  go_ret
  exact ⟨rfl, rfl⟩

set_option maxHeartbeats 2000000 in
theorem l06Place_any (v : Value) (q : List Int) (who : Int) (w : World) (hs : IntsOf .i8 w v q) (hq : ∀ z ∈ q, -128 ≤ z ∧ z ≤ 127) (hn : q.length ≤ maxLen) :
    Calls Try.prog 41 #[v, .int .i64 who] w fun e w' => e = .returned (.int .i64 (placeI q who)) ∧ w = w' := by
  obtain ⟨A, c, rfl, hs⟩ := hs
  have HS := Lib.hid hs
  have HQ := Lib.hid hq
  unfold maxLen at hn
  clear hs hq
  go_enter Try.func41, Try.ntmps41
  go_wp2
  go_loopw [5] (fun i wr => ∃ k : Nat, k ≤ q.length ∧ i = .int .i64 k ∧ NoTo q who k ∧ wr = w) (fun i _ => q.length - (intOf i).toNat)
  case atStart => exact ⟨0, Nat.zero_le _, rfl, NoTo.zero _ _, rfl⟩
  case round =>
    obtain ⟨k, hk, rfl, hno, rfl⟩ := hrel
    have HN := Lib.hid hno
    clear hno
    by_cases hlt : k < q.length
    · obtain ⟨g, o, rfl, hg, hat⟩ := HS.out (by omega)
      have p0 := hat k hlt
      obtain ⟨b1, b2⟩ := HQ.out _ (List.getElem_mem hlt)
      clear hat
      by_cases he : q[k] = who
      · have E := Lib.hid (placeI_at hlt HN.out he)
        go_wp2
        go_ret
        exact ⟨by rw [E.out]; rfl, rfl⟩
      · have H1 := Lib.hid (HN.out.succ hlt he)
        go_wp2
        go_roundw
        case rel => exact ⟨k + 1, by omega, by go_num, H1.out, by first | rfl | trivial⟩
        case measure => simp [intOf]; omega
    · obtain rfl : k = q.length := by omega
      have E := Lib.hid (placeI_none HN.out)
      go_wp2
      go_ret
      exact ⟨by rw [E.out]; rfl, rfl⟩

/-- A copy lies from cell o of block g on. -/
def CpIn (w : World) (g o : Nat) (c : Cp) : Prop := w.cell? ⟨g, o, none⟩ = some (.int .i8 c.st) ∧ w.cell? ⟨g, o + 1, none⟩ = some (.int .i8 c.who) ∧ w.cell? ⟨g, o + 2, none⟩ = some (.int .i16 c.due) ∧ w.cell? ⟨g, o + 3, none⟩ = some (.int .i8 c.ren) ∧ ∃ u, w.cell? ⟨g, o + 4, none⟩ = some u ∧ IntsOf .i8 w u c.q
theorem CpIn.below {w w' : World} {g o : Nat} {c : Cp} (h : CpIn w g o c) (hb : Below w.heap.size w w') (hg : g < w.heap.size) : CpIn w' g o c := by
  obtain ⟨h0, h1, h2, h3, u, h4, h5⟩ := h
  exact ⟨(hb.cell (p := ⟨g, _, none⟩) hg).trans h0, (hb.cell (p := ⟨g, _, none⟩) hg).trans h1, (hb.cell (p := ⟨g, _, none⟩) hg).trans h2, (hb.cell (p := ⟨g, _, none⟩) hg).trans h3, u, (hb.cell (p := ⟨g, _, none⟩) hg).trans h4, h5.below hb⟩
theorem cp_shelf {c : Cp} (day : Int) (h : c.st = 0) : cpB c day = decide (c.who = 0 ∧ c.due = 0 ∧ c.ren = 0 ∧ c.q.length = 0) := by unfold cpB; rw [if_pos h]
theorem cp_lent {c : Cp} (day : Int) (h : c.st = 1) : cpB c day = (awayB c && inB c.ren 0 2) := by unfold cpB; rw [if_neg (by omega), if_pos h]
theorem cp_held {c : Cp} (day : Int) (h : c.st = 2) : cpB c day = (awayB c && decide (c.ren = 0 ∧ day ≤ c.due)) := by unfold cpB; rw [if_neg (by omega), if_neg (by omega), if_pos h]
theorem cp_none {c : Cp} (day : Int) (h0 : ¬ c.st = 0) (h1 : ¬ c.st = 1) (h2 : ¬ c.st = 2) : cpB c day = false := by unfold cpB; rw [if_neg h0, if_neg h1, if_neg h2]
theorem cp_away {c : Cp} (day : Int) (h0 : ¬ c.st = 0) (h : ¬ Away c) : cpB c day = false := by unfold cpB; rw [if_neg h0, away_f h]; split; rfl; split <;> rfl

set_option maxHeartbeats 16000000 in
theorem l06Copy_any (c : Cp) (wf : c.Wf) (day : Int) (hd : -32768 ≤ day ∧ day ≤ 32767) (g o : Nat) (w : World) (hc : CpIn w g o c) (hg : g < w.heap.size) (hn : c.q.length ≤ maxLen) :
    Calls Try.prog 34 #[.pointer (some ⟨g, o, none⟩), .int .i16 day] w fun e w' => e = .returned (.bool (cpB c day)) ∧ Below w.heap.size w w' := by
  have HC := Lib.hid hc
  obtain ⟨c0, c1, c2, c3, u, c4, hq⟩ := hc
  have HQ := Lib.hid hq
  obtain ⟨A, kq, rfl, -⟩ := hq
  obtain ⟨⟨s1, s2⟩, ⟨w1, w2⟩, ⟨d1, d2⟩, ⟨r1, r2⟩, hw⟩ := wf
  have HW := Lib.hid hw
  have ML := Lib.hid hn
  obtain ⟨y1, y2⟩ := hd
  unfold maxLen at hn
  clear hw
  have CP := Lib.hid (fun n : Nat => l06Person_any c.who (w.drewN n))
  have CI := Lib.hid (fun n : Nat => l00In_any c.due 0 10028 (w.drewN n))
  have CL := Lib.hid (fun n : Nat => l06Place_any (.slice A c.q.length kq) c.q c.who (w.drewN n) (HQ.out.below (below_drewN (Below.refl _ _) n)) HW.out ML.out)
  by_cases h0 : c.st = 0
  · have E0 := Lib.hid (cp_shelf day h0)
    by_cases k0 : c.who = 0
    · skip
      by_cases k1 : c.due = 0
      · skip
        by_cases k2 : c.ren = 0
        · skip
          by_cases k3 : c.q.length = 0
          · skip
            have E := Lib.hid (show cpB c day = true by rw [E0.out]; simp [k0, k1, k2, k3])
            have k3n : (c.q.length : Int) = 0 := by omega
            go_enter Try.func34, Try.ntmps34
            go_wp2
            go_ret
            exact ⟨by rw [E.out]; first | rfl | simp [k0, k1, k2, k3], Below.refl _ _⟩
          · have E := Lib.hid (show cpB c day = false by rw [E0.out]; simp [k3])
            have k3n : ¬ (c.q.length : Int) = 0 := by omega
            go_enter Try.func34, Try.ntmps34
            go_wp2
            go_ret
            exact ⟨by rw [E.out]; first | rfl | simp [k3], Below.refl _ _⟩
        · have E := Lib.hid (show cpB c day = false by rw [E0.out]; simp [k2])
          go_enter Try.func34, Try.ntmps34
          go_wp2
          go_ret
          exact ⟨by rw [E.out]; first | rfl | simp [k2], Below.refl _ _⟩
      · have E := Lib.hid (show cpB c day = false by rw [E0.out]; simp [k1])
        go_enter Try.func34, Try.ntmps34
        go_wp2
        go_ret
        exact ⟨by rw [E.out]; first | rfl | simp [k1], Below.refl _ _⟩
    · have E := Lib.hid (show cpB c day = false by rw [E0.out]; simp [k0])
      go_enter Try.func34, Try.ntmps34
      go_wp2
      go_ret
      exact ⟨by rw [E.out]; first | rfl | simp [k0], Below.refl _ _⟩
  · by_cases h12 : c.st = 1 ∨ c.st = 2
    · rcases h12 with h1 | h1
      · have h2 : ¬ c.st = 2 := by omega
        cases a1 : perB c.who
        · have E := Lib.hid (cp_away day h0 (fun h => by have := h.who; rw [a1] at this; cases this))
          rw [a1] at CP
          go_enter Try.func34, Try.ntmps34
          go_wp2
          go_quiet ((first | (go_at_call 18; with_reducible exact quiet_same_d (CP.out _)) | (go_at_call 19; with_reducible exact quiet_same_d (CI.out _)) | (go_at_call 41; with_reducible exact quiet_same_d (CL.out _))))
          go_wp2
          go_ret
          exact ⟨by rw [E.out]; rfl, below_drewN (Below.refl _ _) _⟩
        · rw [a1] at CP
          cases a2 : inB c.due 0 10028
          · have E := Lib.hid (cp_away day h0 (fun h => by have := h.due; rw [a2] at this; cases this))
            rw [a2] at CI
            go_enter Try.func34, Try.ntmps34
            go_wp2
            go_quiet ((first | (go_at_call 18; with_reducible exact quiet_same_d (CP.out _)) | (go_at_call 19; with_reducible exact quiet_same_d (CI.out _)) | (go_at_call 41; with_reducible exact quiet_same_d (CL.out _))))
            go_wp2
            go_ret
            exact ⟨by rw [E.out]; rfl, below_drewN (Below.refl _ _) _⟩
          · rw [a2] at CI
            by_cases a3 : c.q.length ≤ 4
            · have a3d : decide ((4 : Int) < (c.q.length : Int)) = false := decide_eq_false (by omega)
              by_cases a4 : c.who ∈ c.q
              · have E := Lib.hid (cp_away day h0 (fun h => h.not a4))
                have a4n : ¬ placeI c.q c.who < 0 := fun h => (placeI_neg.1 h) a4
                have a4p : (0 : Int) ≤ placeI c.q c.who := by omega
                generalize placeI c.q c.who = pl at *
                have a4d : decide ((0 : Int) ≤ pl) = true := decide_eq_true a4p
                go_enter Try.func34, Try.ntmps34
                go_wp2
                go_quiet ((first | (go_at_call 18; with_reducible exact quiet_same_d (CP.out _)) | (go_at_call 19; with_reducible exact quiet_same_d (CI.out _)) | (go_at_call 41; with_reducible exact quiet_same_d (CL.out _))))
                go_wp2
                go_ret
                exact ⟨by rw [E.out]; rfl, below_drewN (Below.refl _ _) _⟩
              · have a4n : placeI c.q c.who = -1 := placeI_none_iff.2 a4
                have AW := Lib.hid (fun h => Away.mk a1 a2 a3 a4 h)
                rw [a4n] at CL
                clear a1 a2 a4 a4n
                go_enter Try.func34, Try.ntmps34
                go_wp2
                go_quiet ((first | (go_at_call 18; with_reducible exact quiet_same_d (CP.out _)) | (go_at_call 19; with_reducible exact quiet_same_d (CI.out _)) | (go_at_call 41; with_reducible exact quiet_same_d (CL.out _))))
                generalize hW : World.drewN w _ = W
                have B0 := Lib.hid (show Below w.heap.size w W by rw [← hW]; exact below_drewN (Below.refl _ _) _)
                have HG := Lib.hid (Nat.lt_of_lt_of_le hg B0.out.size)
                have HCW := Lib.hid (HC.out.below B0.out hg)
                clear hW c0 c1 c2 c3 c4 CP CI CL
                go_wp2
                go_loopw [5] (fun i wr => ∃ k : Nat, k ≤ c.q.length ∧ i = .int .i64 k ∧ QTo c.q k ∧ Below w.heap.size w wr) (fun i _ => c.q.length - (intOf i).toNat)
                case atStart => exact ⟨0, Nat.zero_le _, rfl, QTo.zero _, B0.out⟩
                case round =>
                  obtain ⟨k, hk, rfl, hqt, hb⟩ := hrel
                  have QT := Lib.hid hqt
                  have HB := Lib.hid hb
                  obtain ⟨c0, c1, c2, c3, u', c4, hq'⟩ := HC.out.below hb hg
                  have HQ2 := Lib.hid hq'
                  obtain ⟨A2, kq2, rfl, hq2⟩ := hq'
                  have HA2 := Lib.hid hq2
                  clear hqt hb hq2
                  by_cases hlt : k < c.q.length
                  · obtain ⟨ga, oa, rfl, hga, hat⟩ := HA2.out (by omega)
                    have p0 := hat k hlt
                    obtain ⟨b1, b2⟩ := HW.out _ (List.getElem_mem hlt)
                    clear hat
                    have CP := Lib.hid (fun n : Nat => l06Person_any c.q[k] (wr.drewN n))
                    have CL := Lib.hid (fun n : Nat => l06Place_any _ c.q c.q[k] (wr.drewN n) (HQ2.out.below (below_drewN (Below.refl _ _) n)) HW.out ML.out)
                    cases b3 : perB c.q[k]
                    · have E := Lib.hid (cp_away day h0 (fun h => by have := (h.q k hlt hlt).1; rw [b3] at this; cases this))
                      rw [b3] at CP
                      go_wp2
                      go_quiet ((first | (go_at_call 18; with_reducible exact quiet_same_d (CP.out _)) | (go_at_call 41; with_reducible exact quiet_same_d (CL.out _))))
                      go_wp2
                      go_ret
                      exact ⟨by rw [E.out]; rfl, below_drewN HB.out _⟩
                    · rw [b3] at CP
                      by_cases b4 : placeI c.q c.q[k] = (k : Int)
                      · have Q1 := Lib.hid (QT.out.succ hlt b3 b4)
                        rw [b4] at CL
                        clear b3 b4
                        go_wp2
                        go_quiet ((first | (go_at_call 18; with_reducible exact quiet_same_d (CP.out _)) | (go_at_call 41; with_reducible exact quiet_same_d (CL.out _))))
                        clear c0 c1 c2 c3 c4 p0
                        go_wp2
                        go_roundw
                        case rel => exact ⟨k + 1, by omega, by go_num, Q1.out, below_drewN HB.out _⟩
                        case measure => simp [intOf]; omega
                      · have E := Lib.hid (cp_away day h0 (fun h => b4 (h.q k hlt hlt).2))
                        clear b3
                        generalize placeI c.q c.q[k] = pl at *
                        go_wp2
                        go_quiet ((first | (go_at_call 18; with_reducible exact quiet_same_d (CP.out _)) | (go_at_call 41; with_reducible exact quiet_same_d (CL.out _))))
                        go_wp2
                        go_ret
                        exact ⟨by rw [E.out]; rfl, below_drewN HB.out _⟩
                  · obtain rfl : k = c.q.length := by omega
                    have E := Lib.hid (show cpB c day = inB c.ren 0 2 by rw [cp_lent day h1, away_t (AW.out QT.out)]; rfl)
                    go_wp2_with fail
                    refine (l00In_any _ _ _ _).mono ?_
                    rintro e w' ⟨rfl, rfl⟩
                    go_wp2
                    go_ret
                    exact ⟨by rw [E.out]; rfl, HB.out⟩
            · have a3d : decide ((4 : Int) < (c.q.length : Int)) = true := decide_eq_true (by omega)
              have a3e : (4 : Int) < (c.q.length : Int) := by omega
              have E := Lib.hid (cp_away day h0 (fun h => a3 h.len))
              go_enter Try.func34, Try.ntmps34
              go_wp2
              go_quiet ((first | (go_at_call 18; with_reducible exact quiet_same_d (CP.out _)) | (go_at_call 19; with_reducible exact quiet_same_d (CI.out _)) | (go_at_call 41; with_reducible exact quiet_same_d (CL.out _))))
              go_wp2
              go_ret
              exact ⟨by rw [E.out]; rfl, below_drewN (Below.refl _ _) _⟩
      · have h2 : ¬ c.st = 1 := by omega
        cases a1 : perB c.who
        · have E := Lib.hid (cp_away day h0 (fun h => by have := h.who; rw [a1] at this; cases this))
          rw [a1] at CP
          go_enter Try.func34, Try.ntmps34
          go_wp2
          go_quiet ((first | (go_at_call 18; with_reducible exact quiet_same_d (CP.out _)) | (go_at_call 19; with_reducible exact quiet_same_d (CI.out _)) | (go_at_call 41; with_reducible exact quiet_same_d (CL.out _))))
          go_wp2
          go_ret
          exact ⟨by rw [E.out]; rfl, below_drewN (Below.refl _ _) _⟩
        · rw [a1] at CP
          cases a2 : inB c.due 0 10028
          · have E := Lib.hid (cp_away day h0 (fun h => by have := h.due; rw [a2] at this; cases this))
            rw [a2] at CI
            go_enter Try.func34, Try.ntmps34
            go_wp2
            go_quiet ((first | (go_at_call 18; with_reducible exact quiet_same_d (CP.out _)) | (go_at_call 19; with_reducible exact quiet_same_d (CI.out _)) | (go_at_call 41; with_reducible exact quiet_same_d (CL.out _))))
            go_wp2
            go_ret
            exact ⟨by rw [E.out]; rfl, below_drewN (Below.refl _ _) _⟩
          · rw [a2] at CI
            by_cases a3 : c.q.length ≤ 4
            · have a3d : decide ((4 : Int) < (c.q.length : Int)) = false := decide_eq_false (by omega)
              by_cases a4 : c.who ∈ c.q
              · have E := Lib.hid (cp_away day h0 (fun h => h.not a4))
                have a4n : ¬ placeI c.q c.who < 0 := fun h => (placeI_neg.1 h) a4
                have a4p : (0 : Int) ≤ placeI c.q c.who := by omega
                generalize placeI c.q c.who = pl at *
                have a4d : decide ((0 : Int) ≤ pl) = true := decide_eq_true a4p
                go_enter Try.func34, Try.ntmps34
                go_wp2
                go_quiet ((first | (go_at_call 18; with_reducible exact quiet_same_d (CP.out _)) | (go_at_call 19; with_reducible exact quiet_same_d (CI.out _)) | (go_at_call 41; with_reducible exact quiet_same_d (CL.out _))))
                go_wp2
                go_ret
                exact ⟨by rw [E.out]; rfl, below_drewN (Below.refl _ _) _⟩
              · have a4n : placeI c.q c.who = -1 := placeI_none_iff.2 a4
                have AW := Lib.hid (fun h => Away.mk a1 a2 a3 a4 h)
                rw [a4n] at CL
                clear a1 a2 a4 a4n
                go_enter Try.func34, Try.ntmps34
                go_wp2
                go_quiet ((first | (go_at_call 18; with_reducible exact quiet_same_d (CP.out _)) | (go_at_call 19; with_reducible exact quiet_same_d (CI.out _)) | (go_at_call 41; with_reducible exact quiet_same_d (CL.out _))))
                generalize hW : World.drewN w _ = W
                have B0 := Lib.hid (show Below w.heap.size w W by rw [← hW]; exact below_drewN (Below.refl _ _) _)
                have HG := Lib.hid (Nat.lt_of_lt_of_le hg B0.out.size)
                have HCW := Lib.hid (HC.out.below B0.out hg)
                clear hW c0 c1 c2 c3 c4 CP CI CL
                go_wp2
                go_loopw [5] (fun i wr => ∃ k : Nat, k ≤ c.q.length ∧ i = .int .i64 k ∧ QTo c.q k ∧ Below w.heap.size w wr) (fun i _ => c.q.length - (intOf i).toNat)
                case atStart => exact ⟨0, Nat.zero_le _, rfl, QTo.zero _, B0.out⟩
                case round =>
                  obtain ⟨k, hk, rfl, hqt, hb⟩ := hrel
                  have QT := Lib.hid hqt
                  have HB := Lib.hid hb
                  obtain ⟨c0, c1, c2, c3, u', c4, hq'⟩ := HC.out.below hb hg
                  have HQ2 := Lib.hid hq'
                  obtain ⟨A2, kq2, rfl, hq2⟩ := hq'
                  have HA2 := Lib.hid hq2
                  clear hqt hb hq2
                  by_cases hlt : k < c.q.length
                  · obtain ⟨ga, oa, rfl, hga, hat⟩ := HA2.out (by omega)
                    have p0 := hat k hlt
                    obtain ⟨b1, b2⟩ := HW.out _ (List.getElem_mem hlt)
                    clear hat
                    have CP := Lib.hid (fun n : Nat => l06Person_any c.q[k] (wr.drewN n))
                    have CL := Lib.hid (fun n : Nat => l06Place_any _ c.q c.q[k] (wr.drewN n) (HQ2.out.below (below_drewN (Below.refl _ _) n)) HW.out ML.out)
                    cases b3 : perB c.q[k]
                    · have E := Lib.hid (cp_away day h0 (fun h => by have := (h.q k hlt hlt).1; rw [b3] at this; cases this))
                      rw [b3] at CP
                      go_wp2
                      go_quiet ((first | (go_at_call 18; with_reducible exact quiet_same_d (CP.out _)) | (go_at_call 41; with_reducible exact quiet_same_d (CL.out _))))
                      go_wp2
                      go_ret
                      exact ⟨by rw [E.out]; rfl, below_drewN HB.out _⟩
                    · rw [b3] at CP
                      by_cases b4 : placeI c.q c.q[k] = (k : Int)
                      · have Q1 := Lib.hid (QT.out.succ hlt b3 b4)
                        rw [b4] at CL
                        clear b3 b4
                        go_wp2
                        go_quiet ((first | (go_at_call 18; with_reducible exact quiet_same_d (CP.out _)) | (go_at_call 41; with_reducible exact quiet_same_d (CL.out _))))
                        clear c0 c1 c2 c3 c4 p0
                        go_wp2
                        go_roundw
                        case rel => exact ⟨k + 1, by omega, by go_num, Q1.out, below_drewN HB.out _⟩
                        case measure => simp [intOf]; omega
                      · have E := Lib.hid (cp_away day h0 (fun h => b4 (h.q k hlt hlt).2))
                        clear b3
                        generalize placeI c.q c.q[k] = pl at *
                        go_wp2
                        go_quiet ((first | (go_at_call 18; with_reducible exact quiet_same_d (CP.out _)) | (go_at_call 41; with_reducible exact quiet_same_d (CL.out _))))
                        go_wp2
                        go_ret
                        exact ⟨by rw [E.out]; rfl, below_drewN HB.out _⟩
                  · obtain rfl : k = c.q.length := by omega
                    have E0 := Lib.hid (show cpB c day = decide (c.ren = 0 ∧ day ≤ c.due) by rw [cp_held day h1, away_t (AW.out QT.out)]; rfl)
                    by_cases v0 : c.ren = 0
                    · by_cases v1 : day ≤ c.due
                      · have E := Lib.hid (show cpB c day = true by rw [E0.out]; simp [v0, v1])
                        go_wp2
                        go_ret
                        exact ⟨by rw [E.out]; first | rfl | simp [v0, v1], HB.out⟩
                      · have E := Lib.hid (show cpB c day = false by rw [E0.out]; simp [v1])
                        have v2 : c.due < day := by omega
                        go_wp2
                        go_ret
                        exact ⟨by rw [E.out]; first | rfl | simp [v0, v1], HB.out⟩
                    · have E := Lib.hid (show cpB c day = false by rw [E0.out]; simp [v0])
                      go_wp2
                      go_ret
                      exact ⟨by rw [E.out]; first | rfl | simp [v0], HB.out⟩
            · have a3d : decide ((4 : Int) < (c.q.length : Int)) = true := decide_eq_true (by omega)
              have a3e : (4 : Int) < (c.q.length : Int) := by omega
              have E := Lib.hid (cp_away day h0 (fun h => a3 h.len))
              go_enter Try.func34, Try.ntmps34
              go_wp2
              go_quiet ((first | (go_at_call 18; with_reducible exact quiet_same_d (CP.out _)) | (go_at_call 19; with_reducible exact quiet_same_d (CI.out _)) | (go_at_call 41; with_reducible exact quiet_same_d (CL.out _))))
              go_wp2
              go_ret
              exact ⟨by rw [E.out]; rfl, below_drewN (Below.refl _ _) _⟩
    · have h1 : ¬ c.st = 1 := fun h => h12 (.inl h)
      have h2 : ¬ c.st = 2 := fun h => h12 (.inr h)
      have E := Lib.hid (cp_none day h0 h1 h2)
      have hb1 : (c.st != 1) = true := by simpa using h1
      have hb2 : (c.st != 2) = true := by simpa using h2
      go_enter Try.func34, Try.ntmps34
      go_wp2
      go_ret
      exact ⟨by rw [E.out]; rfl, Below.refl _ _⟩
end Go.Proofs.Ytmafjncaigllbab
