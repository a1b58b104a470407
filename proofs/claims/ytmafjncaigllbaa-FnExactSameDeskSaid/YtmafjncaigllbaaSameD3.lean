/- Desks compared by the model: contract. Condition: no longer than slices can be. -/
import Derived.Test.YtmafjncaigllbaaSameD2
namespace Go.Proofs.Ytmafjncaigllbaa
set_option linter.unusedSimpArgs false
set_option linter.unusedVariables false
set_option maxRecDepth 100000
open Go.RowKit

set_option maxHeartbeats 16000000 in
theorem specSameDesk_any (d e : Dk) (hv1 hv2 : Value) (w : World) (wf1 : ∀ c ∈ d.cs, c.q.length ≤ maxLen) (wf2 : ∀ c ∈ e.cs, c.q.length ≤ maxLen) (hs1 : CpsOf w hv1 d.cs) (hs2 : CpsOf w hv2 e.cs) (ml1 : d.cs.length ≤ maxLen) (ml2 : e.cs.length ≤ maxLen) :
    Calls Try.prog 20 #[.agg #[.int .i16 d.day, hv1], .agg #[.int .i16 e.day, hv2]] w fun r w' => r = .returned (.bool (sdB d e)) ∧ Below w.heap.size w w' := by
  have H1 := Lib.hid hs1
  have H2 := Lib.hid hs2
  have R1 := Lib.hid wf1
  have R2 := Lib.hid wf2
  clear wf1 wf2
  obtain ⟨A1, k1, rfl, -⟩ := hs1
  obtain ⟨A2, k2, rfl, -⟩ := hs2
  unfold maxLen at ml1 ml2
  have G0 := Lib.hid (show Below w.heap.size w ((w.alloc (.cells #[.int .i16 d.day, .slice A1 d.cs.length k1] 30)).alloc (.cells #[.int .i16 e.day, .slice A2 e.cs.length k2] 30)) by go_grown)
  have KA := Lib.hid (alloc2 w (.cells #[.int .i16 d.day, .slice A1 d.cs.length k1] 30) (.cells #[.int .i16 e.day, .slice A2 e.cs.length k2] 30)).1
  have KB := Lib.hid (alloc2 w (.cells #[.int .i16 d.day, .slice A1 d.cs.length k1] 30) (.cells #[.int .i16 e.day, .slice A2 e.cs.length k2] 30)).2
  by_cases hn : d.day = e.day
  · have d1 : (d.day != e.day) = false := by simp [hn]
    have d2 : (d.day == e.day) = true := by simpa using hn
    have E := Lib.hid (show sdB d e = decide (d.cs = e.cs) by unfold sdB; rw [decide_eq_true hn]; rfl)
    clear hn
    by_cases hl : d.cs.length = e.cs.length
    · have hl' : ((d.cs.length : Int) != (e.cs.length : Int)) = false := by rw [hl]; simp
      have HL := Lib.hid hl
      have hle1 : d.cs.length ≤ e.cs.length := by omega
      have hle2 : e.cs.length ≤ d.cs.length := by omega
      clear hl
      go_enter Try.func20, Try.ntmps20
      go_wp2
      go_loopw [5] (fun i_ wr => ∃ k : Nat, k ≤ d.cs.length ∧ i_ = .int .i64 (k : Int) ∧ SameC d.cs e.cs k ∧ wr.heap[w.heap.size]? = some (Obj.cells #[.int .i16 d.day, .slice A1 d.cs.length k1] 30 (0, 0)) ∧ wr.heap[w.heap.size + 1]? = some (Obj.cells #[.int .i16 e.day, .slice A2 e.cs.length k2] 30 (0, 0)) ∧ Below w.heap.size w wr) (fun i_ _ => d.cs.length - (intOf i_).toNat)
      case atStart => exact ⟨0, Nat.zero_le _, rfl, fun _ _ _ h => absurd h (Nat.not_lt_zero _), KA.out, KB.out, G0.out⟩
      case round =>
        obtain ⟨k, hk, rfl, hsame, ka, kb, hb⟩ := hrel
        have HA := Lib.hid hsame
        have CA := Lib.hid ka
        have CB := Lib.hid kb
        have HB := Lib.hid hb
        have a1 := cell_of_row wr _ 1 _ _ _ ka
        have b1 := cell_of_row wr _ 1 _ _ _ kb
        simp only [List.getElem?_toArray, List.getElem?_cons_zero, List.getElem?_cons_succ] at a1 b1
        have la := (Array.getElem?_eq_some_iff.1 ka).1
        have lb := (Array.getElem?_eq_some_iff.1 kb).1
        clear hsame ka kb hb
        by_cases hlt : k < d.cs.length
        · have hlt2 : k < e.cs.length := by omega
          obtain ⟨g1, o1, rfl, hg1, p0, p1, p2, p3, u1, p4, z1⟩ := (H1.out.below HB.out).in_ hlt
          obtain ⟨g2, o2, rfl, hg2, q0, q1, q2, q3, u2, q4, z2⟩ := (H2.out.below HB.out).in_ hlt2
          have Z1 := Lib.hid z1
          have Z2 := Lib.hid z2
          obtain ⟨B1, j1, rfl, -⟩ := z1
          obtain ⟨B2, j2, rfl, -⟩ := z2
          have m1 := R1.out _ (List.getElem_mem hlt)
          have m2 := R2.out _ (List.getElem_mem hlt2)
          unfold maxLen at m1 m2
          have SY := Lib.hid (fun (h : d.cs[k] = e.cs[k]) => HA.out.succ hlt hlt2 h)
          have SN := Lib.hid (fun (h : ¬ d.cs[k] = e.cs[k]) => (E.out.trans (decide_eq_false (fun e' => h (by simp only [e']))) : sdB d e = false))
          generalize d.cs[k] = a at *
          generalize e.cs[k] = b at *
          by_cases t0 : a.st = b.st
          · have c0 : (a.st != b.st) = false := by rw [t0]; simp
            have HT0 := Lib.hid t0
            clear t0
            by_cases t1 : a.who = b.who
            · have c1 : (a.who != b.who) = false := by rw [t1]; simp
              have HT1 := Lib.hid t1
              clear t1
              by_cases t2 : a.due = b.due
              · have c2 : (a.due != b.due) = false := by rw [t2]; simp
                have HT2 := Lib.hid t2
                clear t2
                by_cases t3 : a.ren = b.ren
                · have c3 : (a.ren != b.ren) = false := by rw [t3]; simp
                  have HT3 := Lib.hid t3
                  clear t3
                  by_cases t4 : a.q.length = b.q.length
                  · have c4 : ((a.q.length : Int) != (b.q.length : Int)) = false := by rw [t4]; simp
                    have HT4 := Lib.hid t4
                    have le1 : a.q.length ≤ b.q.length := by omega
                    have le2 : b.q.length ≤ a.q.length := by omega
                    clear t4
                    obtain ⟨wo, rfl⟩ : ∃ wo : World, wo = wr := ⟨_, rfl⟩
                    go_wp2
                    generalize hW : World.alloc (World.alloc wo _) _ = W
                    have D0 := Lib.hid (show W.heap[wo.heap.size]? = some (Obj.cells #[.int .i8 a.st, .int .i8 a.who, .int .i16 a.due, .int .i8 a.ren, .slice B1 a.q.length j1] 65 (0, 0)) by rw [← hW]; exact (alloc2 wo _ _).1)
                    have D1 := Lib.hid (show W.heap[wo.heap.size + 1]? = some (Obj.cells #[.int .i8 b.st, .int .i8 b.who, .int .i16 b.due, .int .i8 b.ren, .slice B2 b.q.length j2] 65 (0, 0)) by rw [← hW]; exact (alloc2 wo _ _).2)
                    have G1 := Lib.hid (show Below wo.heap.size wo W by rw [← hW]; exact ((Below.refl _ _).alloc (Nat.le_refl _) _).alloc (by simp) _)
                    have z1 : wo.heap.size + 1 < W.heap.size := by rw [← hW]; simp
                    have z0 : wo.heap.size < W.heap.size := by omega
                    have ca := Lib.hid ((G1.out.block _ la).trans CA.out)
                    have cb := Lib.hid ((G1.out.block _ lb).trans CB.out)
                    have la := Nat.lt_of_lt_of_le la G1.out.size
                    have lb := Nat.lt_of_lt_of_le lb G1.out.size
                    have HB1 := Lib.hid (bnext HB.out G1.out)
                    clear hW p0 p1 p2 p3 p4 q0 q1 q2 q3 q4 a1 b1 c0 c1 c2 c3 c4 CA CB
                    go_loopw [8] (fun i_ wr => ∃ m : Nat, m ≤ a.q.length ∧ i_ = .int .i64 (m : Int) ∧ SameQ a.q b.q m ∧ Below W.heap.size W wr) (fun i_ _ => a.q.length - (intOf i_).toNat)
                    case atStart => exact ⟨0, Nat.zero_le _, rfl, fun _ _ _ h => absurd h (Nat.not_lt_zero _), Below.refl _ _⟩
                    case round =>
                      obtain ⟨m, hm, rfl, hsq, hb⟩ := hrel
                      have HQ := Lib.hid hsq
                      have HB2 := Lib.hid hb
                      have e4 := (hb.cell (p := ⟨wo.heap.size, 4, none⟩) z0).trans (cell_of_row W wo.heap.size 4 _ _ _ D0.out)
                      have f4 := (hb.cell (p := ⟨wo.heap.size + 1, 4, none⟩) z1).trans (cell_of_row W (wo.heap.size + 1) 4 _ _ _ D1.out)
                      simp only [List.getElem?_toArray, List.getElem?_cons_zero, List.getElem?_cons_succ] at e4 f4
                      clear hsq
                      by_cases hmq : m < a.q.length
                      · have hmq2 : m < b.q.length := by omega
                        obtain ⟨A', c', e', hh⟩ := (Z1.out.below G1.out).below hb
                        cases e'
                        obtain ⟨x1, y1, rfl, hx1, hat1⟩ := hh (by omega)
                        obtain ⟨A'', c'', e'', hh2⟩ := (Z2.out.below G1.out).below hb
                        cases e''
                        obtain ⟨x2, y2, rfl, hx2, hat2⟩ := hh2 (by omega)
                        have r1 := hat1 m hmq
                        have r2 := hat2 m hmq2
                        have QS := Lib.hid (fun h => HQ.out.succ hmq hmq2 h)
                        have QN := Lib.hid (fun (h : ¬ a.q[m] = b.q[m]) => SN.out (cp_ne_q (fun e' => h (by simp only [e']))))
                        clear hat1 hat2 hh hh2 hb
                        generalize a.q[m] = x at *
                        generalize b.q[m] = y at *
                        by_cases hxy : x = y
                        · have hq : (x != y) = false := by rw [hxy]; simp
                          have Q2 := Lib.hid (QS.out hxy)
                          clear hxy
                          go_wp2
                          go_quiet (fail)
                          clear r1 r2 hq e4 f4
                          go_wp2
                          go_roundw
                          case rel => exact ⟨m + 1, by omega, by go_num, Q2.out, below_drewN HB2.out _⟩
                          case measure => simp [intOf]; omega
                        · have hq : (x != y) = true := by simpa using hxy
                          have E2 := Lib.hid (QN.out hxy)
                          clear hxy
                          go_wp2
                          go_quiet (fail)
                          clear r1 r2 hq e4 f4
                          go_wp2
                          go_ret
                          exact ⟨by rw [E2.out]; rfl, below_drewN (bnext HB1.out HB2.out) _⟩
                      · obtain rfl : m = a.q.length := by omega
                        have E2 := Lib.hid (SY.out (cp_eq ⟨HT0.out, HT1.out, HT2.out, HT3.out⟩ (List.ext_getElem HT4.out fun i h1 h2 => HQ.out i h1 h2 h1)))
                        go_wp2
                        go_roundw
                        case rel => exact ⟨k + 1, by omega, by go_num, E2.out, (HB2.out.block _ la).trans ca.out, (HB2.out.block _ lb).trans cb.out, bnext HB1.out HB2.out⟩
                        case measure => simp [intOf]; omega
                  · have c4 : ((a.q.length : Int) != (b.q.length : Int)) = true := by rw [bne_iff_ne]; omega
                    have E2 := Lib.hid (SN.out (fun h => t4 (by rw [h])))
                    clear t4
                    go_wp2
                    go_ret
                    exact ⟨by rw [E2.out]; rfl, bnext HB.out (((Below.refl _ _).alloc (Nat.le_refl _) _).alloc (by simp) _)⟩
                · have c3 : (a.ren != b.ren) = true := by simpa using t3
                  have E2 := Lib.hid (SN.out (fun h => t3 (by rw [h])))
                  clear t3
                  go_wp2
                  go_ret
                  exact ⟨by rw [E2.out]; rfl, bnext HB.out (((Below.refl _ _).alloc (Nat.le_refl _) _).alloc (by simp) _)⟩
              · have c2 : (a.due != b.due) = true := by simpa using t2
                have E2 := Lib.hid (SN.out (fun h => t2 (by rw [h])))
                clear t2
                go_wp2
                go_ret
                exact ⟨by rw [E2.out]; rfl, bnext HB.out (((Below.refl _ _).alloc (Nat.le_refl _) _).alloc (by simp) _)⟩
            · have c1 : (a.who != b.who) = true := by simpa using t1
              have E2 := Lib.hid (SN.out (fun h => t1 (by rw [h])))
              clear t1
              go_wp2
              go_ret
              exact ⟨by rw [E2.out]; rfl, bnext HB.out (((Below.refl _ _).alloc (Nat.le_refl _) _).alloc (by simp) _)⟩
          · have c0 : (a.st != b.st) = true := by simpa using t0
            have E2 := Lib.hid (SN.out (fun h => t0 (by rw [h])))
            clear t0
            go_wp2
            go_ret
            exact ⟨by rw [E2.out]; rfl, bnext HB.out (((Below.refl _ _).alloc (Nat.le_refl _) _).alloc (by simp) _)⟩
        · obtain rfl : k = d.cs.length := by omega
          go_wp2
          go_ret
          refine ⟨?_, HB.out⟩
          rw [E.out, decide_eq_true (List.ext_getElem HL.out fun i h1 h2 => HA.out i h1 h2 h1)]
          rfl
    · have hl' : ((d.cs.length : Int) != (e.cs.length : Int)) = true := by rw [bne_iff_ne]; omega
      have HL := Lib.hid hl
      clear hl
      go_enter Try.func20, Try.ntmps20
      go_wp2
      go_ret
      refine ⟨?_, G0.out⟩
      rw [E.out, decide_eq_false (fun e => HL.out (by rw [e]))]
      rfl
  · have d1 : (d.day != e.day) = true := by simpa using hn
    have d2 : (d.day == e.day) = false := by simpa using hn
    have E := Lib.hid (show sdB d e = false by unfold sdB; rw [decide_eq_false hn]; rfl)
    clear hn
    go_enter Try.func20, Try.ntmps20
    go_wp2
    go_ret
    refine ⟨?_, G0.out⟩
    rw [E.out]
    rfl
end Go.Proofs.Ytmafjncaigllbaa
