/- Desks compared, by the model and by the program, second part: contracts. Condition: no longer than slices can be, numbers within their kinds. -/
import Derived.Test.YtmafjncaigllbaaSameD
namespace Go.Proofs.Ytmafjncaigllbaa
set_option linter.unusedSimpArgs false
set_option linter.unusedVariables false
set_option maxRecDepth 100000
open Go.RowKit

set_option maxHeartbeats 8000000 in
theorem equalCopies_any (v1 v2 : Value) (xs ys : List Cp) (w : World) (hs1 : CpsOf w v1 xs) (hs2 : CpsOf w v2 ys) (wf1 : ∀ c ∈ xs, c.Wf) (wf2 : ∀ c ∈ ys, c.Wf) (hr1 : ∀ c ∈ xs, c.q.length ≤ maxLen) (hr2 : ∀ c ∈ ys, c.q.length ≤ maxLen) (hn1 : xs.length ≤ maxLen) (hn2 : ys.length ≤ maxLen) :
    Calls Try.prog 55 #[v1, v2, .func (.func 56) #[] #[]] w fun e w' => e = .returned (.bool (decide (xs = ys))) ∧ Below w.heap.size w w' := by
  have H1 := Lib.hid hs1
  have H2 := Lib.hid hs2
  have W1 := Lib.hid wf1
  have W2 := Lib.hid wf2
  have R1 := Lib.hid hr1
  have R2 := Lib.hid hr2
  obtain ⟨A1, k1, rfl, -⟩ := hs1
  obtain ⟨A2, k2, rfl, -⟩ := hs2
  unfold maxLen at hn1 hn2
  clear wf1 wf2 hr1 hr2
  by_cases hl : xs.length = ys.length
  · have hl' : ((xs.length : Int) != (ys.length : Int)) = false := by rw [hl]; simp
    have HL := Lib.hid hl
    have hle1 : xs.length ≤ ys.length := by omega
    have hle2 : ys.length ≤ xs.length := by omega
    clear hl
    go_enter Try.func55, Try.ntmps55
    go_wp2
    go_loopw [17] (fun i wr => ∃ k : Nat, k ≤ xs.length ∧ i = .int .i64 k ∧ SameC xs ys k ∧ Below w.heap.size w wr) (fun i _ => xs.length - (intOf i).toNat)
    case atStart => exact ⟨0, Nat.zero_le _, rfl, fun _ _ _ h => absurd h (Nat.not_lt_zero _), Below.refl _ _⟩
    case round =>
      obtain ⟨k, hk, rfl, hsame, hb⟩ := hrel
      have HA := Lib.hid hsame
      have HB := Lib.hid hb
      clear hsame hb
      by_cases hlt : k < xs.length
      · have hlt2 : k < ys.length := by omega
        obtain ⟨g1, o1, rfl, hg1, p0, p1, p2, p3, u1, p4, z1⟩ := (H1.out.below HB.out).in_ hlt
        obtain ⟨g2, o2, rfl, hg2, q0, q1, q2, q3, u2, q4, z2⟩ := (H2.out.below HB.out).in_ hlt2
        have Z1 := Lib.hid z1
        have Z2 := Lib.hid z2
        obtain ⟨B1, d1, rfl, -⟩ := z1
        obtain ⟨B2, d2, rfl, -⟩ := z2
        have SC := Lib.hid (fun W (hW : Below wr.heap.size wr W) => sameCopy_any xs[k] ys[k] (W1.out _ (List.getElem_mem hlt)) (W2.out _ (List.getElem_mem hlt2)) _ _ W (Z1.out.below hW) (Z2.out.below hW) (R1.out _ (List.getElem_mem hlt)) (R2.out _ (List.getElem_mem hlt2)))
        have SY := Lib.hid (fun (h : xs[k] = ys[k]) => HA.out.succ hlt hlt2 h)
        have SN := Lib.hid (fun (h : ¬ xs[k] = ys[k]) => (decide_eq_false (fun e => h (by subst e; rfl)) : decide (xs = ys) = false))
        generalize xs[k] = a at *
        generalize ys[k] = b at *
        obtain ⟨r, hr⟩ : ∃ r, decide (a = b) = r := ⟨_, rfl⟩
        rw [hr] at SC
        have HR := Lib.hid hr
        clear hr
        go_wp2_with fail
        generalize hW : World.alloc (World.alloc wr _) _ = W
        have G0 := Lib.hid (show Below wr.heap.size wr W by rw [← hW]; exact ((Below.refl _ _).alloc (Nat.le_refl _) _).alloc (by simp) _)
        clear hW
        refine (SC.out _ G0.out).mono ?_
        rintro e wq ⟨rfl, hq⟩
        have BQ := Lib.hid (bnext (bnext HB.out G0.out) hq)
        clear p0 p1 p2 p3 p4 q0 q1 q2 q3 q4 hq
        cases r
        · have E := Lib.hid (SN.out (of_decide_eq_false HR.out))
          go_wp2
          go_ret
          exact ⟨by rw [E.out]; rfl, BQ.out⟩
        · have E := Lib.hid (SY.out (of_decide_eq_true HR.out))
          go_wp2
          go_roundw
          case rel => exact ⟨k + 1, by omega, by go_num, E.out, BQ.out⟩
          case measure => simp [intOf]; omega
      · obtain rfl : k = xs.length := by omega
        go_wp2
        go_ret
        refine ⟨?_, HB.out⟩
        rw [decide_eq_true (List.ext_getElem HL.out fun i h1 h2 => HA.out i h1 h2 h1)]
        rfl
  · have hl' : ((xs.length : Int) != (ys.length : Int)) = true := by rw [bne_iff_ne]; omega
    have HL := Lib.hid hl
    clear hl
    go_enter Try.func55, Try.ntmps55
    go_wp2
    go_ret
    refine ⟨?_, Below.refl _ _⟩
    rw [decide_eq_false (fun e => HL.out (by rw [e]))]
    rfl

set_option maxHeartbeats 4000000 in
theorem sameDesk_any (d e : Dk) (hv1 hv2 : Value) (w : World) (wf1 : d.Wf ∧ ∀ c ∈ d.cs, c.q.length ≤ maxLen) (wf2 : e.Wf ∧ ∀ c ∈ e.cs, c.q.length ≤ maxLen) (hs1 : CpsOf w hv1 d.cs) (hs2 : CpsOf w hv2 e.cs) (ml1 : d.cs.length ≤ maxLen) (ml2 : e.cs.length ≤ maxLen) :
    Calls Try.prog 21 #[.agg #[.int .i16 d.day, hv1], .agg #[.int .i16 e.day, hv2]] w fun r w' => r = .returned (.bool (sdB d e)) ∧ Below w.heap.size w w' := by
  have HS1 := Lib.hid hs1
  have HS2 := Lib.hid hs2
  have W1 := Lib.hid wf1
  have W2 := Lib.hid wf2
  clear wf1 wf2
  obtain ⟨A1, k1, rfl, -⟩ := hs1
  obtain ⟨A2, k2, rfl, -⟩ := hs2
  have G0 := Lib.hid (show Below w.heap.size w ((w.alloc (.cells #[.int .i16 d.day, .slice A1 d.cs.length k1] 30)).alloc (.cells #[.int .i16 e.day, .slice A2 e.cs.length k2] 30)) by go_grown)
  by_cases hn : d.day = e.day
  · have E := Lib.hid (show sdB d e = decide (d.cs = e.cs) by unfold sdB; rw [decide_eq_true hn]; rfl)
    have d1 : (d.day == e.day) = true := by simpa using hn
    obtain ⟨b, hbb⟩ : ∃ b, decide (d.cs = e.cs) = b := ⟨_, rfl⟩
    have C := Lib.hid (fun W (hb : Below w.heap.size w W) => equalCopies_any (.slice A1 d.cs.length k1) (.slice A2 e.cs.length k2) d.cs e.cs W (HS1.out.below hb) (HS2.out.below hb) W1.out.1.cs W2.out.1.cs W1.out.2 W2.out.2 ml1 ml2)
    rw [hbb] at C E
    clear hbb
    clear ml1 ml2 hn
    go_enter Try.func21, Try.ntmps21
    go_wp2_with fail
    refine (C.out _ (by first | exact G0.out | exact (by go_grown))).mono ?_
    rintro e' w1 ⟨rfl, g1⟩
    go_wp2
    go_ret
    exact ⟨by rw [E.out]; rfl, bnext G0.out g1⟩
  · have E := Lib.hid (show sdB d e = false by unfold sdB; rw [decide_eq_false hn]; rfl)
    have d1 : (d.day == e.day) = false := by simpa using hn
    clear hn
    go_enter Try.func21, Try.ntmps21
    go_wp2
    go_ret
    exact ⟨by rw [E.out]; rfl, G0.out⟩
end Go.Proofs.Ytmafjncaigllbaa
