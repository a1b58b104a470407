/- When a table is a proof: the plain form; by the model, a contract. Condition: a valid case and list, a table no longer than slices can be. -/
import Derived.Test.YtonclaakaaidlaaTab
import Derived.Test.YtonclaakaaidlaaRowsFrom
import Derived.Test.YtonclaakaaidlaaMeas
namespace Go.Proofs.Ytonclaakaaidlaa
set_option linter.unusedSimpArgs false
set_option linter.unusedVariables false
set_option maxRecDepth 100000
open Go.RowKit

def tv (t : List (List Int)) (s i : Nat) : Int := (t.getD s []).getD i 0
theorem getD_rows {t : List (List Int)} {s : Nat} (h : s < t.length) : t.getD s [] = t[s] := by simp [List.getD, List.getElem?_eq_getElem h]
theorem TabOf.some_ {w : World} {T : Option Addr} {n c : Nat} {t : List (List Int)} (h : TabOf w (.slice T n c) t) (h0 : 0 < t.length) : ∃ g o, T = some ⟨g, o, none⟩ ∧ g < w.heap.size := by
  obtain ⟨A, c', e, h⟩ := h
  obtain ⟨g, o, rfl, hg, -⟩ := h h0
  injection e with e1 e2 e3
  exact ⟨g, o, e1, hg⟩
theorem TabOf.row {w W : World} {g o n c : Nat} {t : List (List Int)} (h : TabOf w (.slice (some ⟨g, o, none⟩) n c) t) (hb : Below w.heap.size w W) {s : Nat} (hs : s < t.length) :
    ∃ As cs, W.cell? ⟨g, o + s, none⟩ = some (.slice As (t.getD s []).length cs) ∧ ∀ i, i < (t.getD s []).length → ∃ gs os, As = some ⟨gs, os, none⟩ ∧ gs < w.heap.size ∧ W.cell? ⟨gs, os + i, none⟩ = some (.int .i64 (tv t s i)) := by
  obtain ⟨A, c', e, h⟩ := h
  obtain ⟨g', o', rfl, hg, h⟩ := h (by omega)
  injection e with e1 e2 e3
  injection e1 with e1
  injection e1 with e1 e4 e5
  subst e1 e4
  obtain ⟨u, hu, As, cs, rfl, hz⟩ := h s hs
  unfold tv
  rw [getD_rows hs]
  refine ⟨As, cs, (hb.cell (p := ⟨g, o + s, none⟩) hg).trans hu, fun i hi => ?_⟩
  obtain ⟨gs, os, rfl, hgs, hz⟩ := hz (by omega)
  refine ⟨gs, os, rfl, hgs, ?_⟩
  rw [(hb.cell (p := ⟨gs, os + i, none⟩) hgs).trans (hz i hi)]
  simp [List.getD, List.getElem?_eq_getElem hi]
/-- A number of a table, with its row. -/
theorem TabOf.num {w W : World} {g o n c : Nat} {t : List (List Int)} (h : TabOf w (.slice (some ⟨g, o, none⟩) n c) t) (hb : Below w.heap.size w W) {s i d : Nat} (hs : s < t.length) (hd : (t.getD s []).length = d) (hi : i < d) :
    ∃ gs os cs, W.cell? ⟨g, o + s, none⟩ = some (.slice (some ⟨gs, os, none⟩) d cs) ∧ W.cell? ⟨gs, os + i, none⟩ = some (.int .i64 (tv t s i)) ∧ gs < w.heap.size := by
  obtain ⟨As, cs, h1, h2⟩ := h.row hb hs
  obtain ⟨gs, os, rfl, h3, h4⟩ := h2 i (by omega)
  exact ⟨gs, os, cs, by rw [h1, hd], h4, h3⟩
/-- Two numbers of one row. -/
theorem TabOf.num2 {w W : World} {g o n c : Nat} {t : List (List Int)} (h : TabOf w (.slice (some ⟨g, o, none⟩) n c) t) (hb : Below w.heap.size w W) {s d : Nat} (hs : s < t.length) (hd : (t.getD s []).length = d) (h0 : 0 < d) :
    ∃ gs os cs, W.cell? ⟨g, o + s, none⟩ = some (.slice (some ⟨gs, os, none⟩) d cs) ∧ gs < w.heap.size ∧ ∀ i, i < d → W.cell? ⟨gs, os + i, none⟩ = some (.int .i64 (tv t s i)) := by
  obtain ⟨As, cs, h1, h2⟩ := h.row hb hs
  obtain ⟨gs, os, rfl, h3, -⟩ := h2 0 (by omega)
  refine ⟨gs, os, cs, by rw [h1, hd], h3, fun i hi => ?_⟩
  obtain ⟨gs', os', e, -, h4⟩ := h2 i (by omega)
  injection e with e
  injection e with e1 e2 e3
  subst e1 e2
  exact h4
theorem tv_in {t : List (List Int)} (wt : ∀ zs ∈ t, ∀ z ∈ zs, (Lit.int .i64 z).wf = true) (s i : Nat) : -9223372036854775808 ≤ tv t s i ∧ tv t s i ≤ 9223372036854775807 := by
  unfold tv
  by_cases hs : s < t.length
  · rw [getD_rows hs]
    by_cases hi : i < t[s].length
    · have e : t[s].getD i 0 = t[s][i] := by simp [List.getD, List.getElem?_eq_getElem hi]
      rw [e]
      have := bounds_i64 (wt _ (List.getElem_mem hs) _ (List.getElem_mem hi))
      exact ⟨this.1, this.2⟩
    · simp [List.getD, List.getElem?_eq_none (Nat.le_of_not_lt hi)]
  · simp [List.getD, List.getElem?_eq_none (Nat.le_of_not_lt hs)]

/-! ### the plain form -/
def StepP (c : Cs) (xs : List Bk) (t : List (List Int)) (s i k : Nat) : Prop := tv t (s + 1) k = -1 ∨ (tv t s i ≠ -1 ∧ tv t s i - priceS c s (part xs i k) false ≤ tv t (s + 1) k)
def StepsTo (c : Cs) (xs : List Bk) (t : List (List Int)) (s i d : Nat) : Prop := ∀ d', d' < d → StepP c xs t s i (i + d')
def CellP (c : Cs) (xs : List Bk) (t : List (List Int)) (s i : Nat) : Prop := -1 ≤ tv t s i ∧ StepsTo c xs t s i (cntR c s xs i)
def endI (n i : Nat) : Int := if i = n then 0 else -1
structure ProofP (c : Cs) (xs : List Bk) (t : List (List Int)) : Prop where
  len : t.length = c.hs.length + 1
  rows : ∀ s, s < c.hs.length + 1 → (t.getD s []).length = xs.length + 1
  last : ∀ i, i < xs.length + 1 → tv t c.hs.length i = endI xs.length i
  cells : ∀ s, s < c.hs.length → ∀ i, i < xs.length + 1 → CellP c xs t s i
noncomputable def proofB (c : Cs) (xs : List Bk) (t : List (List Int)) : Bool := @decide (ProofP c xs t) (Classical.propDecidable _)
theorem proofB_yes {c : Cs} {xs : List Bk} {t : List (List Int)} (h : ProofP c xs t) : proofB c xs t = true := by unfold proofB; exact @decide_eq_true _ (Classical.propDecidable _) h
theorem proofB_no {c : Cs} {xs : List Bk} {t : List (List Int)} (h : ¬ ProofP c xs t) : proofB c xs t = false := by unfold proofB; exact @decide_eq_false _ (Classical.propDecidable _) h
theorem StepsTo.succ {c : Cs} {xs : List Bk} {t : List (List Int)} {s i d : Nat} (h : StepsTo c xs t s i d) (h1 : StepP c xs t s i (i + d)) : StepsTo c xs t s i (d + 1) := by
  intro d' hd
  by_cases e : d' = d
  · subst e; exact h1
  · exact h d' (by omega)
theorem all_succ {P : Nat → Prop} {k : Nat} (h : ∀ i, i < k → P i) (h1 : P k) : ∀ i, i < k + 1 → P i := by
  intro i hi
  by_cases e : i = k
  · subst e; exact h1
  · exact h i (by omega)
theorem FitD.le {c : Cs} {s : Nat} {xs : List Bk} {i d : Nat} (h : FitD c s xs i d) : d ≤ cntR c s xs i := by
  rcases h with rfl | ⟨h0, h⟩
  · omega
  · have := (reachF_le c s xs i (xs.length - (i + d - 1)) (i + d - 1)).1
    rw [h] at this
    unfold cntR
    omega
theorem priceS_not {c : Cs} {s : Nat} {ps : List Bk} {b : Bool} (h : fitsB c s ps = false) : priceS c s ps b < 0 := by
  have := freeS_neg c s ps
  rw [h] at this
  unfold priceS
  rw [if_pos (by simpa using this)]
  decide
theorem priceS_fit {c : Cs} {s : Nat} {ps : List Bk} {b : Bool} (h : fitsB c s ps = true) : 0 ≤ priceS c s ps b := by
  have := freeS_neg c s ps
  rw [h] at this
  have h0 : ¬ freeS c s ps < 0 := by simpa using this
  unfold priceS
  rw [if_neg h0]
  split
  · omega
  · split
    · omega
    · exact Int.mul_nonneg (by omega) (by omega)

set_option maxHeartbeats 16000000 in
theorem l02Proof_any (c : Cs) (hv : Value) (A : Option Addr) (m : Nat) (v : Value) (xs : List Bk) (t : List (List Int)) (wc : c.Wf) (wf : ∀ b ∈ xs, b.Wf) (wt : ∀ zs ∈ t, ∀ z ∈ zs, (Lit.int .i64 z).wf = true) (g : Nat) (w : World) (hc : CaseAt w g c hv) (h1 : caseB c = true) (sl : SliceOf w (.slice A xs.length m) xs) (hm : xs.length ≤ m) (h2 : okB xs = true) (ht : TabOf w v t) (mt : t.length ≤ maxLen) :
    Calls Try.prog 87 #[.pointer (some ⟨g, 0, none⟩), .slice A xs.length m, v] w fun e w' => e = .returned (.bool (proofB c xs t)) ∧ Below w.heap.size w w' := by
  obtain ⟨cl1, cl2⟩ := caseB_lens h1
  have h60 := okB_len h2
  have HC := Lib.hid hc
  have SL := Lib.hid sl
  have WC := Lib.hid wc
  have WF := Lib.hid wf
  have WT := Lib.hid wt
  have HT := Lib.hid ht
  have mc : Hid (c.hs.length ≤ maxLen) := Lib.hid (by unfold maxLen; omega)
  have K1 := Lib.hid h1
  obtain ⟨T, cT, rfl, -⟩ := ht
  obtain ⟨-, -, c2, -, ⟨H, qh, rfl, -⟩⟩ := hc
  unfold maxLen at mt
  clear sl wc wf wt h1 h2
  by_cases e : t.length = c.hs.length + 1
  · obtain ⟨g0, o0, rfl, hg0⟩ := HT.out.some_ (by omega)
    have EL := Lib.hid e
    rw [e] at HT ⊢
    have d0 : ((((c.hs.length + 1 : Nat) : Int)) != (c.hs.length : Int) + 1) = false := by simp
    clear e mt
    go_enter Try.func87, Try.ntmps87
    go_wp2
    clear d0
    go_loopw [9] (fun s_ wr => ∃ j : Nat, j ≤ c.hs.length + 1 ∧ s_ = .int .i64 (j : Int) ∧ (∀ s, s < j → (t.getD s []).length = xs.length + 1) ∧ Below w.heap.size w wr) (fun s_ _ => c.hs.length + 1 - (intOf s_).toNat)
    case atStart => exact ⟨0, by omega, rfl, fun _ h => absurd h (Nat.not_lt_zero _), Below.refl _ _⟩
    case round =>
      obtain ⟨j, hj, rfl, hrows, hb⟩ := hrel
      have HR := Lib.hid hrows
      have c2' := (HC.out.below hb).c2
      clear hrows c2
      by_cases hlt : j < c.hs.length + 1
      · have hle : (j : Int) ≤ (c.hs.length : Int) := by omega
        obtain ⟨As, cs, p0, -⟩ := HT.out.row hb (s := j) (by have := EL.out; omega)
        have HL := Lib.hid (show (t.getD j []).length = (t.getD j []).length from rfl)
        generalize hq : (t.getD j []).length = q at p0
        have HQ := Lib.hid hq
        clear hq HL
        by_cases hq : q = xs.length + 1
        · have d1 : (((q : Nat) : Int) != (xs.length : Int) + 1) = false := by rw [hq]; simp
          have HN := Lib.hid hq
          clear hq
          go_wp2
          go_roundw
          case rel => exact ⟨j + 1, by omega, by go_num, all_succ HR.out (by rw [HQ.out]; exact HN.out), hb⟩
          case measure => simp [intOf]; omega
        · have d1 : (((q : Nat) : Int) != (xs.length : Int) + 1) = true := by rw [bne_iff_ne]; omega
          have E := Lib.hid (proofB_no (c := c) (xs := xs) (t := t) (fun h => hq (by rw [← HQ.out]; exact h.rows j hlt)))
          clear hq
          go_wp2
          go_ret
          exact ⟨by rw [E.out]; rfl, hb⟩
      · have hle : ¬ ((j : Int) ≤ (c.hs.length : Int)) := by omega
        obtain rfl : j = c.hs.length + 1 := by omega
        clear hj hlt
        go_wp2
        clear hle
        go_loopw [10] (fun i_ ws => ∃ i : Nat, i ≤ xs.length + 1 ∧ i_ = .int .i64 (i : Int) ∧ (∀ i', i' < i → tv t c.hs.length i' = endI xs.length i') ∧ Below w.heap.size w ws) (fun i_ _ => xs.length + 1 - (intOf i_).toNat)
        case atStart => exact ⟨0, by omega, rfl, fun _ h => absurd h (Nat.not_lt_zero _), hb⟩
        case round =>
          obtain ⟨i, hi, rfl, hlast, hbs⟩ := hrel
          have HLA := Lib.hid hlast
          clear hlast c2'
          by_cases hlt : i < xs.length + 1
          · have hle : (i : Int) ≤ (xs.length : Int) := by omega
            obtain ⟨gs, os, cs, p0, p1, -⟩ := HT.out.num hbs (s := c.hs.length) (i := i) (by have := EL.out; omega) (HR.out c.hs.length (by omega)) hlt
            generalize hz : tv t c.hs.length i = z at p1
            have HZ := Lib.hid hz
            clear hz
            by_cases hin : i < xs.length
            · have hin' : (i : Int) < (xs.length : Int) := by omega
              have d2 : ((i : Int) == (xs.length : Int)) = false := by rw [beq_eq_false_iff_ne]; omega
              by_cases hz : z = -1
              · have d3 : (z != -1) = false := by rw [hz]; rfl
                have EZ := Lib.hid (show tv t c.hs.length i = endI xs.length i by rw [HZ.out, hz]; unfold endI; rw [if_neg (by omega)])
                clear hz
                go_wp2
                go_roundw
                case rel => exact ⟨i + 1, by omega, by go_num, all_succ HLA.out EZ.out, hbs⟩
                case measure => simp [intOf]; omega
              · have d3 : (z != -1) = true := by rw [bne_iff_ne]; exact hz
                have E := Lib.hid (proofB_no (c := c) (xs := xs) (t := t) (fun h => hz (by rw [← HZ.out, h.last i hlt]; unfold endI; rw [if_neg (by omega)])))
                clear hz
                go_wp2
                go_ret
                exact ⟨by rw [E.out]; rfl, hbs⟩
            · have hin' : ¬ ((i : Int) < (xs.length : Int)) := by omega
              have d2 : ((i : Int) == (xs.length : Int)) = true := by rw [beq_iff_eq]; omega
              by_cases hz : z = 0
              · have d3 : (z != 0) = false := by rw [hz]; rfl
                have EZ := Lib.hid (show tv t c.hs.length i = endI xs.length i by rw [HZ.out, hz]; unfold endI; rw [if_pos (by omega)])
                clear hz
                go_wp2
                go_roundw
                case rel => exact ⟨i + 1, by omega, by go_num, all_succ HLA.out EZ.out, hbs⟩
                case measure => simp [intOf]; omega
              · have d3 : (z != 0) = true := by rw [bne_iff_ne]; exact hz
                have E := Lib.hid (proofB_no (c := c) (xs := xs) (t := t) (fun h => hz (by rw [← HZ.out, h.last i hlt]; unfold endI; rw [if_pos (by omega)])))
                clear hz
                go_wp2
                go_ret
                exact ⟨by rw [E.out]; rfl, hbs⟩
          · have hle : ¬ ((i : Int) ≤ (xs.length : Int)) := by omega
            obtain rfl : i = xs.length + 1 := by omega
            clear hi hlt
            go_wp2
            clear hle
            go_loopw [11] (fun s_ wt => ∃ s : Nat, s ≤ c.hs.length ∧ s_ = .int .i64 (s : Int) ∧ (∀ s', s' < s → ∀ i, i < xs.length + 1 → CellP c xs t s' i) ∧ Below w.heap.size w wt) (fun s_ _ => c.hs.length - (intOf s_).toNat)
            case atStart => exact ⟨0, by omega, rfl, fun _ h => absurd h (Nat.not_lt_zero _), hbs⟩
            case round =>
              obtain ⟨s, hs, rfl, hcells, hbt⟩ := hrel
              have HCE := Lib.hid hcells
              clear hcells
              by_cases hlt : s < c.hs.length
              · have hlt' : (s : Int) < (c.hs.length : Int) := by omega
                go_wp2
                go_loopw [12] (fun i_ wu => ∃ i : Nat, i ≤ xs.length + 1 ∧ i_ = .int .i64 (i : Int) ∧ (∀ i', i' < i → CellP c xs t s i') ∧ Below w.heap.size w wu) (fun i_ _ => xs.length + 1 - (intOf i_).toNat)
                case atStart => exact ⟨0, by omega, rfl, fun _ h => absurd h (Nat.not_lt_zero _), hbt⟩
                case round =>
                  obtain ⟨i, hi, rfl, hrow, hbu⟩ := hrel
                  have HRO := Lib.hid hrow
                  clear hrow
                  by_cases hli : i < xs.length + 1
                  · have hle : (i : Int) ≤ (xs.length : Int) := by omega
                    obtain ⟨gs, os, cs, p0, p1, hgs⟩ := HT.out.num hbu (s := s) (i := i) (by have := EL.out; omega) (HR.out s (by omega)) hli
                    obtain ⟨tz1, tz2⟩ := tv_in WT.out s i
                    generalize hz : tv t s i = z at p1 tz1 tz2
                    have HZ := Lib.hid hz
                    clear hz
                    by_cases hz : z < -1
                    · have E := Lib.hid (proofB_no (c := c) (xs := xs) (t := t) (fun h => by have := (h.cells s hlt i hli).1; rw [HZ.out] at this; omega))
                      go_wp2
                      go_ret
                      exact ⟨by rw [E.out]; rfl, hbu⟩
                    · have hz' : -1 ≤ z := by omega
                      have hin : i ≤ xs.length := by omega
                      clear tz1
                      go_wp2
                      clear hz p0 p1
                      go_loopw [13] (fun k_ wv => ∃ d k : Nat, k = i + d ∧ k ≤ xs.length + 1 ∧ k_ = .int .i64 (k : Int) ∧ FitD c s xs i d ∧ StepsTo c xs t s i d ∧ Below w.heap.size w wv) (fun k_ _ => xs.length + 1 - (intOf k_).toNat)
                      case atStart => exact ⟨0, i, rfl, by omega, rfl, .inl rfl, fun _ h => absurd h (Nat.not_lt_zero _), hbu⟩
                      case round =>
                        obtain ⟨d, k, hk, hkn, rfl, hfd, hst, hbv⟩ := hrel
                        have FD := Lib.hid hfd
                        have ST := Lib.hid hst
                        have HK := Lib.hid hk
                        have hik : i ≤ k := by omega
                        clear hfd hst hk
                        by_cases hkl : k ≤ xs.length
                        · have hkl' : (k : Int) ≤ (xs.length : Int) := by omega
                          have hsl := run_part2 A xs.length m i k hik (by omega)
                          go_wp2_with fail
                          refine (l02Price_any c _ _ (part xs i k) s false WC.out (part_wf i k WF.out) g _ (HC.out.below hbv) mc.out hlt ((SL.out.below hbv).part hik hkl (show k ≤ m by omega)) (by rw [part_length hkl]; omega)).mono ?_
                          rintro e w1 ⟨rfl, g1⟩
                          clear hsl
                          obtain ⟨pb1, pb2⟩ := priceS_bd c s (part xs i k) false WC.out (part_wf i k WF.out) (by rw [part_length hkl]; omega)
                          cases hfit : fitsB c s (part xs i k)
                          · have hp := priceS_not (b := false) hfit
                            have E := Lib.hid (FD.out.no K1.out (by have := HK.out; omega) (by rw [← HK.out]; exact hfit))
                            clear hfit
                            generalize priceS c s (part xs i k) false = pr at *
                            go_wp2
                            go_roundw
                            case rel => exact ⟨i + 1, by omega, by go_num, all_succ HRO.out ⟨by rw [HZ.out]; exact hz', by rw [E.out.1]; exact ST.out⟩, bnext hbv g1⟩
                            case measure => simp [intOf]; omega
                          · have hp := priceS_fit (b := false) hfit
                            have FD2 := Lib.hid (FD.out.yes (by have := HK.out; omega) (by rw [← HK.out]; exact hfit))
                            clear hfit
                            have hb1 := bnext hbv g1
                            obtain ⟨gs, os, cs, p0, p1, -⟩ := HT.out.num hb1 (s := s) (i := i) (by have := EL.out; omega) (HR.out s (by omega)) hli
                            obtain ⟨gr, or, cr, q0, q1, -⟩ := HT.out.num hb1 (s := s + 1) (i := k) (by have := EL.out; omega) (HR.out (s + 1) (by omega)) (show k < xs.length + 1 by omega)
                            rw [HZ.out] at p1
                            have SP := Lib.hid (show StepP c xs t s i k = (tv t (s + 1) k = -1 ∨ (z ≠ -1 ∧ z - priceS c s (part xs i k) false ≤ tv t (s + 1) k)) by unfold StepP; rw [HZ.out])
                            have hs1 : s + 1 < c.hs.length + 1 := by omega
                            generalize priceS c s (part xs i k) false = pr at *
                            generalize tv t (s + 1) k = r at *
                            have hw1 : IntKind.i64.wrap (z - pr) = z - pr := IntWalk.i64_in _ (by omega)
                            by_cases hr : r = -1
                            · have d1 : (r != -1) = false := by rw [hr]; rfl
                              have OKS := Lib.hid (show StepP c xs t s i k by rw [SP.out]; exact .inl hr)
                              clear hr
                              go_wp2
                              go_roundw
                              case rel => exact ⟨d + 1, k + 1, by have := HK.out; omega, by omega, by go_num, FD2.out, ST.out.succ (by rw [← HK.out]; exact OKS.out), hb1⟩
                              case measure => simp [intOf]; omega
                            · have d1 : (r != -1) = true := by rw [bne_iff_ne]; exact hr
                              by_cases hz0 : z = -1
                              · have d2 : (z == -1) = true := by rw [hz0]; rfl
                                have E := Lib.hid (proofB_no (c := c) (xs := xs) (t := t) (fun h => by
                                  have h5 := (h.cells s hlt i hli).2 d (by have := FD2.out.le; omega)
                                  rw [← HK.out, SP.out] at h5
                                  rcases h5 with h5 | h5
                                  · exact hr h5
                                  · exact h5.1 hz0))
                                clear hr hz0
                                go_wp2
                                go_ret
                                exact ⟨by rw [E.out]; rfl, hb1⟩
                              · have d2 : (z == -1) = false := by rw [beq_eq_false_iff_ne]; exact hz0
                                by_cases hgt : r < z - pr
                                · have E := Lib.hid (proofB_no (c := c) (xs := xs) (t := t) (fun h => by
                                    have h5 := (h.cells s hlt i hli).2 d (by have := FD2.out.le; omega)
                                    rw [← HK.out, SP.out] at h5
                                    rcases h5 with h5 | h5
                                    · exact hr h5
                                    · omega))
                                  clear hr hz0
                                  go_wp2
                                  go_ret
                                  exact ⟨by rw [E.out]; rfl, hb1⟩
                                · have OKS := Lib.hid (show StepP c xs t s i k by rw [SP.out]; exact .inr ⟨hz0, by omega⟩)
                                  have hgt' : ¬ (z - pr > r) := by omega
                                  clear hr hz0
                                  go_wp2
                                  go_roundw
                                  case rel => exact ⟨d + 1, k + 1, by have := HK.out; omega, by omega, by go_num, FD2.out, ST.out.succ (by rw [← HK.out]; exact OKS.out), hb1⟩
                                  case measure => simp [intOf]; omega
                        · have hkl' : ¬ ((k : Int) ≤ (xs.length : Int)) := by omega
                          have E := Lib.hid (FD.out.end_ hin (by have := HK.out; omega))
                          go_wp2
                          go_roundw
                          case rel => exact ⟨i + 1, by omega, by go_num, all_succ HRO.out ⟨by rw [HZ.out]; exact hz', by rw [E.out.1]; exact ST.out⟩, hbv⟩
                          case measure => simp [intOf]; omega
                  · have hle : ¬ ((i : Int) ≤ (xs.length : Int)) := by omega
                    obtain rfl : i = xs.length + 1 := by omega
                    go_wp2
                    go_roundw
                    case rel => exact ⟨s + 1, by omega, by go_num, all_succ HCE.out HRO.out, hbu⟩
                    case measure => simp [intOf]; omega
              · have hlt' : ¬ ((s : Int) < (c.hs.length : Int)) := by omega
                obtain rfl : s = c.hs.length := by omega
                have E := Lib.hid (proofB_yes (c := c) (xs := xs) (t := t) ⟨EL.out, HR.out, HLA.out, HCE.out⟩)
                go_wp2
                go_ret
                exact ⟨by rw [E.out]; rfl, hbt⟩
  · have d0 : (((t.length : Nat) : Int) != (c.hs.length : Int) + 1) = true := by rw [bne_iff_ne]; omega
    have E := Lib.hid (proofB_no (c := c) (xs := xs) (t := t) (fun h => e h.len))
    clear e
    go_enter Try.func87, Try.ntmps87
    go_wp2
    go_ret
    exact ⟨by rw [E.out]; rfl, Below.refl _ _⟩

end Go.Proofs.Ytonclaakaaidlaa
