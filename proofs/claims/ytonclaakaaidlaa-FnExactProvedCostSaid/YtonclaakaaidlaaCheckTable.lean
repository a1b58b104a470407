/- CheckTable and ProvedCost, by the model and by the program: contracts. Condition: lists and tables no longer than slices can be. -/
import Derived.Test.YtonclaakaaidlaaProvedAt
namespace Go.Proofs.Ytonclaakaaidlaa
set_option linter.unusedSimpArgs false
set_option linter.unusedVariables false
set_option maxRecDepth 100000
open Go.RowKit

theorem ProofP.of {c : Cs} {xs : List Bk} {t : List (List Int)} (h : FormP c xs t) (hc : ∀ s, s < c.hs.length → ∀ i, i < xs.length + 1 → StepsTo c xs t s i (cntR c s xs i)) : ProofP c xs t :=
  ⟨h.len, h.rows, h.last, fun s hs i hi => ⟨h.least s (by omega) i hi, hc s hs i hi⟩⟩

set_option maxHeartbeats 16000000 in
theorem isProof_any (c : Cs) (hv : Value) (A : Option Addr) (m : Nat) (v : Value) (xs : List Bk) (t : List (List Int)) (wc : c.Wf) (wf : ∀ b ∈ xs, b.Wf) (wt : ∀ zs ∈ t, ∀ z ∈ zs, (Lit.int .i64 z).wf = true) (w : World) (sc : IntsOf .i16 w hv c.hs) (h1 : caseB c = true) (sl : SliceOf w (.slice A xs.length m) xs) (hm : xs.length ≤ m) (h2 : okB xs = true) (ht : TabOf w v t) (mt : t.length ≤ maxLen) :
    Calls Try.prog 89 #[.agg #[.int .i16 c.wi, .int .i32 c.lo, hv], .slice A xs.length m, v] w fun e w' => e = .returned (.bool (proofB c xs t)) ∧ Below w.heap.size w w' := by
  obtain ⟨cl1, cl2⟩ := caseB_lens h1
  have h60 := okB_len h2
  have HB := Lib.hid (CaseAt.new (t := 53) sc)
  have G0 := Lib.hid (show Below w.heap.size w (w.alloc (.cells #[.int .i16 c.wi, .int .i32 c.lo, hv] 53)) by go_grown)
  have HC := Lib.hid (sc.below G0.out)
  have SL := Lib.hid (sl.below G0.out)
  have HT := Lib.hid (ht.below G0.out)
  have WC := Lib.hid wc
  have WF := Lib.hid wf
  have WT := Lib.hid wt
  have K1 := Lib.hid h1
  have K2 := Lib.hid h2
  have MT := Lib.hid mt
  obtain ⟨H, qh, rfl, -⟩ := sc
  obtain ⟨T, cT, rfl, -⟩ := ht
  clear sl wc wf wt h1 h2 mt
  cases hF : formB c xs t
  · have E := Lib.hid (proofB_no (c := c) (xs := xs) (t := t) (fun h => formB_not hF h.form))
    have HF := Lib.hid hF
    clear hF
    go_enter Try.func89, Try.ntmps89
    go_wp2_with fail
    generalize World.alloc _ _ = W0 at HB G0 HC SL HT ⊢
    refine (isTable_any c _ A m _ xs t _ HC.out K1.out K2.out HT.out MT.out).mono ?_
    rintro e w1 ⟨rfl, g1⟩
    rw [HF.out]
    go_wp2
    go_ret
    exact ⟨by rw [E.out]; rfl, bnext G0.out g1⟩
  · have hP := formB_out hF
    have HF := Lib.hid hF
    have HFP := Lib.hid hP
    obtain ⟨g0, o0, rfl, hg0⟩ := HT.out.some_ (by have := hP.len; omega)
    have HLT := Lib.hid hP.len
    rw [hP.len] at HT ⊢
    clear hF hP
    go_enter Try.func89, Try.ntmps89
    go_wp2_with fail
    generalize World.alloc _ _ = W0 at HB G0 HC SL HT hg0 ⊢
    have CT := Lib.hid (isTable_any c _ A m _ xs t _ HC.out K1.out K2.out HT.out MT.out)
    refine CT.out.mono ?_
    rintro e w1 ⟨rfl, g1⟩
    rw [HF.out]
    have c2 := (HB.out.below g1).c2
    go_wp2
    clear c2 CT
    go_loopw [17] (fun s_ wr => ∃ s : Nat, s ≤ c.hs.length ∧ s_ = .int .i64 (s : Int) ∧ (∀ s', s' < s → ∀ i, i < xs.length + 1 → StepsTo c xs t s' i (cntR c s' xs i)) ∧ Below W0.heap.size W0 wr) (fun s_ _ => c.hs.length - (intOf s_).toNat)
    case atStart => exact ⟨0, by omega, rfl, fun _ h => absurd h (Nat.not_lt_zero _), g1⟩
    case round =>
      obtain ⟨s, hs, rfl, hst, hb⟩ := hrel
      have ST := Lib.hid hst
      clear hst
      by_cases hlt : s < c.hs.length
      · have hs1 : s < c.hs.length + 1 := by omega
        obtain ⟨gs, os, cs, p0, hgs, -⟩ := HT.out.num2 hb (s := s) (by have := HLT.out; omega) (HFP.out.rows s (by omega)) (by omega)
        go_wp2
        clear p0
        go_loopw [25] (fun i_ ws => ∃ i : Nat, i ≤ xs.length + 1 ∧ i_ = .int .i64 (i : Int) ∧ (∀ i', i' < i → StepsTo c xs t s i' (cntR c s xs i')) ∧ Below W0.heap.size W0 ws) (fun i_ _ => xs.length + 1 - (intOf i_).toNat)
        case atStart => exact ⟨0, by omega, rfl, fun _ h => absurd h (Nat.not_lt_zero _), hb⟩
        case round =>
          obtain ⟨i, hi, rfl, hrow, hbs⟩ := hrel
          have RO := Lib.hid hrow
          clear hrow
          by_cases hli : i < xs.length + 1
          · have hli' : (i : Int) < (((xs.length + 1 : Nat) : Int)) := by omega
            have CP := Lib.hid (isProvedAt_any c _ A m _ xs t s i WC.out WF.out WT.out _ (HC.out.below hbs) K1.out (SL.out.below hbs) hm K2.out (HT.out.below hbs) HFP.out hlt hli)
            obtain ⟨c0, c1, c2, cz, -⟩ := HB.out.below hbs
            cases hq : cellB c xs t s i
            · have E := Lib.hid (proofB_no (c := c) (xs := xs) (t := t) (fun h => cellB_not hq ((h.cells s hlt i hli).2)))
              rw [hq] at CP
              clear hq
              go_wp2_with fail
              refine CP.out.mono ?_
              rintro e w2 ⟨rfl, g2⟩
              clear c0 c1 c2
              go_wp2
              go_ret
              exact ⟨by rw [E.out]; rfl, bnext G0.out (bnext hbs g2)⟩
            · have E := Lib.hid (cellB_out hq)
              rw [hq] at CP
              clear hq
              go_wp2_with fail
              refine CP.out.mono ?_
              rintro e w2 ⟨rfl, g2⟩
              clear c0 c1 c2
              go_wp2
              go_roundw
              case rel => exact ⟨i + 1, by omega, by go_num, all_succ RO.out E.out, bnext hbs g2⟩
              case measure => simp [intOf]; omega
          · have hli' : ¬ ((i : Int) < (((xs.length + 1 : Nat) : Int))) := by omega
            obtain rfl : i = xs.length + 1 := by omega
            go_wp2
            go_roundw
            case rel => exact ⟨s + 1, by omega, by go_num, all_succ ST.out RO.out, hbs⟩
            case measure => simp [intOf]; omega
      · obtain rfl : s = c.hs.length := by omega
        have E := Lib.hid (proofB_yes (c := c) (xs := xs) (t := t) (ProofP.of HFP.out ST.out))
        go_wp2
        go_ret
        exact ⟨by rw [E.out]; rfl, bnext G0.out hb⟩

noncomputable def ctB (c : Cs) (xs : List Bk) (t : List (List Int)) : Bool := askB c xs && proofB c xs t
noncomputable def pcCode (c : Cs) (xs : List Bk) (t : List (List Int)) : Int := if askB c xs = false then 1 else if proofB c xs t = false then 8 else if tv t 0 0 = -1 then 6 else 0
noncomputable def pcVal (c : Cs) (xs : List Bk) (t : List (List Int)) : Int := if pcCode c xs t = 0 then tv t 0 0 else 0
theorem ask_two (c : Cs) (xs : List Bk) : (askB c xs = false ∧ askCode c xs = 1) ∨ (askB c xs = true ∧ askCode c xs = 0 ∧ caseB c = true ∧ okB xs = true) := by
  rcases askB_cases c xs with ⟨h1, h2, h3⟩ | ⟨h1, h2, h3, h4⟩ | ⟨h1, h2, h3, h4⟩
  · exact .inl ⟨h2, h3⟩
  · exact .inl ⟨h3, h4⟩
  · exact .inr ⟨h3, h4, h1, h2⟩
theorem proofB_out {c : Cs} {xs : List Bk} {t : List (List Int)} (h : proofB c xs t = true) : ProofP c xs t := by unfold proofB at h; exact @of_decide_eq_true _ (Classical.propDecidable _) h

set_option maxHeartbeats 2000000 in
theorem specCheckTable_any (c : Cs) (hv : Value) (A : Option Addr) (m : Nat) (v : Value) (xs : List Bk) (t : List (List Int)) (wc : c.Wf) (wf : ∀ b ∈ xs, b.Wf) (wt : ∀ zs ∈ t, ∀ z ∈ zs, (Lit.int .i64 z).wf = true) (w : World) (sc : IntsOf .i16 w hv c.hs) (mc : c.hs.length ≤ maxLen) (sl : SliceOf w (.slice A xs.length m) xs) (hm : xs.length ≤ m) (ml : xs.length ≤ maxLen) (ht : TabOf w v t) (mt : t.length ≤ maxLen) :
    Calls Try.prog 49 #[.agg #[.int .i16 c.wi, .int .i32 c.lo, hv], .slice A xs.length m, v] w fun e w' => e = .returned (.tuple #[.bool (ctB c xs t), .int .i64 (askCode c xs)]) ∧ Below w.heap.size w w' := by
  have HC := Lib.hid (CaseAt.new (t := 53) sc)
  have G0 := Lib.hid (show Below w.heap.size w (w.alloc (.cells #[.int .i16 c.wi, .int .i32 c.lo, hv] 53)) by go_grown)
  have SL := Lib.hid (sl.below G0.out)
  have HT := Lib.hid (ht.below G0.out)
  have WF := Lib.hid wf
  have WT := Lib.hid wt
  obtain ⟨H, qh, rfl, -⟩ := sc
  obtain ⟨T, cT, rfl, -⟩ := ht
  clear wf wt sl
  rcases ask_two c xs with ⟨h1, h2⟩ | ⟨h1, h2, h3, h4⟩
  · have E0 := Lib.hid (show ctB c xs t = false by unfold ctB; rw [h1]; rfl)
    have E1 := Lib.hid h2
    clear h1 h2
    go_enter Try.func49, Try.ntmps49
    go_wp2_with fail
    generalize World.alloc _ _ = W0 at HC G0 SL HT ⊢
    refine (l02Asked_any c _ _ xs wc WF.out _ _ HC.out mc SL.out ml).mono ?_
    rintro e w1 ⟨rfl, g1⟩
    rw [E1.out]
    go_wp2
    go_ret2
    exact ⟨by rw [E0.out, E1.out]; rfl, bnext G0.out g1⟩
  · have E0 := Lib.hid (show ctB c xs t = proofB c xs t by unfold ctB; rw [h1]; rfl)
    have E1 := Lib.hid h2
    have K1 := Lib.hid h3
    have K2 := Lib.hid h4
    clear h1 h2 h3 h4
    go_enter Try.func49, Try.ntmps49
    go_wp2_with fail
    generalize World.alloc _ _ = W0 at HC G0 SL HT ⊢
    refine (l02Asked_any c _ _ xs wc WF.out _ _ HC.out mc SL.out ml).mono ?_
    rintro e w1 ⟨rfl, g1⟩
    rw [E1.out]
    go_wp2_with fail
    refine (l02Proof_any c _ A m _ xs t wc WF.out WT.out _ _ (HC.out.below g1) K1.out (SL.out.below g1) hm K2.out (HT.out.below g1) mt).mono ?_
    rintro e w2 ⟨rfl, g2⟩
    go_wp2
    go_ret2
    exact ⟨by rw [E0.out, E1.out]; rfl, bnext (bnext G0.out g1) g2⟩

set_option maxHeartbeats 2000000 in
theorem checkTable_any (c : Cs) (hv : Value) (A : Option Addr) (m : Nat) (v : Value) (xs : List Bk) (t : List (List Int)) (wc : c.Wf) (wf : ∀ b ∈ xs, b.Wf) (wt : ∀ zs ∈ t, ∀ z ∈ zs, (Lit.int .i64 z).wf = true) (w : World) (sc : IntsOf .i16 w hv c.hs) (mc : c.hs.length ≤ maxLen) (sl : SliceOf w (.slice A xs.length m) xs) (hm : xs.length ≤ m) (ml : xs.length ≤ maxLen) (ht : TabOf w v t) (mt : t.length ≤ maxLen) :
    Calls Try.prog 51 #[.agg #[.int .i16 c.wi, .int .i32 c.lo, hv], .slice A xs.length m, v] w fun e w' => e = .returned (.tuple #[.bool (ctB c xs t), .int .i64 (askCode c xs)]) ∧ Below w.heap.size w w' := by
  have HB := Lib.hid (CaseAt.new (t := 53) sc)
  have G0 := Lib.hid (show Below w.heap.size w (w.alloc (.cells #[.int .i16 c.wi, .int .i32 c.lo, hv] 53)) by go_grown)
  have HC := Lib.hid (sc.below G0.out)
  have SL := Lib.hid (sl.below G0.out)
  have HT := Lib.hid (ht.below G0.out)
  have WF := Lib.hid wf
  have WT := Lib.hid wt
  obtain ⟨H, qh, rfl, -⟩ := sc
  obtain ⟨T, cT, rfl, -⟩ := ht
  clear wf wt sl
  rcases ask_two c xs with ⟨h1, h2⟩ | ⟨h1, h2, h3, h4⟩
  · have E0 := Lib.hid (show ctB c xs t = false by unfold ctB; rw [h1]; rfl)
    have E1 := Lib.hid h2
    have HA := Lib.hid h1
    clear h1 h2
    go_enter Try.func51, Try.ntmps51
    go_wp2_with fail
    generalize World.alloc _ _ = W0 at HB HC G0 SL HT ⊢
    refine (validBoth_any c _ _ xs _ HC.out mc SL.out ml).mono ?_
    rintro e w1 ⟨rfl, g1⟩
    rw [HA.out]
    go_wp2
    go_ret2
    exact ⟨by rw [E0.out, E1.out]; rfl, bnext G0.out g1⟩
  · have E0 := Lib.hid (show ctB c xs t = proofB c xs t by unfold ctB; rw [h1]; rfl)
    have E1 := Lib.hid h2
    have HA := Lib.hid h1
    have K1 := Lib.hid h3
    have K2 := Lib.hid h4
    clear h1 h2 h3 h4
    go_enter Try.func51, Try.ntmps51
    go_wp2_with fail
    generalize World.alloc _ _ = W0 at HB HC G0 SL HT ⊢
    refine (validBoth_any c _ _ xs _ HC.out mc SL.out ml).mono ?_
    rintro e w1 ⟨rfl, g1⟩
    rw [HA.out]
    obtain ⟨c0, c1, c2, cz, -⟩ := HB.out.below g1
    go_wp2_with fail
    refine (isProof_any c _ A m _ xs t wc WF.out WT.out _ (HC.out.below g1) K1.out (SL.out.below g1) hm K2.out (HT.out.below g1) mt).mono ?_
    rintro e w2 ⟨rfl, g2⟩
    clear c0 c1 c2
    go_wp2
    go_ret2
    exact ⟨by rw [E0.out, E1.out]; rfl, bnext (bnext G0.out g1) g2⟩

set_option maxHeartbeats 4000000 in
theorem specProvedCost_any (c : Cs) (hv : Value) (A : Option Addr) (m : Nat) (v : Value) (xs : List Bk) (t : List (List Int)) (wc : c.Wf) (wf : ∀ b ∈ xs, b.Wf) (wt : ∀ zs ∈ t, ∀ z ∈ zs, (Lit.int .i64 z).wf = true) (w : World) (sc : IntsOf .i16 w hv c.hs) (mc : c.hs.length ≤ maxLen) (sl : SliceOf w (.slice A xs.length m) xs) (hm : xs.length ≤ m) (ml : xs.length ≤ maxLen) (ht : TabOf w v t) (mt : t.length ≤ maxLen) :
    Calls Try.prog 52 #[.agg #[.int .i16 c.wi, .int .i32 c.lo, hv], .slice A xs.length m, v] w fun e w' => e = .returned (.tuple #[.int .i64 (pcVal c xs t), .int .i64 (pcCode c xs t)]) ∧ Below w.heap.size w w' := by
  have HC := Lib.hid (CaseAt.new (t := 53) sc)
  have G0 := Lib.hid (show Below w.heap.size w (w.alloc (.cells #[.int .i16 c.wi, .int .i32 c.lo, hv] 53)) by go_grown)
  have SL := Lib.hid (sl.below G0.out)
  have HT := Lib.hid (ht.below G0.out)
  have WF := Lib.hid wf
  have WT := Lib.hid wt
  obtain ⟨H, qh, rfl, -⟩ := sc
  obtain ⟨T, cT, rfl, -⟩ := ht
  clear wf wt sl
  rcases ask_two c xs with ⟨h1, h2⟩ | ⟨h1, h2, h3, h4⟩
  · have E2 := Lib.hid (show pcCode c xs t = 1 by unfold pcCode; rw [if_pos h1])
    have E0 := Lib.hid (show pcVal c xs t = 0 by unfold pcVal; rw [E2.out]; rfl)
    have E1 := Lib.hid h2
    clear h1 h2
    go_enter Try.func52, Try.ntmps52
    go_wp2_with fail
    generalize World.alloc _ _ = W0 at HC G0 SL HT ⊢
    refine (l02Asked_any c _ _ xs wc WF.out _ _ HC.out mc SL.out ml).mono ?_
    rintro e w1 ⟨rfl, g1⟩
    rw [E1.out]
    go_wp2
    go_ret2
    exact ⟨by rw [E0.out, E2.out]; rfl, bnext G0.out g1⟩
  · have E1 := Lib.hid h2
    have K1 := Lib.hid h3
    have K2 := Lib.hid h4
    cases hP : proofB c xs t
    · have E2 := Lib.hid (show pcCode c xs t = 8 by unfold pcCode; rw [if_neg (by rw [h1]; decide), if_pos hP])
      have E0 := Lib.hid (show pcVal c xs t = 0 by unfold pcVal; rw [E2.out]; rfl)
      have HP := Lib.hid hP
      clear h1 h2 h3 h4 hP
      go_enter Try.func52, Try.ntmps52
      go_wp2_with fail
      generalize World.alloc _ _ = W0 at HC G0 SL HT ⊢
      refine (l02Asked_any c _ _ xs wc WF.out _ _ HC.out mc SL.out ml).mono ?_
      rintro e w1 ⟨rfl, g1⟩
      rw [E1.out]
      go_wp2_with fail
      refine (l02Proof_any c _ A m _ xs t wc WF.out WT.out _ _ (HC.out.below g1) K1.out (SL.out.below g1) hm K2.out (HT.out.below g1) mt).mono ?_
      rintro e w2 ⟨rfl, g2⟩
      rw [HP.out]
      go_wp2
      go_ret2
      exact ⟨by rw [E0.out, E2.out]; rfl, bnext (bnext G0.out g1) g2⟩
    · have hQ := proofB_out hP
      obtain ⟨cl1, cl2⟩ := caseB_lens h3
      obtain ⟨g0, o0, rfl, hg0⟩ := HT.out.some_ (by have := hQ.len; omega)
      have HR := Lib.hid (hQ.rows 0 (by omega))
      have HL := Lib.hid hQ.len
      have lo := (hQ.cells 0 (by omega) 0 (by omega)).1
      have HP := Lib.hid hP
      have n0 : 0 < t.length := by have := hQ.len; omega
      have E2 := Lib.hid (show pcCode c xs t = if tv t 0 0 = -1 then 6 else 0 by unfold pcCode; rw [if_neg (by rw [h1]; decide), if_neg (by rw [hP]; decide)])
      have E0 := Lib.hid (show pcVal c xs t = if (if tv t 0 0 = -1 then (6 : Int) else 0) = 0 then tv t 0 0 else 0 by unfold pcVal; rw [E2.out])
      clear h1 h2 h3 h4 hP hQ
      by_cases hz : tv t 0 0 = -1
      · rw [hz] at E0 E2
        have HZ := Lib.hid hz
        clear hz lo
        go_enter Try.func52, Try.ntmps52
        go_wp2_with fail
        generalize World.alloc _ _ = W0 at HC G0 SL HT hg0 ⊢
        refine (l02Asked_any c _ _ xs wc WF.out _ _ HC.out mc SL.out ml).mono ?_
        rintro e w1 ⟨rfl, g1⟩
        rw [E1.out]
        go_wp2_with fail
        refine (l02Proof_any c _ A m _ xs t wc WF.out WT.out _ _ (HC.out.below g1) K1.out (SL.out.below g1) hm K2.out (HT.out.below g1) mt).mono ?_
        rintro e w2 ⟨rfl, g2⟩
        rw [HP.out]
        obtain ⟨gs, os, cs, p0, p1, -⟩ := HT.out.num (bnext g1 g2) (s := 0) (i := 0) n0 HR.out (by omega)
        rw [HZ.out] at p1
        rw [Nat.add_zero] at p0 p1
        go_wp2
        go_ret2
        exact ⟨by rw [E0.out, E2.out]; rfl, bnext (bnext G0.out g1) g2⟩
      · rw [if_neg hz] at E0 E2
        have hz0 : ¬ tv t 0 0 < 0 := by omega
        generalize hq : tv t 0 0 = z at hz0 hz lo E0
        have HZ := Lib.hid hq
        clear hq hz lo
        go_enter Try.func52, Try.ntmps52
        go_wp2_with fail
        generalize World.alloc _ _ = W0 at HC G0 SL HT hg0 ⊢
        refine (l02Asked_any c _ _ xs wc WF.out _ _ HC.out mc SL.out ml).mono ?_
        rintro e w1 ⟨rfl, g1⟩
        rw [E1.out]
        go_wp2_with fail
        refine (l02Proof_any c _ A m _ xs t wc WF.out WT.out _ _ (HC.out.below g1) K1.out (SL.out.below g1) hm K2.out (HT.out.below g1) mt).mono ?_
        rintro e w2 ⟨rfl, g2⟩
        rw [HP.out]
        obtain ⟨gs, os, cs, p0, p1, -⟩ := HT.out.num (bnext g1 g2) (s := 0) (i := 0) n0 HR.out (by omega)
        rw [HZ.out] at p1
        rw [Nat.add_zero] at p0 p1
        go_wp2
        go_ret2
        exact ⟨by rw [E0.out, E2.out]; rfl, bnext (bnext G0.out g1) g2⟩

set_option maxHeartbeats 4000000 in
theorem provedCost_any (c : Cs) (hv : Value) (A : Option Addr) (m : Nat) (v : Value) (xs : List Bk) (t : List (List Int)) (wc : c.Wf) (wf : ∀ b ∈ xs, b.Wf) (wt : ∀ zs ∈ t, ∀ z ∈ zs, (Lit.int .i64 z).wf = true) (w : World) (sc : IntsOf .i16 w hv c.hs) (mc : c.hs.length ≤ maxLen) (sl : SliceOf w (.slice A xs.length m) xs) (hm : xs.length ≤ m) (ml : xs.length ≤ maxLen) (ht : TabOf w v t) (mt : t.length ≤ maxLen) :
    Calls Try.prog 53 #[.agg #[.int .i16 c.wi, .int .i32 c.lo, hv], .slice A xs.length m, v] w fun e w' => e = .returned (.tuple #[.int .i64 (pcVal c xs t), .int .i64 (pcCode c xs t)]) ∧ Below w.heap.size w w' := by
  have HB := Lib.hid (CaseAt.new (t := 53) sc)
  have G0 := Lib.hid (show Below w.heap.size w (w.alloc (.cells #[.int .i16 c.wi, .int .i32 c.lo, hv] 53)) by go_grown)
  have HC := Lib.hid (sc.below G0.out)
  have SL := Lib.hid (sl.below G0.out)
  have HT := Lib.hid (ht.below G0.out)
  have WF := Lib.hid wf
  have WT := Lib.hid wt
  obtain ⟨H, qh, rfl, -⟩ := sc
  obtain ⟨T, cT, rfl, -⟩ := ht
  clear wf wt sl
  rcases ask_two c xs with ⟨h1, h2⟩ | ⟨h1, h2, h3, h4⟩
  · have E2 := Lib.hid (show pcCode c xs t = 1 by unfold pcCode; rw [if_pos h1])
    have E0 := Lib.hid (show pcVal c xs t = 0 by unfold pcVal; rw [E2.out]; rfl)
    have HA := Lib.hid h1
    clear h1 h2
    go_enter Try.func53, Try.ntmps53
    go_wp2_with fail
    generalize World.alloc _ _ = W0 at HB HC G0 SL HT ⊢
    refine (validBoth_any c _ _ xs _ HC.out mc SL.out ml).mono ?_
    rintro e w1 ⟨rfl, g1⟩
    rw [HA.out]
    go_wp2
    go_ret2
    exact ⟨by rw [E0.out, E2.out]; rfl, bnext G0.out g1⟩
  · have HA := Lib.hid h1
    have K1 := Lib.hid h3
    have K2 := Lib.hid h4
    cases hP : proofB c xs t
    · have E2 := Lib.hid (show pcCode c xs t = 8 by unfold pcCode; rw [if_neg (by rw [h1]; decide), if_pos hP])
      have E0 := Lib.hid (show pcVal c xs t = 0 by unfold pcVal; rw [E2.out]; rfl)
      have HP := Lib.hid hP
      clear h1 h2 h3 h4 hP
      go_enter Try.func53, Try.ntmps53
      go_wp2_with fail
      generalize World.alloc _ _ = W0 at HB HC G0 SL HT ⊢
      refine (validBoth_any c _ _ xs _ HC.out mc SL.out ml).mono ?_
      rintro e w1 ⟨rfl, g1⟩
      rw [HA.out]
      obtain ⟨c0, c1, c2, cz, -⟩ := HB.out.below g1
      go_wp2_with fail
      refine (isProof_any c _ A m _ xs t wc WF.out WT.out _ (HC.out.below g1) K1.out (SL.out.below g1) hm K2.out (HT.out.below g1) mt).mono ?_
      rintro e w2 ⟨rfl, g2⟩
      clear c0 c1 c2
      rw [HP.out]
      go_wp2
      go_ret2
      exact ⟨by rw [E0.out, E2.out]; rfl, bnext (bnext G0.out g1) g2⟩
    · have hQ := proofB_out hP
      obtain ⟨cl1, cl2⟩ := caseB_lens h3
      obtain ⟨g0, o0, rfl, hg0⟩ := HT.out.some_ (by have := hQ.len; omega)
      have HR := Lib.hid (hQ.rows 0 (by omega))
      have HP := Lib.hid hP
      have n0 : 0 < t.length := by have := hQ.len; omega
      have E2 := Lib.hid (show pcCode c xs t = if tv t 0 0 = -1 then 6 else 0 by unfold pcCode; rw [if_neg (by rw [h1]; decide), if_neg (by rw [hP]; decide)])
      have E0 := Lib.hid (show pcVal c xs t = if (if tv t 0 0 = -1 then (6 : Int) else 0) = 0 then tv t 0 0 else 0 by unfold pcVal; rw [E2.out])
      clear h1 h2 h3 h4 hP hQ
      by_cases hz : tv t 0 0 = -1
      · rw [hz] at E0 E2
        have HZ := Lib.hid hz
        clear hz
        go_enter Try.func53, Try.ntmps53
        go_wp2_with fail
        generalize World.alloc _ _ = W0 at HB HC G0 SL HT hg0 ⊢
        refine (validBoth_any c _ _ xs _ HC.out mc SL.out ml).mono ?_
        rintro e w1 ⟨rfl, g1⟩
        rw [HA.out]
        obtain ⟨c0, c1, c2, cz, -⟩ := HB.out.below g1
        go_wp2_with fail
        refine (isProof_any c _ A m _ xs t wc WF.out WT.out _ (HC.out.below g1) K1.out (SL.out.below g1) hm K2.out (HT.out.below g1) mt).mono ?_
        rintro e w2 ⟨rfl, g2⟩
        clear c0 c1 c2
        rw [HP.out]
        obtain ⟨gs, os, cs, p0, p1, -⟩ := HT.out.num (bnext g1 g2) (s := 0) (i := 0) n0 HR.out (by omega)
        rw [HZ.out] at p1
        rw [Nat.add_zero] at p0 p1
        go_wp2
        go_ret2
        exact ⟨by rw [E0.out, E2.out]; rfl, bnext (bnext G0.out g1) g2⟩
      · rw [if_neg hz] at E0 E2
        generalize hq : tv t 0 0 = z at hz E0
        have d0 : (z == -1) = false := by rw [beq_eq_false_iff_ne]; exact hz
        have HZ := Lib.hid hq
        clear hq hz
        go_enter Try.func53, Try.ntmps53
        go_wp2_with fail
        generalize World.alloc _ _ = W0 at HB HC G0 SL HT hg0 ⊢
        refine (validBoth_any c _ _ xs _ HC.out mc SL.out ml).mono ?_
        rintro e w1 ⟨rfl, g1⟩
        rw [HA.out]
        obtain ⟨c0, c1, c2, cz, -⟩ := HB.out.below g1
        go_wp2_with fail
        refine (isProof_any c _ A m _ xs t wc WF.out WT.out _ (HC.out.below g1) K1.out (SL.out.below g1) hm K2.out (HT.out.below g1) mt).mono ?_
        rintro e w2 ⟨rfl, g2⟩
        clear c0 c1 c2
        rw [HP.out]
        obtain ⟨gs, os, cs, p0, p1, -⟩ := HT.out.num (bnext g1 g2) (s := 0) (i := 0) n0 HR.out (by omega)
        rw [HZ.out] at p1
        rw [Nat.add_zero] at p0 p1
        go_wp2
        go_ret2
        exact ⟨by rw [E0.out, E2.out]; rfl, bnext (bnext G0.out g1) g2⟩

end Go.Proofs.Ytonclaakaaidlaa
