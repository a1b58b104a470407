/- CostOf and UsedShelves themselves, by the model and by the program: contracts. Condition: lists no longer than the law tests. -/
import Derived.Test.YtdkdchhkfachmaaCost
namespace Go.Proofs.Ytdkdchhkfachmaa
set_option linter.unusedSimpArgs false
set_option linter.unusedVariables false
set_option maxRecDepth 100000
open Go.RowKit

theorem code_cases (c : Cs) (xs : List Bk) (es : List Int) : (layCode c xs es = 1) ∨ (layCode c xs es = 8) ∨ (layCode c xs es = 0 ∧ caseB c = true ∧ okB xs = true ∧ layB c xs es = true) := by
  unfold layCode
  cases h1 : askB c xs
  · exact .inl rfl
  · cases h2 : layB c xs es
    · exact .inr (.inl rfl)
    · exact .inr (.inr ⟨rfl, (askB_both h1).1, (askB_both h1).2, rfl⟩)

set_option maxHeartbeats 2000000 in
theorem specCostOf_any (c : Cs) (hv : Value) (A : Option Addr) (m : Nat) (v : Value) (xs : List Bk) (es : List Int) (wc : c.Wf) (wf : ∀ b ∈ xs, b.Wf) (w : World) (sc : IntsOf .i16 w hv c.hs) (mc : c.hs.length ≤ maxLen) (sl : SliceOf w (.slice A xs.length m) xs) (hm : xs.length ≤ m) (ml : xs.length ≤ maxLen) (se : IntsOf .i64 w v es) (me : es.length ≤ maxLen) :
    Calls Try.prog 41 #[.agg #[.int .i16 c.wi, .int .i32 c.lo, hv], .slice A xs.length m, v] w fun e w' => e = .returned (.tuple #[.int .i64 (costV c xs es false), .int .i64 (layCode c xs es)]) ∧ Below w.heap.size w w' := by
  have G0 := Lib.hid (show Below w.heap.size w (w.alloc (.cells #[.int .i16 c.wi, .int .i32 c.lo, hv] 28)) by go_grown)
  have HC := Lib.hid (CaseAt.new (t := 28) sc)
  have SL := Lib.hid (sl.below G0.out)
  have SE := Lib.hid (se.below G0.out)
  have WC := Lib.hid wc
  have WF := Lib.hid wf
  have MC := Lib.hid mc
  have ME := Lib.hid me
  obtain ⟨H, qh, rfl, -⟩ := sc
  obtain ⟨Ev, qe, rfl, -⟩ := se
  clear sl wc wf mc me
  rcases code_cases c xs es with h | h | ⟨h, a1, a2, hl⟩

  · have E := Lib.hid h
    have EV := Lib.hid (show costV c xs es false = 0 by unfold costV; rw [h]; rfl)
    clear h
    go_enter Try.func41, Try.ntmps41
    go_wp2_with fail
    generalize World.alloc _ _ = W0 at G0 HC SL SE ⊢
    refine (l02Laid_any c _ A m _ xs es WC.out WF.out _ _ HC.out MC.out SL.out hm ml SE.out ME.out).mono ?_
    rintro e w1 ⟨rfl, g1⟩
    rw [E.out]
    go_wp2
    go_ret2
    exact ⟨by rw [EV.out, E.out]; rfl, bnext G0.out g1⟩

  · have E := Lib.hid h
    have EV := Lib.hid (show costV c xs es false = 0 by unfold costV; rw [h]; rfl)
    clear h
    go_enter Try.func41, Try.ntmps41
    go_wp2_with fail
    generalize World.alloc _ _ = W0 at G0 HC SL SE ⊢
    refine (l02Laid_any c _ A m _ xs es WC.out WF.out _ _ HC.out MC.out SL.out hm ml SE.out ME.out).mono ?_
    rintro e w1 ⟨rfl, g1⟩
    rw [E.out]
    go_wp2
    go_ret2
    exact ⟨by rw [EV.out, E.out]; rfl, bnext G0.out g1⟩

  · have E := Lib.hid h
    have EV := Lib.hid (show costV c xs es false = sumTo c xs es false es.length by unfold costV; rw [h]; rfl)
    clear h
    go_enter Try.func41, Try.ntmps41
    go_wp2_with fail
    generalize World.alloc _ _ = W0 at G0 HC SL SE ⊢
    refine (l02Laid_any c _ A m _ xs es WC.out WF.out _ _ HC.out MC.out SL.out hm ml SE.out ME.out).mono ?_
    rintro e w1 ⟨rfl, g1⟩
    rw [E.out]
    go_wp2_with fail
    refine (l02Sum_any c _ A m _ xs es false WC.out WF.out _ _ (HC.out.below g1) a1 (SL.out.below g1) hm a2 (SE.out.below g1) hl).mono ?_
    rintro e w2 ⟨rfl, g2⟩
    generalize sumTo c xs es false es.length = su at EV ⊢
    clear a1 a2 hl
    go_wp2
    go_ret2
    exact ⟨by rw [EV.out, E.out]; rfl, bnext (bnext G0.out g1) g2⟩


set_option maxHeartbeats 2000000 in
theorem costOf_any (c : Cs) (hv : Value) (A : Option Addr) (m : Nat) (v : Value) (xs : List Bk) (es : List Int) (wc : c.Wf) (wf : ∀ b ∈ xs, b.Wf) (w : World) (sc : IntsOf .i16 w hv c.hs) (mc : c.hs.length ≤ maxLen) (sl : SliceOf w (.slice A xs.length m) xs) (hm : xs.length ≤ m) (ml : xs.length ≤ maxLen) (se : IntsOf .i64 w v es) (me : es.length ≤ maxLen) :
    Calls Try.prog 42 #[.agg #[.int .i16 c.wi, .int .i32 c.lo, hv], .slice A xs.length m, v] w fun e w' => e = .returned (.tuple #[.int .i64 (costV c xs es false), .int .i64 (layCode c xs es)]) ∧ Below w.heap.size w w' := by
  have G0 := Lib.hid (show Below w.heap.size w (w.alloc (.cells #[.int .i16 c.wi, .int .i32 c.lo, hv] 28)) by go_grown)
  have HC := Lib.hid (sc.below G0.out)
  have SL := Lib.hid (sl.below G0.out)
  have SE := Lib.hid (se.below G0.out)
  have WC := Lib.hid wc
  have WF := Lib.hid wf
  have MC := Lib.hid mc
  have ME := Lib.hid me
  obtain ⟨H, qh, rfl, -⟩ := sc
  obtain ⟨Ev, qe, rfl, -⟩ := se
  clear sl wc wf mc me
  have CS := Lib.hid (fun W h1 h2 h3 => sumOf_any c (.slice H c.hs.length qh) A m (.slice Ev es.length qe) xs es 2 (by omega) WC.out WF.out W h1 MC.out h2 hm ml h3 ME.out)
  go_enter Try.func42, Try.ntmps42
  go_wp2_with fail
  generalize World.alloc _ _ = W0 at G0 HC SL SE ⊢
  refine (CS.out _ HC.out SL.out SE.out).mono ?_
  rintro e w1 ⟨rfl, g1⟩
  go_wp2
  go_ret2
  exact ⟨rfl, bnext G0.out g1⟩

set_option maxHeartbeats 2000000 in
theorem specUsedShelves_any (c : Cs) (hv : Value) (A : Option Addr) (m : Nat) (v : Value) (xs : List Bk) (es : List Int) (wc : c.Wf) (wf : ∀ b ∈ xs, b.Wf) (w : World) (sc : IntsOf .i16 w hv c.hs) (mc : c.hs.length ≤ maxLen) (sl : SliceOf w (.slice A xs.length m) xs) (hm : xs.length ≤ m) (ml : xs.length ≤ maxLen) (se : IntsOf .i64 w v es) (me : es.length ≤ maxLen) :
    Calls Try.prog 43 #[.agg #[.int .i16 c.wi, .int .i32 c.lo, hv], .slice A xs.length m, v] w fun e w' => e = .returned (.tuple #[.int .i64 (costV c xs es true), .int .i64 (layCode c xs es)]) ∧ Below w.heap.size w w' := by
  have G0 := Lib.hid (show Below w.heap.size w (w.alloc (.cells #[.int .i16 c.wi, .int .i32 c.lo, hv] 28)) by go_grown)
  have HC := Lib.hid (CaseAt.new (t := 28) sc)
  have SL := Lib.hid (sl.below G0.out)
  have SE := Lib.hid (se.below G0.out)
  have WC := Lib.hid wc
  have WF := Lib.hid wf
  have MC := Lib.hid mc
  have ME := Lib.hid me
  obtain ⟨H, qh, rfl, -⟩ := sc
  obtain ⟨Ev, qe, rfl, -⟩ := se
  clear sl wc wf mc me
  rcases code_cases c xs es with h | h | ⟨h, a1, a2, hl⟩

  · have E := Lib.hid h
    have EV := Lib.hid (show costV c xs es true = 0 by unfold costV; rw [h]; rfl)
    clear h
    go_enter Try.func43, Try.ntmps43
    go_wp2_with fail
    generalize World.alloc _ _ = W0 at G0 HC SL SE ⊢
    refine (l02Laid_any c _ A m _ xs es WC.out WF.out _ _ HC.out MC.out SL.out hm ml SE.out ME.out).mono ?_
    rintro e w1 ⟨rfl, g1⟩
    rw [E.out]
    go_wp2
    go_ret2
    exact ⟨by rw [EV.out, E.out]; rfl, bnext G0.out g1⟩

  · have E := Lib.hid h
    have EV := Lib.hid (show costV c xs es true = 0 by unfold costV; rw [h]; rfl)
    clear h
    go_enter Try.func43, Try.ntmps43
    go_wp2_with fail
    generalize World.alloc _ _ = W0 at G0 HC SL SE ⊢
    refine (l02Laid_any c _ A m _ xs es WC.out WF.out _ _ HC.out MC.out SL.out hm ml SE.out ME.out).mono ?_
    rintro e w1 ⟨rfl, g1⟩
    rw [E.out]
    go_wp2
    go_ret2
    exact ⟨by rw [EV.out, E.out]; rfl, bnext G0.out g1⟩

  · have E := Lib.hid h
    have EV := Lib.hid (show costV c xs es true = sumTo c xs es true es.length by unfold costV; rw [h]; rfl)
    clear h
    go_enter Try.func43, Try.ntmps43
    go_wp2_with fail
    generalize World.alloc _ _ = W0 at G0 HC SL SE ⊢
    refine (l02Laid_any c _ A m _ xs es WC.out WF.out _ _ HC.out MC.out SL.out hm ml SE.out ME.out).mono ?_
    rintro e w1 ⟨rfl, g1⟩
    rw [E.out]
    go_wp2_with fail
    refine (l02Sum_any c _ A m _ xs es true WC.out WF.out _ _ (HC.out.below g1) a1 (SL.out.below g1) hm a2 (SE.out.below g1) hl).mono ?_
    rintro e w2 ⟨rfl, g2⟩
    generalize sumTo c xs es true es.length = su at EV ⊢
    clear a1 a2 hl
    go_wp2
    go_ret2
    exact ⟨by rw [EV.out, E.out]; rfl, bnext (bnext G0.out g1) g2⟩


set_option maxHeartbeats 2000000 in
theorem usedShelves_any (c : Cs) (hv : Value) (A : Option Addr) (m : Nat) (v : Value) (xs : List Bk) (es : List Int) (wc : c.Wf) (wf : ∀ b ∈ xs, b.Wf) (w : World) (sc : IntsOf .i16 w hv c.hs) (mc : c.hs.length ≤ maxLen) (sl : SliceOf w (.slice A xs.length m) xs) (hm : xs.length ≤ m) (ml : xs.length ≤ maxLen) (se : IntsOf .i64 w v es) (me : es.length ≤ maxLen) :
    Calls Try.prog 44 #[.agg #[.int .i16 c.wi, .int .i32 c.lo, hv], .slice A xs.length m, v] w fun e w' => e = .returned (.tuple #[.int .i64 (costV c xs es true), .int .i64 (layCode c xs es)]) ∧ Below w.heap.size w w' := by
  have G0 := Lib.hid (show Below w.heap.size w (w.alloc (.cells #[.int .i16 c.wi, .int .i32 c.lo, hv] 28)) by go_grown)
  have HC := Lib.hid (sc.below G0.out)
  have SL := Lib.hid (sl.below G0.out)
  have SE := Lib.hid (se.below G0.out)
  have WC := Lib.hid wc
  have WF := Lib.hid wf
  have MC := Lib.hid mc
  have ME := Lib.hid me
  obtain ⟨H, qh, rfl, -⟩ := sc
  obtain ⟨Ev, qe, rfl, -⟩ := se
  clear sl wc wf mc me
  have CS := Lib.hid (fun W h1 h2 h3 => sumOf_any c (.slice H c.hs.length qh) A m (.slice Ev es.length qe) xs es 1 (by omega) WC.out WF.out W h1 MC.out h2 hm ml h3 ME.out)
  go_enter Try.func44, Try.ntmps44
  go_wp2_with fail
  generalize World.alloc _ _ = W0 at G0 HC SL SE ⊢
  refine (CS.out _ HC.out SL.out SE.out).mono ?_
  rintro e w1 ⟨rfl, g1⟩
  go_wp2
  go_ret2
  exact ⟨rfl, bnext G0.out g1⟩


end Go.Proofs.Ytdkdchhkfachmaa
