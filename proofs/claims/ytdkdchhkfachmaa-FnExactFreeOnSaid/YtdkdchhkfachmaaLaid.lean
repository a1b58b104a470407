/- Layouts, by the model and by the program: contracts of what is asked of them, of CheckLayout and of FirstBadShelf. Condition: lists no longer than the law tests. -/
import Derived.Test.YtdkdchhkfachmaaRowsOf
namespace Go.Proofs.Ytdkdchhkfachmaa
set_option linter.unusedSimpArgs false
set_option linter.unusedVariables false
set_option maxRecDepth 100000
open Go.RowKit

theorem goodN_le (c : Cs) (xs : List Bk) (es : List Int) : goodN c xs es ≤ c.hs.length := by
  unfold goodN
  have := (List.takeWhile_sublist (l := List.range c.hs.length) (okAt c xs es)).length_le
  simpa using this
theorem badV_neg (c : Cs) (xs : List Bk) (es : List Int) : (layB c xs es = true ∧ badV c xs es = -1) ∨ (layB c xs es = false ∧ badV c xs es = goodN c xs es) := by
  have h := goodN_le c xs es
  unfold badV
  by_cases h1 : goodN c xs es < c.hs.length
  · right
    rw [if_pos h1]
    exact ⟨layB_bad rfl h1, rfl⟩
  · rw [if_neg h1]
    cases h2 : layB c xs es
    · right
      exact ⟨rfl, by rw [if_neg (by simp)]; omega⟩
    · left
      exact ⟨rfl, by simp⟩

def layCode (c : Cs) (xs : List Bk) (es : List Int) : Int := if askB c xs then (if layB c xs es then 0 else 8) else 1
/-- How many rows layoutOf gives. -/
def layN (c : Cs) (xs : List Bk) (es : List Int) : Nat := if layCode c xs es = 0 then c.hs.length else 0
def clVal (c : Cs) (xs : List Bk) (es : List Int) : Bool := askB c xs && layB c xs es
def fbVal (c : Cs) (xs : List Bk) (es : List Int) : Int := if askB c xs then (if layB c xs es then 0 else (goodN c xs es : Int)) else 0
def fbCode (c : Cs) (xs : List Bk) (es : List Int) : Int := if askB c xs then (if layB c xs es then 6 else 0) else 1

theorem lay_cases (c : Cs) (xs : List Bk) (es : List Int) : (askB c xs = false ∧ askCode c xs = 1 ∧ layCode c xs es = 1 ∧ clVal c xs es = false ∧ fbVal c xs es = 0 ∧ fbCode c xs es = 1) ∨
    (askB c xs = true ∧ askCode c xs = 0 ∧ layB c xs es = false ∧ badV c xs es = goodN c xs es ∧ layCode c xs es = 8 ∧ clVal c xs es = false ∧ fbVal c xs es = goodN c xs es ∧ fbCode c xs es = 0) ∨
    (askB c xs = true ∧ askCode c xs = 0 ∧ layB c xs es = true ∧ badV c xs es = -1 ∧ layCode c xs es = 0 ∧ clVal c xs es = true ∧ fbVal c xs es = 0 ∧ fbCode c xs es = 6) := by
  unfold askCode layCode clVal fbVal fbCode
  rcases badV_neg c xs es with ⟨h1, h2⟩ | ⟨h1, h2⟩ <;> rw [h1, h2] <;> cases askB c xs <;> simp
theorem askB_both {c : Cs} {xs : List Bk} (h : askB c xs = true) : caseB c = true ∧ okB xs = true := by unfold askB at h; simpa using h

set_option maxHeartbeats 2000000 in
theorem l02Laid_any (c : Cs) (hv : Value) (A : Option Addr) (m : Nat) (v : Value) (xs : List Bk) (es : List Int) (wc : c.Wf) (wf : ∀ b ∈ xs, b.Wf) (g : Nat) (w : World) (hc : CaseAt w g c hv) (mc : c.hs.length ≤ maxLen) (sl : SliceOf w (.slice A xs.length m) xs) (hm : xs.length ≤ m) (ml : xs.length ≤ maxLen) (se : IntsOf .i64 w v es) (me : es.length ≤ maxLen) :
    Calls Try.prog 74 #[.pointer (some ⟨g, 0, none⟩), .slice A xs.length m, v] w fun e w' => e = .returned (.int .i64 (layCode c xs es)) ∧ Below w.heap.size w w' := by
  have HC := Lib.hid hc
  have SL := Lib.hid sl
  have SE := Lib.hid se
  have WC := Lib.hid wc
  have WF := Lib.hid wf
  have MC := Lib.hid mc
  have ME := Lib.hid me
  clear hc sl se wc wf mc me
  rcases lay_cases c xs es with ⟨a, h1, h2, -⟩ | ⟨a, h1, hl, hb, h2, -⟩ | ⟨a, h1, hl, hb, h2, -⟩

  · have E := Lib.hid h2
    clear h2
    go_enter Try.func74, Try.ntmps74
    go_wp2_with fail
    refine (l02Asked_any c _ _ xs WC.out WF.out g _ HC.out MC.out SL.out ml).mono ?_
    rintro e w1 ⟨rfl, g1⟩
    rw [h1]
    go_wp2
    go_ret
    exact ⟨by rw [E.out]; rfl, g1⟩

  · have E := Lib.hid h2
    clear h2
    go_enter Try.func74, Try.ntmps74
    go_wp2_with fail
    refine (l02Asked_any c _ _ xs WC.out WF.out g _ HC.out MC.out SL.out ml).mono ?_
    rintro e w1 ⟨rfl, g1⟩
    rw [h1]
    obtain ⟨a1, a2⟩ := askB_both a
    go_wp2_with fail
    refine (l02Bad_any c _ A m _ xs es WC.out WF.out g _ (HC.out.below g1) a1 (SL.out.below g1) hm a2 (SE.out.below g1) ME.out).mono ?_
    rintro e w2 ⟨rfl, g2⟩
    rw [hb]
    have hn : (0 : Int) ≤ (goodN c xs es : Int) := by omega
    generalize (goodN c xs es : Int) = gn at hn ⊢
    go_wp2
    go_ret
    exact ⟨by rw [E.out]; rfl, bnext g1 g2⟩

  · have E := Lib.hid h2
    clear h2
    go_enter Try.func74, Try.ntmps74
    go_wp2_with fail
    refine (l02Asked_any c _ _ xs WC.out WF.out g _ HC.out MC.out SL.out ml).mono ?_
    rintro e w1 ⟨rfl, g1⟩
    rw [h1]
    obtain ⟨a1, a2⟩ := askB_both a
    go_wp2_with fail
    refine (l02Bad_any c _ A m _ xs es WC.out WF.out g _ (HC.out.below g1) a1 (SL.out.below g1) hm a2 (SE.out.below g1) ME.out).mono ?_
    rintro e w2 ⟨rfl, g2⟩
    rw [hb]
    go_wp2
    go_ret
    exact ⟨by rw [E.out]; rfl, bnext g1 g2⟩


set_option maxHeartbeats 2000000 in
theorem specCheckLayout_any (c : Cs) (hv : Value) (A : Option Addr) (m : Nat) (v : Value) (xs : List Bk) (es : List Int) (wc : c.Wf) (wf : ∀ b ∈ xs, b.Wf) (w : World) (sc : IntsOf .i16 w hv c.hs) (mc : c.hs.length ≤ maxLen) (sl : SliceOf w (.slice A xs.length m) xs) (hm : xs.length ≤ m) (ml : xs.length ≤ maxLen) (se : IntsOf .i64 w v es) (me : es.length ≤ maxLen) :
    Calls Try.prog 34 #[.agg #[.int .i16 c.wi, .int .i32 c.lo, hv], .slice A xs.length m, v] w fun e w' => e = .returned (.tuple #[.bool (clVal c xs es), .int .i64 (askCode c xs)]) ∧ Below w.heap.size w w' := by
  have G0 := Lib.hid (show Below w.heap.size w (w.alloc (.cells #[.int .i16 c.wi, .int .i32 c.lo, hv] 28)) by go_grown)
  have HC := Lib.hid (CaseAt.new (t := 28) sc)
  have SL := Lib.hid (sl.below G0.out)
  have SE := Lib.hid (se.below G0.out)
  have WC := Lib.hid wc
  have WF := Lib.hid wf
  have MC := Lib.hid mc
  have ME := Lib.hid me
  obtain ⟨H, qh, rfl, -⟩ := sc
  obtain ⟨Ev, qe, rfl, -⟩ := se
  clear sl wc wf mc me
  rcases lay_cases c xs es with ⟨a, h1, -, e1, e2, e3⟩ | ⟨a, h1, hl, hb, -, e1, e2, e3⟩ | ⟨a, h1, hl, hb, -, e1, e2, e3⟩

  · have E1 := Lib.hid e1
    have E2 := Lib.hid e2
    have E3 := Lib.hid e3
    have E4 := Lib.hid h1
    clear e1 e2 e3
    go_enter Try.func34, Try.ntmps34
    go_wp2_with fail
    generalize World.alloc _ _ = W0 at G0 HC SL SE ⊢
    refine (l02Asked_any c _ _ xs WC.out WF.out _ _ HC.out MC.out SL.out ml).mono ?_
    rintro e w1 ⟨rfl, g1⟩
    rw [h1]
    clear h1
    go_wp2
    go_ret2
    exact ⟨by rw [E1.out, E4.out]; rfl, bnext G0.out g1⟩

  · have E1 := Lib.hid e1
    have E2 := Lib.hid e2
    have E3 := Lib.hid e3
    have E4 := Lib.hid h1
    clear e1 e2 e3
    go_enter Try.func34, Try.ntmps34
    go_wp2_with fail
    generalize World.alloc _ _ = W0 at G0 HC SL SE ⊢
    refine (l02Asked_any c _ _ xs WC.out WF.out _ _ HC.out MC.out SL.out ml).mono ?_
    rintro e w1 ⟨rfl, g1⟩
    rw [h1]
    clear h1
    obtain ⟨a1, a2⟩ := askB_both a
    go_wp2_with fail
    refine (l02Bad_any c _ A m _ xs es WC.out WF.out _ _ (HC.out.below g1) a1 (SL.out.below g1) hm a2 (SE.out.below g1) ME.out).mono ?_
    rintro e w2 ⟨rfl, g2⟩
    rw [hb]
    have hn : (0 : Int) ≤ (goodN c xs es : Int) := by omega
    have hn' : decide ((goodN c xs es : Int) < 0) = false := by simp
    generalize (goodN c xs es : Int) = gn at E2 hn hn' ⊢
    go_wp2
    go_ret2
    exact ⟨by rw [E1.out, E4.out]; rfl, bnext (bnext G0.out g1) g2⟩

  · have E1 := Lib.hid e1
    have E2 := Lib.hid e2
    have E3 := Lib.hid e3
    have E4 := Lib.hid h1
    clear e1 e2 e3
    go_enter Try.func34, Try.ntmps34
    go_wp2_with fail
    generalize World.alloc _ _ = W0 at G0 HC SL SE ⊢
    refine (l02Asked_any c _ _ xs WC.out WF.out _ _ HC.out MC.out SL.out ml).mono ?_
    rintro e w1 ⟨rfl, g1⟩
    rw [h1]
    clear h1
    obtain ⟨a1, a2⟩ := askB_both a
    go_wp2_with fail
    refine (l02Bad_any c _ A m _ xs es WC.out WF.out _ _ (HC.out.below g1) a1 (SL.out.below g1) hm a2 (SE.out.below g1) ME.out).mono ?_
    rintro e w2 ⟨rfl, g2⟩
    rw [hb]
    go_wp2
    go_ret2
    exact ⟨by rw [E1.out, E4.out]; rfl, bnext (bnext G0.out g1) g2⟩


set_option maxHeartbeats 2000000 in
theorem specFirstBadShelf_any (c : Cs) (hv : Value) (A : Option Addr) (m : Nat) (v : Value) (xs : List Bk) (es : List Int) (wc : c.Wf) (wf : ∀ b ∈ xs, b.Wf) (w : World) (sc : IntsOf .i16 w hv c.hs) (mc : c.hs.length ≤ maxLen) (sl : SliceOf w (.slice A xs.length m) xs) (hm : xs.length ≤ m) (ml : xs.length ≤ maxLen) (se : IntsOf .i64 w v es) (me : es.length ≤ maxLen) :
    Calls Try.prog 37 #[.agg #[.int .i16 c.wi, .int .i32 c.lo, hv], .slice A xs.length m, v] w fun e w' => e = .returned (.tuple #[.int .i64 (fbVal c xs es), .int .i64 (fbCode c xs es)]) ∧ Below w.heap.size w w' := by
  have G0 := Lib.hid (show Below w.heap.size w (w.alloc (.cells #[.int .i16 c.wi, .int .i32 c.lo, hv] 28)) by go_grown)
  have HC := Lib.hid (CaseAt.new (t := 28) sc)
  have SL := Lib.hid (sl.below G0.out)
  have SE := Lib.hid (se.below G0.out)
  have WC := Lib.hid wc
  have WF := Lib.hid wf
  have MC := Lib.hid mc
  have ME := Lib.hid me
  obtain ⟨H, qh, rfl, -⟩ := sc
  obtain ⟨Ev, qe, rfl, -⟩ := se
  clear sl wc wf mc me
  rcases lay_cases c xs es with ⟨a, h1, -, e1, e2, e3⟩ | ⟨a, h1, hl, hb, -, e1, e2, e3⟩ | ⟨a, h1, hl, hb, -, e1, e2, e3⟩

  · have E1 := Lib.hid e1
    have E2 := Lib.hid e2
    have E3 := Lib.hid e3
    have E4 := Lib.hid h1
    clear e1 e2 e3
    go_enter Try.func37, Try.ntmps37
    go_wp2_with fail
    generalize World.alloc _ _ = W0 at G0 HC SL SE ⊢
    refine (l02Asked_any c _ _ xs WC.out WF.out _ _ HC.out MC.out SL.out ml).mono ?_
    rintro e w1 ⟨rfl, g1⟩
    rw [h1]
    clear h1
    go_wp2
    go_ret2
    exact ⟨by rw [E2.out, E3.out]; rfl, bnext G0.out g1⟩

  · have E1 := Lib.hid e1
    have E2 := Lib.hid e2
    have E3 := Lib.hid e3
    have E4 := Lib.hid h1
    clear e1 e2 e3
    go_enter Try.func37, Try.ntmps37
    go_wp2_with fail
    generalize World.alloc _ _ = W0 at G0 HC SL SE ⊢
    refine (l02Asked_any c _ _ xs WC.out WF.out _ _ HC.out MC.out SL.out ml).mono ?_
    rintro e w1 ⟨rfl, g1⟩
    rw [h1]
    clear h1
    obtain ⟨a1, a2⟩ := askB_both a
    go_wp2_with fail
    refine (l02Bad_any c _ A m _ xs es WC.out WF.out _ _ (HC.out.below g1) a1 (SL.out.below g1) hm a2 (SE.out.below g1) ME.out).mono ?_
    rintro e w2 ⟨rfl, g2⟩
    rw [hb]
    have hn : (0 : Int) ≤ (goodN c xs es : Int) := by omega
    have hn' : decide ((goodN c xs es : Int) < 0) = false := by simp
    generalize (goodN c xs es : Int) = gn at E2 hn hn' ⊢
    go_wp2
    go_ret2
    exact ⟨by rw [E2.out, E3.out]; rfl, bnext (bnext G0.out g1) g2⟩

  · have E1 := Lib.hid e1
    have E2 := Lib.hid e2
    have E3 := Lib.hid e3
    have E4 := Lib.hid h1
    clear e1 e2 e3
    go_enter Try.func37, Try.ntmps37
    go_wp2_with fail
    generalize World.alloc _ _ = W0 at G0 HC SL SE ⊢
    refine (l02Asked_any c _ _ xs WC.out WF.out _ _ HC.out MC.out SL.out ml).mono ?_
    rintro e w1 ⟨rfl, g1⟩
    rw [h1]
    clear h1
    obtain ⟨a1, a2⟩ := askB_both a
    go_wp2_with fail
    refine (l02Bad_any c _ A m _ xs es WC.out WF.out _ _ (HC.out.below g1) a1 (SL.out.below g1) hm a2 (SE.out.below g1) ME.out).mono ?_
    rintro e w2 ⟨rfl, g2⟩
    rw [hb]
    go_wp2
    go_ret2
    exact ⟨by rw [E2.out, E3.out]; rfl, bnext (bnext G0.out g1) g2⟩


set_option maxHeartbeats 2000000 in
/-- layoutOf: its rows are none unless the numbers are a layout. -/
theorem layoutOf_any (c : Cs) (hv : Value) (A : Option Addr) (m : Nat) (v : Value) (xs : List Bk) (es : List Int) (wf : ∀ b ∈ xs, b.Wf) (w : World) (sc : IntsOf .i16 w hv c.hs) (mc : c.hs.length ≤ maxLen) (sl : SliceOf w (.slice A xs.length m) xs) (hm : xs.length ≤ m) (ml : xs.length ≤ maxLen) (se : IntsOf .i64 w v es) (me : es.length ≤ maxLen) :
    Calls Try.prog 72 #[.agg #[.int .i16 c.wi, .int .i32 c.lo, hv], .slice A xs.length m, v] w fun e w' => ∃ u, e = .returned (.tuple #[u, .int .i64 (layCode c xs es)]) ∧ w'.ownsRow w.heap.size 79 3 u (layN c xs es) (rowsCs c A xs es (layN c xs es)) ∧ Below w.heap.size w w' := by
  have G0 := Lib.hid (show Below w.heap.size w (w.alloc (.cells #[.int .i16 c.wi, .int .i32 c.lo, hv] 28)) by go_grown)
  have HB := Lib.hid (CaseAt.new (t := 28) sc)
  have HC := Lib.hid (sc.below G0.out)
  have SL := Lib.hid (sl.below G0.out)
  have SE := Lib.hid (se.below G0.out)
  have WF := Lib.hid wf
  have MC := Lib.hid mc
  have ME := Lib.hid me
  obtain ⟨H, qh, rfl, -⟩ := sc
  obtain ⟨Ev, qe, rfl, -⟩ := se
  clear sl wf mc me
  rcases lay_cases c xs es with ⟨a, h1, h2, -⟩ | ⟨a, h1, hl, hb, h2, -⟩ | ⟨a, h1, hl, hb, h2, -⟩

  · have E := Lib.hid h2
    clear h2 h1
    go_enter Try.func72, Try.ntmps72
    go_wp2_with fail
    generalize World.alloc _ _ = W0 at G0 HB HC SL SE ⊢
    refine (validBoth_any c _ _ xs _ HC.out MC.out SL.out ml).mono ?_
    rintro e w1 ⟨rfl, g1⟩
    rw [a]
    go_wp2
    go_ret2
    exact ⟨_, by rw [E.out]; rfl, by unfold layN; rw [E.out]; exact ⟨rfl, .inl ⟨rfl, rfl⟩⟩, bnext G0.out g1⟩

  · have E := Lib.hid h2
    clear h2 h1
    go_enter Try.func72, Try.ntmps72
    go_wp2_with fail
    generalize World.alloc _ _ = W0 at G0 HB HC SL SE ⊢
    refine (validBoth_any c _ _ xs _ HC.out MC.out SL.out ml).mono ?_
    rintro e w1 ⟨rfl, g1⟩
    rw [a]
    obtain ⟨a1, a2⟩ := askB_both a
    have c0 := (HB.out.below g1).c0
    have c1 := (HB.out.below g1).c1
    have c2 := (HB.out.below g1).c2
    go_wp2_with fail
    refine (rowsOf_any c _ A m _ xs es WF.out _ (HC.out.below g1) a1 (SL.out.below g1) hm a2 (SE.out.below g1) ME.out).mono ?_
    rintro e w2 ⟨u, rfl, ho, g2⟩
    have HO := Lib.hid ho
    clear ho
    rw [hl]
    go_wp2
    go_ret2
    exact ⟨_, by rw [E.out]; rfl, by unfold layN; rw [E.out]; exact ⟨rfl, .inl ⟨rfl, rfl⟩⟩, bnext (bnext G0.out g1) g2⟩

  · have E := Lib.hid h2
    clear h2 h1
    go_enter Try.func72, Try.ntmps72
    go_wp2_with fail
    generalize World.alloc _ _ = W0 at G0 HB HC SL SE ⊢
    refine (validBoth_any c _ _ xs _ HC.out MC.out SL.out ml).mono ?_
    rintro e w1 ⟨rfl, g1⟩
    rw [a]
    obtain ⟨a1, a2⟩ := askB_both a
    have c0 := (HB.out.below g1).c0
    have c1 := (HB.out.below g1).c1
    have c2 := (HB.out.below g1).c2
    go_wp2_with fail
    refine (rowsOf_any c _ A m _ xs es WF.out _ (HC.out.below g1) a1 (SL.out.below g1) hm a2 (SE.out.below g1) ME.out).mono ?_
    rintro e w2 ⟨u, rfl, ho, g2⟩
    have HO := Lib.hid ho
    clear ho
    rw [hl]
    have GN := Lib.hid (show goodN c xs es = c.hs.length by unfold layB at hl; simp at hl; exact hl.1)
    go_wp2
    go_ret2
    exact ⟨_, by rw [E.out]; rfl, by unfold layN; rw [E.out, if_pos rfl, ← GN.out]; exact ownMono HO.out (by have := G0.out.size; have := g1.size; omega), bnext (bnext G0.out g1) g2⟩


set_option maxHeartbeats 2000000 in
theorem checkLayout_any (c : Cs) (hv : Value) (A : Option Addr) (m : Nat) (v : Value) (xs : List Bk) (es : List Int) (wf : ∀ b ∈ xs, b.Wf) (w : World) (sc : IntsOf .i16 w hv c.hs) (mc : c.hs.length ≤ maxLen) (sl : SliceOf w (.slice A xs.length m) xs) (hm : xs.length ≤ m) (ml : xs.length ≤ maxLen) (se : IntsOf .i64 w v es) (me : es.length ≤ maxLen) :
    Calls Try.prog 36 #[.agg #[.int .i16 c.wi, .int .i32 c.lo, hv], .slice A xs.length m, v] w fun e w' => e = .returned (.tuple #[.bool (clVal c xs es), .int .i64 (askCode c xs)]) ∧ Below w.heap.size w w' := by
  have G0 := Lib.hid (show Below w.heap.size w (w.alloc (.cells #[.int .i16 c.wi, .int .i32 c.lo, hv] 28)) by go_grown)
  have HB := Lib.hid (CaseAt.new (t := 28) sc)
  have HC := Lib.hid (sc.below G0.out)
  have SL := Lib.hid (sl.below G0.out)
  have SE := Lib.hid (se.below G0.out)
  have WF := Lib.hid wf
  have MC := Lib.hid mc
  have ME := Lib.hid me
  obtain ⟨H, qh, rfl, -⟩ := sc
  obtain ⟨Ev, qe, rfl, -⟩ := se
  clear sl wf mc me
  rcases lay_cases c xs es with ⟨a, h1, h2, e1, -⟩ | ⟨a, h1, hl, hb, h2, e1, -⟩ | ⟨a, h1, hl, hb, h2, e1, -⟩

  · have E := Lib.hid e1
    have E1 := Lib.hid h1
    clear h1 e1
    go_enter Try.func36, Try.ntmps36
    go_wp2_with fail
    generalize World.alloc _ _ = W0 at G0 HB HC SL SE ⊢
    refine (layoutOf_any c _ A m _ xs es WF.out _ HC.out MC.out SL.out hm ml SE.out ME.out).mono ?_
    rintro e w1 ⟨u, rfl, -, g1⟩
    rw [h2]
    go_wp2
    go_ret2
    exact ⟨by rw [E.out, E1.out]; rfl, bnext G0.out g1⟩

  · have E := Lib.hid e1
    have E1 := Lib.hid h1
    clear h1 e1
    go_enter Try.func36, Try.ntmps36
    go_wp2_with fail
    generalize World.alloc _ _ = W0 at G0 HB HC SL SE ⊢
    refine (layoutOf_any c _ A m _ xs es WF.out _ HC.out MC.out SL.out hm ml SE.out ME.out).mono ?_
    rintro e w1 ⟨u, rfl, -, g1⟩
    rw [h2]
    go_wp2
    go_ret2
    exact ⟨by rw [E.out, E1.out]; rfl, bnext G0.out g1⟩

  · have E := Lib.hid e1
    have E1 := Lib.hid h1
    clear h1 e1
    go_enter Try.func36, Try.ntmps36
    go_wp2_with fail
    generalize World.alloc _ _ = W0 at G0 HB HC SL SE ⊢
    refine (layoutOf_any c _ A m _ xs es WF.out _ HC.out MC.out SL.out hm ml SE.out ME.out).mono ?_
    rintro e w1 ⟨u, rfl, -, g1⟩
    rw [h2]
    go_wp2
    go_ret2
    exact ⟨by rw [E.out, E1.out]; rfl, bnext G0.out g1⟩


set_option maxHeartbeats 2000000 in
theorem firstBadShelf_any (c : Cs) (hv : Value) (A : Option Addr) (m : Nat) (v : Value) (xs : List Bk) (es : List Int) (wf : ∀ b ∈ xs, b.Wf) (w : World) (sc : IntsOf .i16 w hv c.hs) (mc : c.hs.length ≤ maxLen) (sl : SliceOf w (.slice A xs.length m) xs) (hm : xs.length ≤ m) (ml : xs.length ≤ maxLen) (se : IntsOf .i64 w v es) (me : es.length ≤ maxLen) :
    Calls Try.prog 38 #[.agg #[.int .i16 c.wi, .int .i32 c.lo, hv], .slice A xs.length m, v] w fun e w' => e = .returned (.tuple #[.int .i64 (fbVal c xs es), .int .i64 (fbCode c xs es)]) ∧ Below w.heap.size w w' := by
  have G0 := Lib.hid (show Below w.heap.size w (w.alloc (.cells #[.int .i16 c.wi, .int .i32 c.lo, hv] 28)) by go_grown)
  have HB := Lib.hid (CaseAt.new (t := 28) sc)
  have HC := Lib.hid (sc.below G0.out)
  have SL := Lib.hid (sl.below G0.out)
  have SE := Lib.hid (se.below G0.out)
  have WF := Lib.hid wf
  have MC := Lib.hid mc
  have ME := Lib.hid me
  obtain ⟨H, qh, rfl, -⟩ := sc
  obtain ⟨Ev, qe, rfl, -⟩ := se
  clear sl wf mc me
  rcases lay_cases c xs es with ⟨a, h1, -, -, e2, e3⟩ | ⟨a, h1, hl, hb, -, -, e2, e3⟩ | ⟨a, h1, hl, hb, -, -, e2, e3⟩

  · have E2 := Lib.hid e2
    have E3 := Lib.hid e3
    clear e2 e3 h1
    go_enter Try.func38, Try.ntmps38
    go_wp2_with fail
    generalize World.alloc _ _ = W0 at G0 HB HC SL SE ⊢
    refine (validBoth_any c _ _ xs _ HC.out MC.out SL.out ml).mono ?_
    rintro e w1 ⟨rfl, g1⟩
    rw [a]
    go_wp2
    go_ret2
    exact ⟨by rw [E2.out, E3.out]; rfl, bnext G0.out g1⟩

  · have E2 := Lib.hid e2
    have E3 := Lib.hid e3
    clear e2 e3 h1
    go_enter Try.func38, Try.ntmps38
    go_wp2_with fail
    generalize World.alloc _ _ = W0 at G0 HB HC SL SE ⊢
    refine (validBoth_any c _ _ xs _ HC.out MC.out SL.out ml).mono ?_
    rintro e w1 ⟨rfl, g1⟩
    rw [a]
    obtain ⟨a1, a2⟩ := askB_both a
    have c0 := (HB.out.below g1).c0
    have c1 := (HB.out.below g1).c1
    have c2 := (HB.out.below g1).c2
    go_wp2_with fail
    refine (rowsOf_any c _ A m _ xs es WF.out _ (HC.out.below g1) a1 (SL.out.below g1) hm a2 (SE.out.below g1) ME.out).mono ?_
    rintro e w2 ⟨u, rfl, ho, g2⟩
    have ol : ∃ X cap, u = .slice X (goodN c xs es) cap := by
      rcases ho.2 with ⟨h, h0⟩ | ⟨g, cap, cur, h, _⟩
      · exact ⟨_, _, by rw [h0]; exact h⟩
      · exact ⟨_, _, h⟩
    obtain ⟨X, cap, rfl⟩ := ol
    clear ho
    rw [hl]
    go_wp2
    go_ret2
    exact ⟨by rw [E2.out, E3.out]; rfl, bnext (bnext G0.out g1) g2⟩

  · have E2 := Lib.hid e2
    have E3 := Lib.hid e3
    clear e2 e3 h1
    go_enter Try.func38, Try.ntmps38
    go_wp2_with fail
    generalize World.alloc _ _ = W0 at G0 HB HC SL SE ⊢
    refine (validBoth_any c _ _ xs _ HC.out MC.out SL.out ml).mono ?_
    rintro e w1 ⟨rfl, g1⟩
    rw [a]
    obtain ⟨a1, a2⟩ := askB_both a
    have c0 := (HB.out.below g1).c0
    have c1 := (HB.out.below g1).c1
    have c2 := (HB.out.below g1).c2
    go_wp2_with fail
    refine (rowsOf_any c _ A m _ xs es WF.out _ (HC.out.below g1) a1 (SL.out.below g1) hm a2 (SE.out.below g1) ME.out).mono ?_
    rintro e w2 ⟨u, rfl, ho, g2⟩
    have ol : ∃ X cap, u = .slice X (goodN c xs es) cap := by
      rcases ho.2 with ⟨h, h0⟩ | ⟨g, cap, cur, h, _⟩
      · exact ⟨_, _, by rw [h0]; exact h⟩
      · exact ⟨_, _, h⟩
    obtain ⟨X, cap, rfl⟩ := ol
    clear ho
    rw [hl]
    go_wp2
    go_ret2
    exact ⟨by rw [E2.out, E3.out]; rfl, bnext (bnext G0.out g1) g2⟩


end Go.Proofs.Ytdkdchhkfachmaa
