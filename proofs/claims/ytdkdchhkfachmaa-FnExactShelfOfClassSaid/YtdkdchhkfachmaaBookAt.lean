/- BookAt, by the model and by the program: contracts. Condition: lists no longer than the law tests. -/
import Derived.Test.YtdkdchhkfachmaaCostOf
namespace Go.Proofs.Ytdkdchhkfachmaa
set_option linter.unusedSimpArgs false
set_option linter.unusedVariables false
set_option maxRecDepth 100000
open Go.RowKit

/-- The width of the books from i on, ahead of b. -/
def wT (xs : List Bk) (i : Nat) : Nat → Int
  | 0 => 0
  | b + 1 => if i ≤ b then wT xs i b + (xs.getD b default).wi else 0
theorem wT_lt {xs : List Bk} {i b : Nat} (h : i ≤ b) (hb : b < xs.length) : wT xs i (b + 1) = wT xs i b + xs[b].wi := by rw [wT, if_pos h, getD_in_books hb]
theorem wT_start (xs : List Bk) : ∀ i, wT xs i i = 0
  | 0 => rfl
  | i + 1 => by rw [wT, if_neg (by omega)]
theorem wT_bd (xs : List Bk) (i : Nat) (wf : ∀ b ∈ xs, b.Wf) : ∀ b : Nat, b ≤ xs.length → -32768 * (b : Int) ≤ wT xs i b ∧ wT xs i b ≤ 32767 * (b : Int)
  | 0, _ => by simp [wT]
  | b + 1, h => by
    have ih := wT_bd xs i wf b (by omega)
    have w := (wf xs[b] (List.getElem_mem (by omega))).wi
    rw [wT]
    split
    · rw [getD_in_books (by omega)]; omega
    · omega
theorem totW_part (xs : List Bk) (i k : Nat) (hk : k ≤ xs.length) : ∀ d, i + d ≤ k → totW (part xs i k) d = wT xs i (i + d)
  | 0, _ => by rw [totW, Nat.add_zero, wT_start]
  | d + 1, h => by
    have hl : d < (part xs i k).length := by rw [part_length hk]; omega
    rw [totW, totW_part xs i k hk d (by omega), getD_in_books hl, part_get d hl (by omega), ← wT_lt (by omega) (by omega)]
    rfl
/-- The first book from b on whose east side is behind a place. -/
def baF (xs : List Bk) (i : Nat) (p : Int) : Nat → Nat → Int × Int
  | 0, _ => (0, 6)
  | f + 1, b => if p < wT xs i (b + 1) then ((b : Int), 0) else baF xs i p f (b + 1)
def baR (c : Cs) (xs : List Bk) (es : List Int) (a p : Int) : Int × Int :=
  if layCode c xs es = 0 then (if inB a 0 ((c.hs.length : Int) - 1) && inB p 0 (c.wi - 1) then baF xs (fromE es a.toNat).toNat p ((es.getD a.toNat 0).toNat - (fromE es a.toNat).toNat) (fromE es a.toNat).toNat else (0, 2)) else (0, layCode c xs es)

/-- What is asked of a shelf and a place. -/
theorem ba_cases (c : Cs) (xs : List Bk) (es : List Int) (a p : Int) :
    (layCode c xs es = 1 ∧ baR c xs es a p = (0, 1)) ∨ (layCode c xs es = 8 ∧ baR c xs es a p = (0, 8)) ∨
    (layCode c xs es = 0 ∧ caseB c = true ∧ okB xs = true ∧ layB c xs es = true ∧
      ((inB a 0 ((c.hs.length : Int) - 1) = false ∧ baR c xs es a p = (0, 2)) ∨
       (inB a 0 ((c.hs.length : Int) - 1) = true ∧ inB p 0 (c.wi - 1) = false ∧ baR c xs es a p = (0, 2)) ∨
       (∃ s i k : Nat, a = s ∧ s < c.hs.length ∧ s < es.length ∧ inB a 0 ((c.hs.length : Int) - 1) = true ∧ inB p 0 (c.wi - 1) = true ∧ fromE es s = i ∧ es[s]? = some (k : Int) ∧ i ≤ k ∧ k ≤ xs.length ∧ baR c xs es a p = baF xs i p (k - i) i))) := by
  rcases code_cases c xs es with h | h | ⟨h, h1, h2, h3⟩
  · left
    exact ⟨h, by unfold baR; rw [h]; rfl⟩
  · right; left
    exact ⟨h, by unfold baR; rw [h]; rfl⟩
  · right; right
    refine ⟨h, h1, h2, h3, ?_⟩
    rcases shelf_cases c a with hr | ⟨s, rfl, hs, hr⟩
    · left
      exact ⟨hr, by unfold baR; rw [h, hr]; rfl⟩
    · cases hp : inB p 0 (c.wi - 1)
      · right; left
        exact ⟨hr, rfl, by unfold baR; rw [h, hr, hp]; rfl⟩
      · right; right
        have hse : s < es.length := by rw [lay_len h3]; exact hs
        obtain ⟨-, i, k, hi, hk, hik, hkn, -⟩ := lay_at h3 hse
        refine ⟨s, i, k, rfl, hs, hse, hr, rfl, hi, by rw [List.getElem?_eq_getElem hse, hk], hik, hkn, ?_⟩
        unfold baR
        rw [h, hr, hp]
        simp [hi, List.getElem?_eq_getElem hse, hk]

set_option maxHeartbeats 8000000 in
theorem specBookAt_any (c : Cs) (hv : Value) (A : Option Addr) (m : Nat) (v : Value) (xs : List Bk) (es : List Int) (a p : Int) (wc : c.Wf) (wf : ∀ b ∈ xs, b.Wf) (w : World) (sc : IntsOf .i16 w hv c.hs) (mc : c.hs.length ≤ maxLen) (sl : SliceOf w (.slice A xs.length m) xs) (hm : xs.length ≤ m) (ml : xs.length ≤ maxLen) (se : IntsOf .i64 w v es) (me : es.length ≤ maxLen) (ha1 : -9223372036854775808 ≤ a) (ha2 : a ≤ 9223372036854775807) (hp1 : -9223372036854775808 ≤ p) (hp2 : p ≤ 9223372036854775807) :
    Calls Try.prog 47 #[.agg #[.int .i16 c.wi, .int .i32 c.lo, hv], .slice A xs.length m, v, .int .i64 a, .int .i64 p] w fun e w' => e = .returned (.tuple #[.int .i64 (baR c xs es a p).1, .int .i64 (baR c xs es a p).2]) ∧ Below w.heap.size w w' := by
  have G0 := Lib.hid (show Below w.heap.size w (w.alloc (.cells #[.int .i16 c.wi, .int .i32 c.lo, hv] 28)) by go_grown)
  have HB := Lib.hid (CaseAt.new (t := 28) sc)
  have HC := Lib.hid (sc.below G0.out)
  have SL := Lib.hid (sl.below G0.out)
  have SE := Lib.hid (se.below G0.out)
  have WC := Lib.hid wc
  have WF := Lib.hid wf
  have MC := Lib.hid mc
  have ME := Lib.hid me
  obtain ⟨wc1, wc2⟩ := wc.wi
  obtain ⟨H, qh, rfl, -⟩ := sc
  obtain ⟨Ev, qe, rfl, -⟩ := se
  clear sl wc wf mc me
  rcases ba_cases c xs es a p with ⟨h, e⟩ | ⟨h, e⟩ | ⟨h, a1, a2, hl, ⟨hr, e⟩ | ⟨hr, hp, e⟩ | ⟨s, i, k, rfl, hs, hse, hr, hp, hi, hk, hik, hkn, e⟩⟩
  · have EQ := Lib.hid h
    have E := Lib.hid e
    clear h e
    go_enter Try.func47, Try.ntmps47
    go_wp2_with fail
    generalize World.alloc _ _ = W0 at G0 HB HC SL SE ⊢
    refine (l02Laid_any c _ A m _ xs es WC.out WF.out _ _ HB.out MC.out SL.out hm ml SE.out ME.out).mono ?_
    rintro e w1 ⟨rfl, g1⟩
    rw [EQ.out]
    go_wp2
    go_ret2
    exact ⟨by rw [E.out]; rfl, bnext G0.out g1⟩
  · have EQ := Lib.hid h
    have E := Lib.hid e
    clear h e
    go_enter Try.func47, Try.ntmps47
    go_wp2_with fail
    generalize World.alloc _ _ = W0 at G0 HB HC SL SE ⊢
    refine (l02Laid_any c _ A m _ xs es WC.out WF.out _ _ HB.out MC.out SL.out hm ml SE.out ME.out).mono ?_
    rintro e w1 ⟨rfl, g1⟩
    rw [EQ.out]
    go_wp2
    go_ret2
    exact ⟨by rw [E.out]; rfl, bnext G0.out g1⟩
  · obtain ⟨cl1, cl2⟩ := caseB_lens a1
    have EQ := Lib.hid h
    have E := Lib.hid e
    clear h e
    go_enter Try.func47, Try.ntmps47
    go_wp2_with fail
    generalize World.alloc _ _ = W0 at G0 HB HC SL SE ⊢
    refine (l02Laid_any c _ A m _ xs es WC.out WF.out _ _ HB.out MC.out SL.out hm ml SE.out ME.out).mono ?_
    rintro e w1 ⟨rfl, g1⟩
    rw [EQ.out]
    have c0 := (HB.out.below g1).c0
    have c2 := (HB.out.below g1).c2
    clear a1 a2 hl
    go_wp2_with (go_at_call 61; refine (l00In_any _ _ _ _).mono ?_; rintro e w' ⟨rfl, rfl⟩)
    go_ret2
    exact ⟨by rw [E.out]; rfl, bnext G0.out g1⟩
  · obtain ⟨cl1, cl2⟩ := caseB_lens a1
    have EQ := Lib.hid h
    have E := Lib.hid e
    clear h e
    go_enter Try.func47, Try.ntmps47
    go_wp2_with fail
    generalize World.alloc _ _ = W0 at G0 HB HC SL SE ⊢
    refine (l02Laid_any c _ A m _ xs es WC.out WF.out _ _ HB.out MC.out SL.out hm ml SE.out ME.out).mono ?_
    rintro e w1 ⟨rfl, g1⟩
    rw [EQ.out]
    have c0 := (HB.out.below g1).c0
    have c2 := (HB.out.below g1).c2
    clear a1 a2 hl
    go_wp2_with (go_at_call 61; refine (l00In_any _ _ _ _).mono ?_; rintro e w' ⟨rfl, rfl⟩)
    go_ret2
    exact ⟨by rw [E.out]; rfl, bnext G0.out g1⟩
  · have BE := Lib.hid e
    obtain ⟨cl1, cl2⟩ := caseB_lens a1
    have EQ := Lib.hid h
    have E := Lib.hid e
    have HI := Lib.hid hi
    have HK := Lib.hid hk
    have L60 := okB_len a2
    have LE := Lib.hid (lay_len hl)
    clear h e hi hk
    go_enter Try.func47, Try.ntmps47
    go_wp2_with fail
    generalize World.alloc _ _ = W0 at G0 HB HC SL SE ⊢
    refine (l02Laid_any c _ A m _ xs es WC.out WF.out _ _ HB.out MC.out SL.out hm ml SE.out ME.out).mono ?_
    rintro e w1 ⟨rfl, g1⟩
    rw [EQ.out]
    have c0 := (HB.out.below g1).c0
    have c2 := (HB.out.below g1).c2
    clear a1 a2 hl
    go_wp2_with (go_at_call 61; refine (l00In_any _ _ _ _).mono ?_; rintro e w' ⟨rfl, rfl⟩)
    go_wp2_with fail
    refine (l02From_any _ es s _ (SE.out.below g1) (by omega) (by have := LE.out; omega)).mono ?_
    rintro e w2 ⟨rfl, rfl⟩
    rw [HI.out]
    go_wp2
    go_loopw [13, 14] (fun at_ b_ wr => ∃ (b : Nat) (x : Int), x = wT xs i b ∧ i ≤ b ∧ b ≤ k ∧ baF xs i p (k - b) b = baF xs i p (k - i) i ∧ at_ = .int .i64 x ∧ b_ = .int .i64 (b : Int) ∧ Below w1.heap.size w1 wr) (fun _ b_ _ => k - (intOf b_).toNat)
    case atStart => exact ⟨i, 0, (wT_start xs i).symm, Nat.le_refl _, hik, rfl, rfl, rfl, Below.refl _ _⟩
    case round =>
      obtain ⟨b, x, hx, hib, hbk, hba, rfl, rfl, hb⟩ := hrel
      have wb := wT_bd xs i WF.out b (by omega)
      have x1 : -70000000000 ≤ x := by omega
      have x2 : x ≤ 70000000000 := by omega
      have HX := Lib.hid hx
      have HBA := Lib.hid hba
      obtain ⟨Ge, oe, hE, hge, hate⟩ : ∃ g o, Ev = some ⟨g, o, none⟩ ∧ g < W0.heap.size ∧ IntsAt .i64 W0 g o es := by
        obtain ⟨E', q', e', se⟩ := SE.out
        obtain ⟨rfl, -, rfl⟩ : Ev = E' ∧ es.length = es.length ∧ qe = q' := by injection e' with a b d; exact ⟨a, b, d⟩
        exact se (by omega)
      subst hE
      have p0 : wr.cell? ⟨Ge, oe + s, none⟩ = some (.int .i64 (k : Int)) := by
        have h1 := hate.below (bnext g1 hb) hge s hse
        have h2 : es[s] = (k : Int) := by have := HK.out; rw [List.getElem?_eq_getElem hse] at this; simpa using this
        rw [h2] at h1
        exact h1
      clear wb hx hba hate
      by_cases hlt : b < k
      · obtain ⟨Ga, oa, hA, hga, hat⟩ : ∃ g o, A = some ⟨g, o, none⟩ ∧ g < W0.heap.size ∧ BooksAt W0 g o xs := by
          obtain ⟨A', q', e', se⟩ := SL.out
          obtain ⟨rfl, -, rfl⟩ : A = A' ∧ xs.length = xs.length ∧ m = q' := by injection e' with a b d; exact ⟨a, b, d⟩
          exact se (by omega)
        subst hA
        have hbn : b < xs.length := by omega
        have p5 := (booksAt_some (hat.below (bnext g1 hb) hga) hbn).2.2.2.2.2.1
        obtain ⟨bw1, bw2⟩ := (WF.out _ (List.getElem_mem hbn)).wi
        have EW := Lib.hid (wT_lt hib hbn)
        clear hat
        by_cases hlp : p < x + xs[b].wi
        · have EB := Lib.hid (show baF xs i p (k - i) i = ((b : Int), 0) by rw [← HBA.out, show k - b = (k - b - 1) + 1 by omega, baF, if_pos (by rw [EW.out, ← HX.out]; exact hlp)])
          go_wp2
          go_ret2
          exact ⟨by rw [E.out, EB.out]; rfl, bnext (bnext G0.out g1) hb⟩
        · have EB := Lib.hid (show baF xs i p (k - (b + 1)) (b + 1) = baF xs i p (k - i) i by rw [← HBA.out, show k - b = (k - (b + 1)) + 1 by omega, baF, if_neg (by rw [EW.out, ← HX.out]; exact hlp)])
          go_wp2
          go_roundw
          case rel => exact ⟨b + 1, x + xs[b].wi, by rw [EW.out, HX.out], by omega, by omega, EB.out, by first | rfl | (congr 1), by go_num, hb⟩
          case measure => simp [intOf]; omega
      · obtain rfl : b = k := by omega
        have EB := Lib.hid (show baF xs i p (b - i) i = (0, 6) by rw [← HBA.out, Nat.sub_self]; rfl)
        go_wp2
        go_ret2
        exact ⟨by rw [E.out, EB.out]; rfl, bnext (bnext G0.out g1) hb⟩


set_option maxHeartbeats 8000000 in
theorem bookAt_any (c : Cs) (hv : Value) (A : Option Addr) (m : Nat) (v : Value) (xs : List Bk) (es : List Int) (a p : Int) (wc : c.Wf) (wf : ∀ b ∈ xs, b.Wf) (w : World) (sc : IntsOf .i16 w hv c.hs) (mc : c.hs.length ≤ maxLen) (sl : SliceOf w (.slice A xs.length m) xs) (hm : xs.length ≤ m) (ml : xs.length ≤ maxLen) (se : IntsOf .i64 w v es) (me : es.length ≤ maxLen) (ha1 : -9223372036854775808 ≤ a) (ha2 : a ≤ 9223372036854775807) (hp1 : -9223372036854775808 ≤ p) (hp2 : p ≤ 9223372036854775807) :
    Calls Try.prog 48 #[.agg #[.int .i16 c.wi, .int .i32 c.lo, hv], .slice A xs.length m, v, .int .i64 a, .int .i64 p] w fun e w' => e = .returned (.tuple #[.int .i64 (baR c xs es a p).1, .int .i64 (baR c xs es a p).2]) ∧ Below w.heap.size w w' := by
  have G0 := Lib.hid (show Below w.heap.size w (w.alloc (.cells #[.int .i16 c.wi, .int .i32 c.lo, hv] 28)) by go_grown)
  have HB := Lib.hid (CaseAt.new (t := 28) sc)
  have HC := Lib.hid (sc.below G0.out)
  have SL := Lib.hid (sl.below G0.out)
  have SE := Lib.hid (se.below G0.out)
  have WC := Lib.hid wc
  have WF := Lib.hid wf
  have MC := Lib.hid mc
  have ME := Lib.hid me
  obtain ⟨wc1, wc2⟩ := wc.wi
  obtain ⟨H, qh, rfl, -⟩ := sc
  obtain ⟨Ev, qe, rfl, -⟩ := se
  clear sl wc wf mc me
  rcases ba_cases c xs es a p with ⟨h, e⟩ | ⟨h, e⟩ | ⟨h, a1, a2, hl, ⟨hr, e⟩ | ⟨hr, hp, e⟩ | ⟨s, i, k, rfl, hs, hse, hr, hp, hi, hk, hik, hkn, e⟩⟩
  · have EQ := Lib.hid h
    have E := Lib.hid e
    clear h e
    go_enter Try.func48, Try.ntmps48
    go_wp2_with fail
    generalize World.alloc _ _ = W0 at G0 HB HC SL SE ⊢
    refine (layoutOf_any c _ A m _ xs es WF.out _ HC.out MC.out SL.out hm ml SE.out ME.out).mono ?_
    rintro e w1 ⟨u, rfl, ho, g1⟩
    rw [EQ.out]
    clear ho
    go_wp2
    go_ret2
    exact ⟨by rw [E.out]; rfl, bnext G0.out g1⟩
  · have EQ := Lib.hid h
    have E := Lib.hid e
    clear h e
    go_enter Try.func48, Try.ntmps48
    go_wp2_with fail
    generalize World.alloc _ _ = W0 at G0 HB HC SL SE ⊢
    refine (layoutOf_any c _ A m _ xs es WF.out _ HC.out MC.out SL.out hm ml SE.out ME.out).mono ?_
    rintro e w1 ⟨u, rfl, ho, g1⟩
    rw [EQ.out]
    clear ho
    go_wp2
    go_ret2
    exact ⟨by rw [E.out]; rfl, bnext G0.out g1⟩
  · obtain ⟨cl1, cl2⟩ := caseB_lens a1
    have EQ := Lib.hid h
    have E := Lib.hid e
    clear h e
    go_enter Try.func48, Try.ntmps48
    go_wp2_with fail
    generalize World.alloc _ _ = W0 at G0 HB HC SL SE ⊢
    refine (layoutOf_any c _ A m _ xs es WF.out _ HC.out MC.out SL.out hm ml SE.out ME.out).mono ?_
    rintro e w1 ⟨u, rfl, ho, g1⟩
    rw [EQ.out]
    have LN : layN c xs es = c.hs.length := by unfold layN; rw [if_pos EQ.out]
    rw [LN] at ho
    clear LN
    obtain ⟨g, cap, rfl⟩ : ∃ g cap, u = .slice (some ⟨g, 0, none⟩) c.hs.length cap := by
      rcases ho.2 with ⟨_, h⟩ | ⟨g, cap, cur, h, _⟩
      · omega
      · exact ⟨g, cap, h⟩
    have HO := Lib.hid ho
    clear ho
    have c0 := (HB.out.below g1).c0
    have c2 := (HB.out.below g1).c2
    clear a1 a2 hl
    go_wp2_with (go_at_call 65; refine (within64_any _ _ _ _).mono ?_; rintro e w' ⟨rfl, rfl⟩)
    go_ret2
    exact ⟨by rw [E.out]; rfl, bnext G0.out g1⟩
  · obtain ⟨cl1, cl2⟩ := caseB_lens a1
    have EQ := Lib.hid h
    have E := Lib.hid e
    clear h e
    go_enter Try.func48, Try.ntmps48
    go_wp2_with fail
    generalize World.alloc _ _ = W0 at G0 HB HC SL SE ⊢
    refine (layoutOf_any c _ A m _ xs es WF.out _ HC.out MC.out SL.out hm ml SE.out ME.out).mono ?_
    rintro e w1 ⟨u, rfl, ho, g1⟩
    rw [EQ.out]
    have LN : layN c xs es = c.hs.length := by unfold layN; rw [if_pos EQ.out]
    rw [LN] at ho
    clear LN
    obtain ⟨g, cap, rfl⟩ : ∃ g cap, u = .slice (some ⟨g, 0, none⟩) c.hs.length cap := by
      rcases ho.2 with ⟨_, h⟩ | ⟨g, cap, cur, h, _⟩
      · omega
      · exact ⟨g, cap, h⟩
    have HO := Lib.hid ho
    clear ho
    have c0 := (HB.out.below g1).c0
    have c2 := (HB.out.below g1).c2
    clear a1 a2 hl
    go_wp2_with (go_at_call 65; refine (within64_any _ _ _ _).mono ?_; rintro e w' ⟨rfl, rfl⟩)
    go_ret2
    exact ⟨by rw [E.out]; rfl, bnext G0.out g1⟩
  · obtain ⟨cl1, cl2⟩ := caseB_lens a1
    have EQ := Lib.hid h
    have E := Lib.hid e
    have HI := Lib.hid hi
    have HK := Lib.hid hk
    have L60 := okB_len a2
    have LE := Lib.hid (lay_len hl)
    clear h e hi hk
    go_enter Try.func48, Try.ntmps48
    go_wp2_with fail
    generalize World.alloc _ _ = W0 at G0 HB HC SL SE ⊢
    refine (layoutOf_any c _ A m _ xs es WF.out _ HC.out MC.out SL.out hm ml SE.out ME.out).mono ?_
    rintro e w1 ⟨u, rfl, ho, g1⟩
    rw [EQ.out]
    have LN : layN c xs es = c.hs.length := by unfold layN; rw [if_pos EQ.out]
    rw [LN] at ho
    clear LN
    obtain ⟨g, cap, rfl⟩ : ∃ g cap, u = .slice (some ⟨g, 0, none⟩) c.hs.length cap := by
      rcases ho.2 with ⟨_, h⟩ | ⟨g, cap, cur, h, _⟩
      · omega
      · exact ⟨g, cap, h⟩
    have HO := Lib.hid ho
    clear ho
    have c0 := (HB.out.below g1).c0
    have c2 := (HB.out.below g1).c2
    clear a1 a2 hl
    have hes : es[s] = (k : Int) := by have := HK.out; rw [List.getElem?_eq_getElem hse] at this; simpa using this
    have e0 := (HO.out.cellAt (s * 3 + 0) (by omega)).trans (rowsCs_at c A xs es s 0 (by omega) _ hs)
    have e1 := (HO.out.cellAt (s * 3 + 1) (by omega)).trans (rowsCs_at c A xs es s 1 (by omega) _ hs)
    rw [getD_ints hse, HI.out, hes] at e0 e1
    simp only [rowCs, Int.toNat_natCast, List.getElem?_cons_zero, List.getElem?_cons_succ, Nat.add_zero] at e0 e1
    clear hes
    have hgb : g < w1.heap.size := (HO.out.lt g rfl).2
    have SP := Lib.hid ((SL.out.below g1).part hik hkn (Nat.le_refl k))
    have kd : k - i ≤ 60 := by omega
    have kd' : ((k - i : Nat) : Int) ≤ 60 := by omega
    go_wp2_with (go_at_call 65; refine (within64_any _ _ _ _).mono ?_; rintro e w' ⟨rfl, rfl⟩)
    go_loopw [14, 48] (fun east_ d_ wr => ∃ (d : Nat) (x : Int), x = wT xs i (i + d) ∧ i + d ≤ k ∧ baF xs i p (k - (i + d)) (i + d) = baF xs i p (k - i) i ∧ east_ = .int .i64 x ∧ d_ = .int .i64 (d : Int) ∧ Below w1.heap.size w1 wr) (fun _ d_ _ => (k - i) - (intOf d_).toNat)
    case atStart => exact ⟨0, 0, (wT_start xs i).symm, by omega, rfl, rfl, rfl, Below.refl _ _⟩
    case round =>
      obtain ⟨d, x, hx, hdk, hba, rfl, rfl, hb⟩ := hrel
      have wb := wT_bd xs i WF.out (i + d) (by omega)
      have x1 : -70000000000 ≤ x := by omega
      have x2 : x ≤ 70000000000 := by omega
      have HX := Lib.hid hx
      have HBA := Lib.hid hba
      clear wb hx hba
      by_cases hlt : d < k - i
      · have hbn : i + d < xs.length := by omega
        have hdl : d < (part xs i k).length := by rw [part_length hkn]; exact hlt
        have PG := part_get d hdl hbn
        obtain ⟨Ga, oa, hA, hga, hat⟩ : ∃ g o, subA A i k = some ⟨g, o, none⟩ ∧ g < w1.heap.size ∧ BooksAt w1 g o (part xs i k) := by
          obtain ⟨A', q', e', se⟩ := SP.out
          injection e' with a' b' d'
          obtain ⟨g', o', hh, h2, h3⟩ := se (by omega)
          exact ⟨g', o', a'.trans hh, h2, h3⟩
        obtain ⟨p0, p1, p2, p3, p4, p5, p6, p7⟩ := booksAt_some (hat.below hb hga) hdl
        rw [PG] at p0 p1 p2 p3 p4 p5 p6 p7
        have WB := Lib.hid (WF.out _ (List.getElem_mem hbn))
        obtain ⟨bw1, bw2⟩ := WB.out.wi
        have EW := Lib.hid (wT_lt (xs := xs) (i := i) (b := i + d) (by omega) hbn)
        have HA := Lib.hid hA
        have hgb' := Nat.lt_of_lt_of_le hgb hb.size
        have e0' := (hb.cell (p := ⟨g, s * 3, none⟩) hgb).trans e0
        clear hat hA PG
        rw [HA.out]
        have hlt' : (d : Int) < ((k - i : Nat) : Int) := by omega
        by_cases hlp : p < x + xs[i + d].wi
        · have EB := Lib.hid (show baF xs i p (k - i) i = (((i + d : Nat) : Int), 0) by rw [← HBA.out, show k - (i + d) = (k - (i + d) - 1) + 1 by omega, baF, if_pos (by rw [EW.out, ← HX.out]; exact hlp)])
          go_wp2_with fail
          refine (wideOf_any xs[i + d] WB.out _).mono ?_
          rintro e w2 ⟨rfl, g2⟩
          have e0' := (g2.cell (p := ⟨g, s * 3, none⟩) (by simp; omega)).trans ((((Below.refl wr.heap.size wr).alloc (Nat.le_refl _) _).cell (p := ⟨g, s * 3, none⟩) hgb').trans e0')
          have hs1 : (s : Int) < (c.hs.length : Int) := by omega
          clear p0 p1 p2 p3 p4 p5 p6 p7
          go_wp2
          go_ret2
          exact ⟨by rw [E.out, EB.out]; first | rfl | (simp), bnext (bnext (bnext G0.out g1) hb) (bnew _ g2)⟩
        · have EB := Lib.hid (show baF xs i p (k - (i + (d + 1))) (i + (d + 1)) = baF xs i p (k - i) i by rw [← HBA.out, show k - (i + d) = (k - (i + (d + 1))) + 1 by omega, baF, if_neg (by rw [EW.out, ← HX.out]; exact hlp)]; rfl)
          go_wp2_with fail
          refine (wideOf_any xs[i + d] WB.out _).mono ?_
          rintro e w2 ⟨rfl, g2⟩
          clear p0 p1 p2 p3 p4 p5 p6 p7 e0'
          go_wp2
          go_roundw
          case rel => exact ⟨d + 1, x + xs[i + d].wi, by rw [show i + (d + 1) = i + d + 1 by omega, EW.out, HX.out], by omega, EB.out, by first | rfl | (congr 1), by go_num, bnext hb (bnew _ g2)⟩
          case measure => simp [intOf]; omega
      · have EB := Lib.hid (show baF xs i p (k - i) i = (0, 6) by rw [← HBA.out, show k - (i + d) = 0 by omega]; rfl)
        have hnl : ¬ ((d : Int) < ((k - i : Nat) : Int)) := by omega
        go_wp2
        go_ret2
        exact ⟨by rw [E.out, EB.out]; rfl, bnext (bnext G0.out g1) hb⟩


end Go.Proofs.Ytdkdchhkfachmaa
