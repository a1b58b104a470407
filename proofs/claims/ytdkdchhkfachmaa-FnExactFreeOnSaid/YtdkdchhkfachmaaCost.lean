/- CostOf and UsedShelves, by the model and by the program: contracts. Condition: lists no longer than the law tests. -/
import Derived.Test.YtdkdchhkfachmaaMeas
namespace Go.Proofs.Ytdkdchhkfachmaa
set_option linter.unusedSimpArgs false
set_option linter.unusedVariables false
set_option maxRecDepth 100000
open Go.RowKit

def costV (c : Cs) (xs : List Bk) (es : List Int) (single : Bool) : Int := if layCode c xs es = 0 then sumTo c xs es single es.length else 0

theorem rowsCs_at (c : Cs) (A : Option Addr) (xs : List Bk) (es : List Int) (j t : Nat) (ht : t < 3) : ∀ n, j < n → (rowsCs c A xs es n)[j * 3 + t]? = (rowCs c A xs (fromE es j).toNat (es.getD j 0).toNat)[t]?
  | 0, h => absurd h (Nat.not_lt_zero _)
  | n + 1, h => by
    rw [rowsCs]
    by_cases e : j = n
    · subst e
      rw [List.getElem?_append_right (by rw [rowsCs_length]; omega), rowsCs_length]
      congr 1
      omega
    · rw [List.getElem?_append_left (by rw [rowsCs_length]; omega)]
      exact rowsCs_at c A xs es j t ht n (by omega)

theorem meas_price {c : Cs} {s : Nat} {ps : List Bk} (m : Nat) (hm : m = 1 ∨ m = 2) (h : fitsB c s ps = true) : measV m ps.length (freeB c ps) = priceS c s ps (m == 1) := by
  have hf : freeS c s ps = freeB c ps := by unfold freeS; rw [h]; rfl
  have hn := freeS_nonneg c s ps
  rw [h, hf] at hn
  simp only [decide_eq_true_eq] at hn
  have hnn : ¬ freeB c ps < 0 := by omega
  unfold priceS measV useI
  rw [hf]
  rcases hm with rfl | rfl
  · by_cases h0 : ps.length = 0
    · rw [if_neg hnn, if_pos h0, if_pos h0]; simp
    · rw [if_neg hnn, if_neg h0, if_neg h0]; simp
  · by_cases h0 : ps.length = 0
    · rw [if_neg hnn, if_pos h0, if_pos h0]; simp
    · rw [if_neg hnn, if_neg h0, if_neg h0]; simp

set_option maxHeartbeats 8000000 in
theorem sumOf_any (c : Cs) (hv : Value) (A : Option Addr) (m : Nat) (v : Value) (xs : List Bk) (es : List Int) (M : Nat) (hM : M = 1 ∨ M = 2) (wc : c.Wf) (wf : ∀ b ∈ xs, b.Wf) (w : World) (sc : IntsOf .i16 w hv c.hs) (mc : c.hs.length ≤ maxLen) (sl : SliceOf w (.slice A xs.length m) xs) (hm : xs.length ≤ m) (ml : xs.length ≤ maxLen) (se : IntsOf .i64 w v es) (me : es.length ≤ maxLen) :
    Calls Try.prog 78 #[.agg #[.int .i16 c.wi, .int .i32 c.lo, hv], .slice A xs.length m, v, .int .i64 (M : Int)] w fun e w' => e = .returned (.tuple #[.int .i64 (costV c xs es (M == 1)), .int .i64 (layCode c xs es)]) ∧ Below w.heap.size w w' := by
  have G0 := Lib.hid (show Below w.heap.size w (w.alloc (.cells #[.int .i16 c.wi, .int .i32 c.lo, hv] 28)) by go_grown)
  have HC := Lib.hid (sc.below G0.out)
  have SL := Lib.hid (sl.below G0.out)
  have SE := Lib.hid (se.below G0.out)
  have WC := Lib.hid wc
  have WF := Lib.hid wf
  have MC := Lib.hid mc
  have ME := Lib.hid me
  have OM := Lib.hid (fun X i d f W (hd : d ≤ 60) f1 f2 => of_any M (by omega) X i d f W hd f1 f2)
  obtain ⟨H, qh, rfl, -⟩ := sc
  obtain ⟨Ev, qe, rfl, -⟩ := se
  clear sl wc wf mc me
  by_cases hl : layCode c xs es = 0
  · have LN : layN c xs es = c.hs.length := by unfold layN; rw [if_pos hl]
    have HL : askB c xs = true ∧ layB c xs es = true := by unfold layCode at hl; cases h1 : askB c xs <;> cases h2 : layB c xs es <;> simp [h1, h2] at hl ⊢
    obtain ⟨a1, a2⟩ := askB_both HL.1
    obtain ⟨cl1, cl2⟩ := caseB_lens a1
    have h60 := okB_len a2
    have LE := lay_len HL.2
    have LB := Lib.hid HL.2
    have LE' := Lib.hid LE
    have EV := Lib.hid (show costV c xs es (M == 1) = sumTo c xs es (M == 1) c.hs.length by unfold costV; rw [if_pos hl, LE])
    have hl' := Lib.hid hl
    have LNH := Lib.hid LN
    clear hl LN HL LE a1 a2
    go_enter Try.func78, Try.ntmps78
    go_wp2_with fail
    generalize World.alloc _ _ = W0 at G0 HC SL SE ⊢
    refine (layoutOf_any c _ A m _ xs es WF.out _ HC.out MC.out SL.out hm ml SE.out ME.out).mono ?_
    rintro e w1 ⟨u, rfl, ho, g1⟩
    rw [hl'.out]
    rw [LNH.out] at ho
    obtain ⟨g, cap, rfl⟩ : ∃ g cap, u = .slice (some ⟨g, 0, none⟩) c.hs.length cap := by
      rcases ho.2 with ⟨_, h⟩ | ⟨g, cap, cur, h, _⟩
      · omega
      · exact ⟨g, cap, h⟩
    have HO := Lib.hid ho
    have hgb : g < w1.heap.size := (ho.lt g rfl).2
    clear ho
    go_wp2
    go_loopw [12, 24] (fun sum s wr => ∃ (j : Nat) (x : Int), x = sumTo c xs es (M == 1) j ∧ j ≤ c.hs.length ∧ sum = .int .i64 x ∧ s = .int .i64 (j : Int) ∧ Below w1.heap.size w1 wr) (fun _ s _ => c.hs.length - (intOf s).toNat)
    case atStart => exact ⟨0, 0, rfl, Nat.zero_le _, rfl, rfl, Below.refl _ _⟩
    case round =>
      obtain ⟨j, x, hx, hj, rfl, rfl, hb⟩ := hrel
      have sb := sumTo_bd c xs es (M == 1) WC.out WF.out h60 j
      have x1 : -100 ≤ x := by omega
      have x2 : x ≤ 100000000000000 := by omega
      have HX := Lib.hid hx
      clear sb hx
      by_cases hlt : j < c.hs.length
      · have hlt' : j < es.length := by rw [LE'.out]; exact hlt
        obtain ⟨-, i, k, hi, hk, hik, hkn, hfit⟩ := lay_at LB.out hlt'
        have pl : (part xs i k).length = k - i := part_length hkn
        have fb := freeS_bd c j (part xs i k) WC.out (part_wf i k WF.out) (by rw [pl]; omega)
        have fe : freeS c j (part xs i k) = freeB c (part xs i k) := by unfold freeS; rw [hfit]; rfl
        rw [fe] at fb
        obtain ⟨fb1, fb2⟩ := fb
        have pb := priceAt_bd c xs es (M == 1) j WC.out WF.out h60
        rw [priceAt_eq hlt' hi hk, ← meas_price M hM hfit, pl] at pb
        obtain ⟨pb1, pb2⟩ := pb
        have PS := Lib.hid (show sumTo c xs es (M == 1) (j + 1) = sumTo c xs es (M == 1) j + measV M (k - i) (freeB c (part xs i k)) by rw [sumTo, priceAt_eq hlt' hi hk, ← meas_price M hM hfit, pl])
        have ho := ownBelow HO.out hb
        have e0 := (ho.cellAt (j * 3 + 0) (by omega)).trans (rowsCs_at c A xs es j 0 (by omega) _ hlt)
        have e1 := (ho.cellAt (j * 3 + 1) (by omega)).trans (rowsCs_at c A xs es j 1 (by omega) _ hlt)
        have e2 := (ho.cellAt (j * 3 + 2) (by omega)).trans (rowsCs_at c A xs es j 2 (by omega) _ hlt)
        rw [getD_ints hlt', hi, hk] at e0 e1 e2
        simp only [rowCs, Int.toNat_natCast, List.getElem?_cons_zero, List.getElem?_cons_succ, Nat.add_zero] at e0 e1 e2
        have kd : k - i ≤ 60 := by omega
        clear ho hi hk fe pl
        generalize freeB c (part xs i k) = fr at *
        generalize hme : measV M (k - i) fr = me at *
        have HME := Lib.hid hme
        have hw1 : IntKind.i64.wrap (x + me) = x + me := IntWalk.i64_in _ (by omega)
        clear hme
        go_wp2_with fail
        refine (OM.out _ _ (k - i) fr _ kd (by omega) fb2).mono ?_
        rintro e w2 ⟨rfl, g2⟩
        rw [HME.out]
        clear e0 e1 e2
        go_wp2
        go_roundw
        case rel => exact ⟨j + 1, x + me, by rw [PS.out, HX.out], by omega, rfl, by go_num, hb.trans ((bnew _ g2).mono hb.size)⟩
        case measure => simp [intOf]; omega
      · obtain rfl : j = c.hs.length := by omega
        go_wp2
        go_ret2
        exact ⟨by rw [EV.out, HX.out, hl'.out]; rfl, bnext (bnext G0.out g1) hb⟩
  · have LN := Lib.hid (show layN c xs es = 0 by unfold layN; rw [if_neg hl])
    have EV := Lib.hid (show costV c xs es (M == 1) = 0 by unfold costV; rw [if_neg hl])
    clear hl
    go_enter Try.func78, Try.ntmps78
    go_wp2_with fail
    generalize World.alloc _ _ = W0 at G0 HC SL SE ⊢
    refine (layoutOf_any c _ A m _ xs es WF.out _ HC.out MC.out SL.out hm ml SE.out ME.out).mono ?_
    rintro e w1 ⟨u, rfl, ho, g1⟩
    rw [LN.out] at ho
    obtain ⟨X, cap, rfl⟩ : ∃ X cap, u = .slice X 0 cap := by
      rcases ho.2 with ⟨h, _⟩ | ⟨g, cap, cur, h, _⟩
      · exact ⟨_, _, h⟩
      · exact ⟨_, _, h⟩
    clear ho LN
    go_wp2
    refine wp_loop_rounds 1 ?_
    rw [rounds_succ]
    go_wp2
    go_ret2
    exact ⟨by first | (rw [EV.out]; rfl) | (rw [EV.out]; simp), bnext G0.out g1⟩

end Go.Proofs.Ytdkdchhkfachmaa
