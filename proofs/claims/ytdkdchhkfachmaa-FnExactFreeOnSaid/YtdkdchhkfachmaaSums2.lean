/- The sum of a layout's prices, by the model and by the program: contracts; CostOf and UsedShelves. Condition: lists no longer than the law tests. -/
import Derived.Test.YtdkdchhkfachmaaSums
namespace Go.Proofs.Ytdkdchhkfachmaa
set_option linter.unusedSimpArgs false
set_option linter.unusedVariables false
set_option maxRecDepth 100000
open Go.RowKit

theorem lay_at {c : Cs} {xs : List Bk} {es : List Int} (h : layB c xs es = true) {j : Nat} (hj : j < es.length) :
    j < c.hs.length ∧ ∃ i k : Nat, fromE es j = i ∧ es[j] = k ∧ i ≤ k ∧ k ≤ xs.length ∧ fitsB c j (part xs i k) = true := by
  unfold layB at h
  simp only [Bool.and_eq_true, decide_eq_true_eq] at h
  obtain ⟨h1, h2, h3⟩ := h
  have hj' : j < c.hs.length := by omega
  refine ⟨hj', ?_⟩
  have hok : OkTo c xs es (j + 1) := by
    intro s hs
    have hp : ∀ (l : List Nat) (p : Nat → Bool), (l.takeWhile p).length = l.length → ∀ x ∈ l, p x = true := by
      intro l p
      induction l with
      | nil => intro _ x hx; cases hx
      | cons a l ih =>
        intro hl x hx
        rw [List.takeWhile_cons] at hl
        cases hpa : p a
        · rw [hpa] at hl; simp at hl
        · rw [hpa] at hl
          simp at hl
          rcases List.mem_cons.1 hx with rfl | hx
          · exact hpa
          · exact ih hl x hx
    exact hp (List.range c.hs.length) (okAt c xs es) (by unfold goodN at h1; rw [h1]; simp) s (by simp; omega)
  have f1 := OkTo.from_in (k := j) (fun s hs => hok s (by omega))
  have f2 := OkTo.from_in hok
  rw [fromE_succ, getD_ints hj] at f2
  have ho := hok j (by omega)
  refine ⟨(fromE es j).toNat, es[j].toNat, by omega, by omega, ?_, by omega, ?_⟩
  · unfold okAt at ho
    rw [getD_ints hj] at ho
    simp only [Bool.and_eq_true, decide_eq_true_eq] at ho
    omega
  · unfold okAt at ho
    rw [getD_ints hj] at ho
    simp only [Bool.and_eq_true, decide_eq_true_eq] at ho
    exact ho.2.2.2
theorem lay_len {c : Cs} {xs : List Bk} {es : List Int} (h : layB c xs es = true) : es.length = c.hs.length := by
  unfold layB at h
  simp only [Bool.and_eq_true, decide_eq_true_eq] at h
  exact h.2.2
theorem priceAt_eq {c : Cs} {xs : List Bk} {es : List Int} {single : Bool} {j i k : Nat} (hj : j < es.length) (hi : fromE es j = i) (hk : es[j] = k) : priceAt c xs es single j = priceS c j (part xs i k) single := by
  unfold priceAt
  rw [getD_ints hj, hi, hk]
  simp

set_option maxHeartbeats 8000000 in
theorem l02Sum_any (c : Cs) (hv : Value) (A : Option Addr) (m : Nat) (v : Value) (xs : List Bk) (es : List Int) (single : Bool) (wc : c.Wf) (wf : ∀ b ∈ xs, b.Wf) (g : Nat) (w : World) (hc : CaseAt w g c hv) (h1 : caseB c = true) (sl : SliceOf w (.slice A xs.length m) xs) (hm : xs.length ≤ m) (h2 : okB xs = true) (se : IntsOf .i64 w v es) (hl : layB c xs es = true) :
    Calls Try.prog 77 #[.pointer (some ⟨g, 0, none⟩), .slice A xs.length m, v, .bool single] w fun e w' => e = .returned (.int .i64 (sumTo c xs es single es.length)) ∧ Below w.heap.size w w' := by
  obtain ⟨cl1, cl2⟩ := caseB_lens h1
  have h60 := okB_len h2
  have le := lay_len hl
  have HC := Lib.hid hc
  have SL := Lib.hid sl
  have SE0 := Lib.hid se
  have WC := Lib.hid wc
  have WF := Lib.hid wf
  have mc : Hid (c.hs.length ≤ maxLen) := Lib.hid (by unfold maxLen; omega)
  obtain ⟨E, q, rfl, se⟩ := se
  have SE := Lib.hid se
  have LB := Lib.hid hl
  have hle : es.length ≤ 12 := by omega
  clear hc sl se wc wf h1 h2 le hl
  go_enter Try.func77, Try.ntmps77
  go_wp2
  go_loopw [9, 10] (fun sum s wr => ∃ (j : Nat) (x : Int), x = sumTo c xs es single j ∧ j ≤ es.length ∧ sum = .int .i64 x ∧ s = .int .i64 (j : Int) ∧ Below w.heap.size w wr) (fun _ s _ => es.length - (intOf s).toNat)
  case atStart => exact ⟨0, 0, rfl, Nat.zero_le _, rfl, rfl, Below.refl _ _⟩
  case round =>
    obtain ⟨j, x, hx, hj, rfl, rfl, hb⟩ := hrel
    have sb := sumTo_bd c xs es single WC.out WF.out h60 j
    have x1 : -100 ≤ x := by omega
    have x2 : x ≤ 100000000000000 := by omega
    have HX := Lib.hid hx
    clear sb hx
    by_cases hlt : j < es.length
    · obtain ⟨hjc, i, k, hi, hk, hik, hkn, -⟩ := lay_at LB.out hlt
      have pb := priceAt_bd c xs es single j WC.out WF.out h60
      rw [priceAt_eq hlt hi hk] at pb
      obtain ⟨pb1, pb2⟩ := pb
      have PS := Lib.hid (show sumTo c xs es single (j + 1) = sumTo c xs es single j + priceS c j (part xs i k) single by rw [sumTo, priceAt_eq hlt hi hk])
      obtain ⟨ge, oe, rfl, hge, hat⟩ := SE.out (by omega)
      have p0 := belowBy_cell (Nat.lt_of_lt_of_le hge hb.size) (hat.below hb hge j hlt)
      rw [hk] at p0
      have hsl := run_part2 A xs.length m i k hik (by omega)
      have CF := Lib.hid (fun W (hB : Below wr.heap.size wr W) => hi ▸ l02From_any _ es j W (SE0.out.below (bnext hb hB)) hj (by omega))
      have CP := Lib.hid (fun W (hB : Below wr.heap.size wr W) => l02Price_any c _ _ (part xs i k) j single WC.out (part_wf i k WF.out) g W (HC.out.below (bnext hb hB)) mc.out hjc ((SL.out.below (bnext hb hB)).part hik hkn (show k ≤ m by omega)) (by rw [part_length hkn]; omega))
      clear hat hi hk
      generalize priceS c j (part xs i k) single = pr at *
      have hw1 : IntKind.i64.wrap (x + pr) = x + pr := IntWalk.i64_in _ (by omega)
      go_wp2
      refine wp_region_below (by kernel_rfl) (by kernel_rfl) ?_
      repeat (quiet_step ((first | (go_at_call 75; exact calls_same_below (CF.out _ (BelowBy.h _))) | (go_at_call 95; exact calls_below (CP.out _ (BelowBy.h _))))))
      refine wpQuiet_nil ?_
      rintro _ ⟨⟨wq, hq⟩, rfl⟩
      clear p0 hsl hw1
      go_wp2
      go_roundw
      case rel => exact ⟨j + 1, x + pr, by rw [PS.out, HX.out], by omega, rfl, by go_num, bnext hb hq⟩
      case measure => simp [intOf]; omega
    · obtain rfl : j = es.length := by omega
      go_wp2
      go_ret
      exact ⟨by rw [← HX.out]; rfl, hb⟩

end Go.Proofs.Ytdkdchhkfachmaa
