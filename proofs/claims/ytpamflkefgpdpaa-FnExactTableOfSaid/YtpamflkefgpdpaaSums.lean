/- What a layout costs and how many shelves it uses: the measures of a row, the model's price and sum, contracts. Condition: a valid case and list. -/
import Derived.Test.YtpamflkefgpdpaaLaid
import Derived.Laws.EntriesVeiled
import Derived.BigRegion
import Derived.RegionTactic
namespace Go.Proofs.Ytpamflkefgpdpaa
set_option linter.unusedSimpArgs false
set_option linter.unusedVariables false
set_option maxRecDepth 100000
open Go.RowKit

def priceS (c : Cs) (s : Nat) (ps : List Bk) (single : Bool) : Int := if freeS c s ps < 0 then -1 else if ps.length = 0 then 0 else if single then 1 else freeS c s ps * freeS c s ps
def priceAt (c : Cs) (xs : List Bk) (es : List Int) (single : Bool) (k : Nat) : Int := priceS c k (part xs (fromE es k).toNat (es.getD k 0).toNat) single
def sumTo (c : Cs) (xs : List Bk) (es : List Int) (single : Bool) : Nat → Int
  | 0 => 0
  | k + 1 => sumTo c xs es single k + priceAt c xs es single k

theorem freeS_bd (c : Cs) (s : Nat) (ps : List Bk) (wc : c.Wf) (wf : ∀ b ∈ ps, b.Wf) (h : ps.length ≤ 60) : -1 ≤ freeS c s ps ∧ freeS c s ps ≤ 2100000 := by
  have := totW_in ps wf _ (Nat.le_refl _)
  have := wc.wi
  unfold freeS freeB
  split
  · rename_i hf
    unfold fitsB at hf
    simp only [Bool.and_eq_true, decide_eq_true_eq] at hf
    omega
  · omega
theorem mul_bd {a M : Int} (h0 : 0 ≤ a) (h1 : a ≤ M) : 0 ≤ a * a ∧ a * a ≤ M * M := ⟨Int.mul_nonneg h0 h0, Int.mul_le_mul h1 h1 h0 (by omega)⟩
theorem priceS_bd (c : Cs) (s : Nat) (ps : List Bk) (single : Bool) (wc : c.Wf) (wf : ∀ b ∈ ps, b.Wf) (h : ps.length ≤ 60) : -1 ≤ priceS c s ps single ∧ priceS c s ps single ≤ 4410000000000 := by
  have hb := freeS_bd c s ps wc wf h
  unfold priceS
  split
  · omega
  · have := mul_bd (a := freeS c s ps) (M := 2100000) (by omega) (by omega)
    split
    · omega
    · split <;> omega
theorem priceAt_bd (c : Cs) (xs : List Bk) (es : List Int) (single : Bool) (k : Nat) (wc : c.Wf) (wf : ∀ b ∈ xs, b.Wf) (h : xs.length ≤ 60) : -1 ≤ priceAt c xs es single k ∧ priceAt c xs es single k ≤ 4410000000000 :=
  priceS_bd c k _ single wc (part_wf _ _ wf) (by unfold part; simp; omega)
theorem sumTo_bd (c : Cs) (xs : List Bk) (es : List Int) (single : Bool) (wc : c.Wf) (wf : ∀ b ∈ xs, b.Wf) (h : xs.length ≤ 60) : ∀ k : Nat, -(k : Int) ≤ sumTo c xs es single k ∧ sumTo c xs es single k ≤ 4410000000000 * (k : Int)
  | 0 => by simp [sumTo]
  | k + 1 => by
    have := sumTo_bd c xs es single wc wf h k
    have := priceAt_bd c xs es single k wc wf h
    rw [sumTo]
    omega

set_option maxHeartbeats 2000000 in
theorem l02Price_any (c : Cs) (hv : Value) (v : Value) (xs : List Bk) (s : Nat) (single : Bool) (wc : c.Wf) (wf : ∀ b ∈ xs, b.Wf) (g : Nat) (w : World) (hc : CaseAt w g c hv) (mc : c.hs.length ≤ maxLen) (hs : s < c.hs.length) (sl : SliceOf w v xs) (hn : xs.length ≤ 60) :
    Calls Try.prog 81 #[.pointer (some ⟨g, 0, none⟩), .int .i64 (s : Int), v, .bool single] w fun e w' => e = .returned (.int .i64 (priceS c s xs single)) ∧ Below w.heap.size w w' := by
  have HC := Lib.hid hc
  have SL := Lib.hid sl
  have WC := Lib.hid wc
  have WF := Lib.hid wf
  have MC := Lib.hid mc
  obtain ⟨fb1, fb2⟩ := freeS_bd c s xs wc wf hn
  obtain ⟨B, m, rfl, -⟩ := sl
  clear hc wc wf mc
  by_cases hneg : freeS c s xs < 0
  · have E := Lib.hid (show priceS c s xs single = -1 by unfold priceS; rw [if_pos hneg])
    go_enter Try.func81, Try.ntmps81
    go_wp2_with fail
    refine (l02Free_any c _ _ xs s WC.out WF.out g _ HC.out MC.out hs SL.out (by omega)).mono ?_
    rintro e w1 ⟨rfl, g1⟩
    generalize freeS c s xs = fr at *
    go_wp2
    go_ret
    exact ⟨by rw [E.out]; rfl, g1⟩
  · by_cases h0 : xs.length = 0
    · have E := Lib.hid (show priceS c s xs single = 0 by unfold priceS; rw [if_neg hneg, if_pos h0])
      have d0 : ((xs.length : Int) == 0) = true := by rw [h0]; rfl
      have H0 := Lib.hid h0
      clear h0
      go_enter Try.func81, Try.ntmps81
      go_wp2_with fail
      refine (l02Free_any c _ _ xs s WC.out WF.out g _ HC.out MC.out hs SL.out (by omega)).mono ?_
      rintro e w1 ⟨rfl, g1⟩
      generalize freeS c s xs = fr at *
      go_wp2
      go_ret
      exact ⟨by rw [E.out]; rfl, g1⟩
    · have d0 : ((xs.length : Int) == 0) = false := by simp; exact fun h => h0 (by rw [h]; rfl)
      cases single
      · have E := Lib.hid (show priceS c s xs false = freeS c s xs * freeS c s xs by unfold priceS; rw [if_neg hneg, if_neg h0]; rfl)
        have mb := mul_bd (a := freeS c s xs) (M := 2100000) (by omega) (by omega)
        have H0 := Lib.hid h0
        clear h0
        obtain ⟨mb1, mb2⟩ := mb
        go_enter Try.func81, Try.ntmps81
        go_wp2_with fail
        refine (l02Free_any c _ _ xs s WC.out WF.out g _ HC.out MC.out hs SL.out (by omega)).mono ?_
        rintro e w1 ⟨rfl, g1⟩
        generalize freeS c s xs = fr at *
        have hmul : IntKind.i64.wrap (fr * fr) = fr * fr := IntWalk.i64_in _ (by omega)
        go_wp2
        go_ret
        exact ⟨by rw [E.out]; first | rfl | (congr 2; exact hmul.symm), g1⟩
      · have E := Lib.hid (show priceS c s xs true = 1 by unfold priceS; rw [if_neg hneg, if_neg h0]; rfl)
        have H0 := Lib.hid h0
        clear h0
        go_enter Try.func81, Try.ntmps81
        go_wp2_with fail
        refine (l02Free_any c _ _ xs s WC.out WF.out g _ HC.out MC.out hs SL.out (by omega)).mono ?_
        rintro e w1 ⟨rfl, g1⟩
        generalize freeS c s xs = fr at *
        go_wp2
        go_ret
        exact ⟨by rw [E.out]; rfl, g1⟩

end Go.Proofs.Ytpamflkefgpdpaa
