/- How many books stand on different shelves: the program's function, a contract. Condition: no longer than a slice can be. -/
import Derived.Test.YtdkdchhkfachmabMoved
namespace Go.Proofs.Ytdkdchhkfachmab
set_option linter.unusedSimpArgs false
set_option linter.unusedVariables false
set_option maxRecDepth 100000
open Go.RowKit

theorem shK_at {es : List Int} {n b : Nat} (h : b < n) : ∃ hh : b < (shK es n).length, (shK es n)[b]'hh = (sfOf es (b : Int) : Int) := ⟨by rw [shK_length]; exact h, by simp [shK]⟩

set_option maxHeartbeats 8000000 in
theorem moved_any (va vb : Value) (ea eb : List Int) (w : World) (sa : IntsOf .i64 w va ea) (ma : ea.length ≤ maxLen) (sb : IntsOf .i64 w vb eb) (mb : eb.length ≤ maxLen) :
    Calls Try.prog 13 #[va, vb] w fun e w' => e = .returned (.tuple #[.int .i64 (mvR ea eb).1, .int .i64 (mvR ea eb).2]) ∧ Below w.heap.size w w' := by
  have SA := Lib.hid sa
  have SB := Lib.hid sb
  have MA := Lib.hid ma
  have MB := Lib.hid mb
  obtain ⟨A1, k1, rfl, -⟩ := sa
  obtain ⟨A2, k2, rfl, -⟩ := sb
  clear ma mb
  rcases mv_cases ea eb with ⟨h, e⟩ | ⟨h, h1, e⟩ | ⟨h, h1, h2, e⟩ | ⟨h, h1, h2, p, q, hp, hq, p60, q60, hr⟩
  · have n0 : ((ea.length : Int) == (eb.length : Int)) = false := by simp; omega
    have E := Lib.hid e
    clear h e
    go_enter Try.func13, Try.ntmps13
    go_wp2
    go_ret2
    exact ⟨by rw [E.out]; rfl, Below.refl _ _⟩
  · have E := Lib.hid e
    have CA := Lib.hid (areEnds_any (.slice A1 ea.length k1) ea w SA.out MA.out)
    rw [h1] at CA
    clear e
    rw [h] at SB ⊢
    clear h
    go_enter Try.func13, Try.ntmps13
    go_wp2_with fail
    refine CA.out.mono ?_
    rintro e w' ⟨rfl, rfl⟩
    go_wp2
    go_ret2
    exact ⟨by rw [E.out]; rfl, Below.refl _ _⟩
  · have E := Lib.hid e
    have CA := Lib.hid (areEnds_any (.slice A1 ea.length k1) ea w SA.out MA.out)
    have CB := Lib.hid (areEnds_any (.slice A2 eb.length k2) eb w SB.out MB.out)
    rw [h1] at CA
    rw [h2] at CB
    clear e
    rw [h] at SB CB ⊢
    clear h
    go_enter Try.func13, Try.ntmps13
    go_wp2_with fail
    refine CA.out.mono ?_
    rintro e w' ⟨rfl, rfl⟩
    go_wp2_with fail
    refine CB.out.mono ?_
    rintro e w' ⟨rfl, rfl⟩
    go_wp2
    go_ret2
    exact ⟨by rw [E.out]; rfl, Below.refl _ _⟩
  · have CA := Lib.hid (areEnds_any (.slice A1 ea.length k1) ea w SA.out MA.out)
    have CB := Lib.hid (areEnds_any (.slice A2 eb.length k2) eb w SB.out MB.out)
    have XA := Lib.hid (fun W hW => shelvesOf_any (.slice A1 ea.length k1) ea W hW MA.out h1 p hp)
    have XB := Lib.hid (fun W hW => shelvesOf_any (.slice A2 eb.length k2) eb W hW MB.out h2 q hq)
    rw [h1] at CA
    rw [h2] at CB
    clear h1 h2 hp hq
    rw [h] at SB CB XB ⊢
    clear h
    have HR := Lib.hid hr
    clear hr
    go_enter Try.func13, Try.ntmps13
    go_wp2_with fail
    refine CA.out.mono ?_
    rintro e w' ⟨rfl, rfl⟩
    go_wp2_with fail
    refine CB.out.mono ?_
    rintro e w' ⟨rfl, rfl⟩
    go_wp2_with fail
    refine (XA.out _ SA.out).mono ?_
    rintro e w1 ⟨u1, rfl, o1, b1⟩
    have O1 := Lib.hid o1
    obtain ⟨P1, c1, rfl, -⟩ := o1
    go_wp2_with fail
    refine (XB.out _ (SB.out.below b1)).mono ?_
    rintro e w2 ⟨u2, rfl, o2, b2⟩
    have O1' := Lib.hid (O1.out.below b2)
    have O2 := Lib.hid o2
    obtain ⟨P2, c2, rfl, -⟩ := o2
    have BB := Lib.hid (bnext b1 b2)
    have L1 := shK_length ea p
    have L2 := shK_length eb q
    rw [L1] at O1'
    rw [L2] at O2
    rw [L1, L2]
    clear b1 b2 O1 L1 L2
    rcases HR.out with ⟨hne, e⟩ | ⟨rfl, e⟩
    · have EE := Lib.hid e
      have nq : ((p : Int) == (q : Int)) = false := by simp; omega
      clear e hne
      go_wp2
      go_ret2
      exact ⟨by rw [EE.out]; rfl, BB.out⟩
    · have EE := Lib.hid e
      clear e
      go_wp2
      go_loop [8, 35] (fun n_ b_ => ∃ (b : Nat) (x : Int), b ≤ p ∧ b_ = .int .i64 (b : Int) ∧ n_ = .int .i64 x ∧ 0 ≤ x ∧ x ≤ (b : Int) ∧ x + cnF ea eb (p - b) b = cnF ea eb p 0) (fun n_ b_ => p - (intOf b_).toNat)
      case atStart => exact ⟨0, 0, Nat.zero_le _, rfl, rfl, by omega, by omega, by simp⟩
      case round =>
        obtain ⟨b, x, hb, rfl, rfl, x0, x1, hx⟩ := hrel
        have HX := Lib.hid hx
        clear hx
        by_cases hlt : b < p
        · have ST := Lib.hid (cnF_step (ea := ea) (eb := eb) hlt)
          obtain ⟨q1, r1⟩ := shK_at (es := ea) hlt
          obtain ⟨q2, r2⟩ := shK_at (es := eb) hlt
          obtain ⟨A3, c3, e3, f3⟩ := O1'.out
          obtain ⟨A4, c4, e4, f4⟩ := O2.out
          obtain ⟨g1, o1, rfl, -, a1⟩ := f3 (by omega)
          obtain ⟨g2, o2, rfl, -, a2⟩ := f4 (by omega)
          have d1 := a1 b q1
          have d2 := a2 b q2
          rw [r1] at d1
          rw [r2] at d2
          obtain ⟨rfl, -, rfl⟩ : P1 = some ⟨g1, o1, none⟩ ∧ True ∧ c1 = c3 := by simp only [Value.slice.injEq] at e3; exact ⟨e3.1, trivial, e3.2.2⟩
          obtain ⟨rfl, -, rfl⟩ : P2 = some ⟨g2, o2, none⟩ ∧ True ∧ c2 = c4 := by simp only [Value.slice.injEq] at e4; exact ⟨e4.1, trivial, e4.2.2⟩
          clear r1 r2 q1 q2 f3 f4 a1 a2 e3 e4
          generalize sfOf ea (b : Int) = t1 at d1 ST
          generalize sfOf eb (b : Int) = t2 at d2 ST
          by_cases ht : t1 = t2
          · subst ht
            rw [if_pos rfl] at ST
            go_wp2
            go_round
            case rel => exact ⟨b + 1, x, by omega, by go_num, rfl, x0, by omega, by have := HX.out; have := ST.out; omega⟩
            case measure => simp [intOf] <;> omega
          · rw [if_neg ht] at ST
            have nt : ((t1 : Int) == (t2 : Int)) = false := by simp; omega
            go_wp2
            go_round
            case rel => exact ⟨b + 1, x + 1, by omega, by go_num, by go_num, by omega, by omega, by have := HX.out; have := ST.out; omega⟩
            case measure => simp [intOf] <;> omega
        · obtain rfl : b = p := by omega
          have hx' := Lib.hid (show mvR ea eb = (x, 0) by rw [EE.out, ← HX.out, Nat.sub_self, cnF]; simp)
          go_wp2
          go_ret2
          exact ⟨by rw [hx'.out]; rfl, BB.out⟩

end Go.Proofs.Ytdkdchhkfachmab
