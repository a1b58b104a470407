/- How many books stand on different shelves: the model's function, a contract. Condition: no longer than a slice can be. -/
import Derived.Test.YtdkdchhkfachmabShelvesOf
import Derived.Deep.QuietTactic
import Derived.BigQuiet
namespace Go.Proofs.Ytdkdchhkfachmab
set_option linter.unusedSimpArgs false
set_option linter.unusedVariables false
set_option maxRecDepth 100000
open Go.RowKit

def cnF (ea eb : List Int) : Nat → Nat → Int
  | 0, _ => 0
  | f + 1, b => (if sfOf ea (b : Int) = sfOf eb (b : Int) then 0 else 1) + cnF ea eb f (b + 1)
def mvR (ea eb : List Int) : Int × Int :=
  if ea.length = eb.length then
    (if numB ea && numB eb then
      (if prE ea ea.length = prE eb eb.length then (cnF ea eb (prE ea ea.length).toNat 0, 0) else (0, 2))
    else (0, 2))
  else (0, 4)

theorem mv_cases (ea eb : List Int) :
    (ea.length ≠ eb.length ∧ mvR ea eb = (0, 4)) ∨
    (eb.length = ea.length ∧ numB ea = false ∧ mvR ea eb = (0, 2)) ∨
    (eb.length = ea.length ∧ numB ea = true ∧ numB eb = false ∧ mvR ea eb = (0, 2)) ∨
    (eb.length = ea.length ∧ numB ea = true ∧ numB eb = true ∧ ∃ p q : Nat, prE ea ea.length = p ∧ prE eb eb.length = q ∧ p ≤ 60 ∧ q ≤ 60 ∧
      ((p ≠ q ∧ mvR ea eb = (0, 2)) ∨ (p = q ∧ mvR ea eb = (cnF ea eb p 0, 0)))) := by
  by_cases hl : ea.length = eb.length
  · right
    cases h1 : numB ea
    · left
      exact ⟨hl.symm, rfl, by unfold mvR; rw [if_pos hl, h1]; rfl⟩
    · right
      cases h2 : numB eb
      · left
        exact ⟨hl.symm, rfl, rfl, by unfold mvR; rw [if_pos hl, h1, h2]; rfl⟩
      · right
        obtain ⟨a1, a2, -⟩ := num_mono h1 ea.length (Nat.le_refl _)
        obtain ⟨b1, b2, -⟩ := num_mono h2 eb.length (Nat.le_refl _)
        obtain ⟨p, hp⟩ : ∃ p : Nat, prE ea ea.length = p := ⟨_, (Int.toNat_of_nonneg a1).symm⟩
        obtain ⟨q, hq⟩ : ∃ q : Nat, prE eb eb.length = q := ⟨_, (Int.toNat_of_nonneg b1).symm⟩
        refine ⟨hl.symm, rfl, rfl, p, q, hp, hq, by omega, by omega, ?_⟩
        by_cases e : p = q
        · right
          exact ⟨e, by unfold mvR; rw [if_pos hl, h1, h2, hp, hq, e]; simp⟩
        · left
          exact ⟨e, by unfold mvR; rw [if_pos hl, h1, h2, hp, hq]; simp; omega⟩
  · left
    exact ⟨hl, by unfold mvR; rw [if_neg hl]⟩

theorem cnF_step {ea eb : List Int} {p b : Nat} (h : b < p) : cnF ea eb (p - b) b = (if sfOf ea (b : Int) = sfOf eb (b : Int) then 0 else 1) + cnF ea eb (p - (b + 1)) (b + 1) := by
  rw [show p - b = (p - (b + 1)) + 1 by omega, cnF]
theorem prE_last {es : List Int} (h : 0 < es.length) : prE es es.length = es[es.length - 1] := by
  unfold prE
  rw [if_neg (by omega), getD_e (by omega)]

theorem quiet_same_l {P : Program} {f : FuncId} {args : Array Value} {w : World} {n : Nat} {v : Value}
    (h : Calls P f args (w.drewN n) fun e w' => e = .returned v ∧ w.drewN n = w') : Calls P f args (w.drewN n) fun e w'' => e = .returned v ∧ ∃ m, w'' = w.drewN m :=
  h.mono fun _ _ ⟨he, hm⟩ => ⟨he, n, hm.symm⟩

set_option maxHeartbeats 8000000 in
theorem specMoved_any (va vb : Value) (ea eb : List Int) (w : World) (sa : IntsOf .i64 w va ea) (ma : ea.length ≤ maxLen) (sb : IntsOf .i64 w vb eb) (mb : eb.length ≤ maxLen) :
    Calls Try.prog 11 #[va, vb] w fun e w' => e = .returned (.tuple #[.int .i64 (mvR ea eb).1, .int .i64 (mvR ea eb).2]) ∧ Below w.heap.size w w' := by
  have SA := Lib.hid sa
  have SB := Lib.hid sb
  have MA := Lib.hid ma
  have MB := Lib.hid mb
  obtain ⟨A1, k1, rfl, ga⟩ := sa
  obtain ⟨A2, k2, rfl, gb⟩ := sb
  have GA := Lib.hid ga
  have GB := Lib.hid gb
  unfold maxLen at ma mb
  clear ga gb
  rcases mv_cases ea eb with ⟨h, e⟩ | ⟨h, h1, e⟩ | ⟨h, h1, h2, e⟩ | ⟨h, h1, h2, p, q, hp, hq, p60, q60, hr⟩
  · have n0 : ((ea.length : Int) == (eb.length : Int)) = false := by simp; omega
    have E := Lib.hid e
    clear h e
    go_enter Try.func11, Try.ntmps11
    go_wp2
    go_ret2
    exact ⟨by rw [E.out]; rfl, Below.refl _ _⟩
  · have E := Lib.hid e
    have CA := Lib.hid (fun n : Nat => l02Numbers_any (.slice A1 ea.length k1) ea (w.drewN n) (SA.out.below (below_drewN (Below.refl _ _) n)) MA.out)
    rw [h1] at CA
    clear e mb
    rw [h] at SB ⊢
    clear h
    go_enter Try.func11, Try.ntmps11
    go_wp2
    go_quiet ((go_at_call 48; exact quiet_same_l (CA.out _)))
    go_wp2
    go_ret2
    exact ⟨by rw [E.out]; rfl, below_drewN (Below.refl _ _) _⟩
  · have E := Lib.hid e
    have CA := Lib.hid (fun n : Nat => l02Numbers_any (.slice A1 ea.length k1) ea (w.drewN n) (SA.out.below (below_drewN (Below.refl _ _) n)) MA.out)
    have CB := Lib.hid (fun n : Nat => l02Numbers_any (.slice A2 eb.length k2) eb (w.drewN n) (SB.out.below (below_drewN (Below.refl _ _) n)) MB.out)
    rw [h1] at CA
    rw [h2] at CB
    clear e mb
    rw [h] at SB CB ⊢
    clear h
    go_enter Try.func11, Try.ntmps11
    go_wp2
    go_quiet ((first | (go_at_call 48; with_reducible exact quiet_same_l (CA.out _)) | (go_at_call 48; with_reducible exact quiet_same_l (CB.out _))))
    go_wp2
    go_ret2
    exact ⟨by rw [E.out]; rfl, below_drewN (Below.refl _ _) _⟩
  · have CA := Lib.hid (fun n : Nat => l02Numbers_any (.slice A1 ea.length k1) ea (w.drewN n) (SA.out.below (below_drewN (Below.refl _ _) n)) MA.out)
    have CB := Lib.hid (fun n : Nat => l02Numbers_any (.slice A2 eb.length k2) eb (w.drewN n) (SB.out.below (below_drewN (Below.refl _ _) n)) MB.out)
    have SH1 := Lib.hid (fun (b : Int) (W : World) hW h0 hl => l02Shelf_e (.slice A1 ea.length k1) ea b W hW h0 MA.out hl)
    have HLast1 := Lib.hid (fun (h0 : 0 < ea.length) => (prE_last h0).symm.trans hp)
    have HLast2 := Lib.hid (fun (h0 : 0 < eb.length) => (prE_last h0).symm.trans hq)
    have P0 := Lib.hid (fun (h0 : ea.length = 0) => show p = 0 by rw [h0] at hp; simp [prE] at hp; omega)
    have Q0 := Lib.hid (fun (h0 : ea.length = 0) => show q = 0 by rw [h, h0] at hq; simp [prE] at hq; omega)
    have HLE := Lib.hid h
    rw [h1] at CA
    rw [h2] at CB
    clear mb hp hq h1 h2
    have SH2 : Hid (∀ (b : Int) (W : World), IntsOf .i64 W (.slice A2 ea.length k2) eb → (∃ h0 : 0 < eb.length, b < eb[eb.length - 1]'(Nat.sub_lt h0 Nat.one_pos)) → Calls Try.prog 49 #[.slice A2 ea.length k2, .int .i64 b] W fun e w' => e = .returned (.int .i64 (sfOf eb b : Int)) ∧ W = w') :=
      Lib.hid (fun b W hW hl => by rw [← h] at hW ⊢; exact l02Shelf_e (.slice A2 eb.length k2) eb b W hW hl.1 MB.out hl.2)
    rw [h] at SB CB ⊢
    clear h
    by_cases hz : ea.length = 0
    · have hd : decide ((0 : Int) < ((0 : Nat) : Int)) = false := by decide
      have hpz := P0.out hz
      have hqz := Q0.out hz
      have E : mvR ea eb = (0, 0) := by
        rcases hr with ⟨hne, _⟩ | ⟨_, e⟩
        · omega
        · rw [e, hpz]; rfl
      have EE := Lib.hid E
      clear hr E P0 Q0 SH1 SH2 HLast1 HLast2 GA GB HLE
      rw [hz] at SA SB CA CB ⊢
      clear hz ma
      go_enter Try.func11, Try.ntmps11
      go_wp2
      go_quiet ((first | (go_at_call 48; with_reducible exact quiet_same_l (CA.out _)) | (go_at_call 48; with_reducible exact quiet_same_l (CB.out _))))
      go_wp2
      refine wp_loop_rounds 1 ?_
      rw [rounds_succ]; go_wp2
      go_ret2
      exact ⟨by rw [EE.out]; rfl, below_drewN (Below.refl _ _) _⟩
    · have hpos : 0 < ea.length := by omega
      have hd : decide ((0 : Int) < (ea.length : Int)) = true := decide_eq_true (by omega)
      obtain ⟨g1, o1, rfl, hg1, hat1⟩ := GA.out hpos
      obtain ⟨g2, o2, rfl, hg2, hat2⟩ := GB.out (by have := HLE.out; omega)
      have c1 := hat1 (ea.length - 1) (by omega)
      have c2 := hat2 (ea.length - 1) (by have := HLE.out; omega)
      rw [HLast1.out hpos] at c1
      rw [show eb[ea.length - 1]'(by have := HLE.out; omega) = (q : Int) by rw [← HLast2.out (by have := HLE.out; omega)]; congr 1; rw [HLE.out]] at c2
      clear hat1 hat2
      have n2 : (0 : Int) ≤ (ea.length : Int) - 1 := by omega
      have n3 : (ea.length : Int) - 1 < (ea.length : Int) := by omega
      have n4 : ((ea.length : Int) - 1).toNat = ea.length - 1 := by omega
      have d1 := c1
      rcases hr with ⟨hne, e⟩ | ⟨rfl, e⟩
      · have EE := Lib.hid e
        have nq : ((p : Int) == (q : Int)) = false := by simp; omega
        clear e hne
        go_enter Try.func11, Try.ntmps11
        go_wp2
        go_quiet ((first | (go_at_call 48; with_reducible exact quiet_same_l (CA.out _)) | (go_at_call 48; with_reducible exact quiet_same_l (CB.out _))))
        go_wp2
        go_ret2
        exact ⟨by rw [EE.out]; rfl, below_drewN (Below.refl _ _) _⟩
      · have EE := Lib.hid e
        clear e
        go_enter Try.func11, Try.ntmps11
        go_wp2
        go_quiet ((first | (go_at_call 48; with_reducible exact quiet_same_l (CA.out _)) | (go_at_call 48; with_reducible exact quiet_same_l (CB.out _))))
        generalize hW : World.drewN w _ = W1
        have B := Lib.hid (show Below w.heap.size w W1 by rw [← hW]; exact below_drewN (Below.refl _ _) _)
        have c1 := (B.out.cell (p := ⟨g1, o1 + (ea.length - 1), none⟩) hg1).trans d1
        have SA1 := Lib.hid (SA.out.below B.out)
        have SB1 := Lib.hid (SB.out.below B.out)
        clear hW
        go_wp2
        go_loop [6, 7] (fun n_ b_ => ∃ (b : Nat) (x : Int), b ≤ p ∧ b_ = .int .i64 (b : Int) ∧ n_ = .int .i64 x ∧ 0 ≤ x ∧ x ≤ (b : Int) ∧ x + cnF ea eb (p - b) b = cnF ea eb p 0) (fun n_ b_ => p - (intOf b_).toNat)
        case atStart => exact ⟨0, 0, Nat.zero_le _, rfl, rfl, by omega, by omega, by simp⟩
        case round =>
          obtain ⟨b, x, hb, rfl, rfl, x0, x1, hx⟩ := hrel
          have HX := Lib.hid hx
          clear hx
          by_cases hlt : b < p
          · have hl1 := Lib.hid (show (b : Int) < ea[ea.length - 1] by rw [HLast1.out hpos]; omega)
            have hl2 := Lib.hid (show ∃ h0 : 0 < eb.length, (b : Int) < eb[eb.length - 1] from ⟨by have := HLE.out; omega, by rw [HLast2.out (by have := HLE.out; omega)]; omega⟩)
            have ST := Lib.hid (cnF_step (ea := ea) (eb := eb) hlt)
            have R1 := Lib.hid (SH1.out b W1 SA1.out hpos hl1.out)
            have R2 := Lib.hid (SH2.out b W1 SB1.out hl2.out)
            clear hl1 hl2
            generalize sfOf ea (b : Int) = t1 at R1 ST
            generalize sfOf eb (b : Int) = t2 at R2 ST
            by_cases ht : t1 = t2
            · subst ht
              rw [if_pos rfl] at ST
              go_wp2_with fail
              refine R1.out.mono ?_
              rintro e w' ⟨rfl, rfl⟩
              go_wp2_with fail
              refine R2.out.mono ?_
              rintro e w' ⟨rfl, rfl⟩
              go_wp2
              go_round
              case rel => exact ⟨b + 1, x, by omega, by go_num, rfl, x0, by omega, by have := HX.out; have := ST.out; omega⟩
              case measure => simp [intOf] <;> omega
            · rw [if_neg ht] at ST
              have nt : ((t1 : Int) == (t2 : Int)) = false := by simp; omega
              go_wp2_with fail
              refine R1.out.mono ?_
              rintro e w' ⟨rfl, rfl⟩
              go_wp2_with fail
              refine R2.out.mono ?_
              rintro e w' ⟨rfl, rfl⟩
              go_wp2
              go_round
              case rel => exact ⟨b + 1, x + 1, by omega, by go_num, by go_num, by omega, by omega, by have := HX.out; have := ST.out; omega⟩
              case measure => simp [intOf] <;> omega
          · obtain rfl : b = p := by omega
            have hx' := Lib.hid (show mvR ea eb = (x, 0) by rw [EE.out, ← HX.out, Nat.sub_self, cnF]; simp)
            go_wp2
            go_ret2
            exact ⟨by rw [hx'.out]; rfl, B.out⟩

end Go.Proofs.Ytdkdchhkfachmab
