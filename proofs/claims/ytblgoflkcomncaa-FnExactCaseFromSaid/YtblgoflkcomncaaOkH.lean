/- Which heights are valid, by the program: a contract. Condition: numbers within their kinds, a slice no longer than can be. -/
import Derived.Test.YtblgoflkcomncaaPegFor
namespace Go.Proofs.Ytblgoflkcomncaa
set_option linter.unusedSimpArgs false
set_option linter.unusedVariables false
set_option maxRecDepth 100000
open Go.RowKit

theorem withinP_any (n low high : Int) (w : World) : Calls Try.prog 77 #[.int .i64 n, .int .i64 low, .int .i64 high] w fun e w' => e = .returned (.bool (inB n low high)) ∧ w = w' := by
  by_cases h1 : low ≤ n
  · by_cases h2 : n ≤ high
    · go_enter Try.func77, Try.ntmps77
      go_wp2
      go_ret
      exact ⟨by simp [inB, h1, h2], rfl⟩
    · go_enter Try.func77, Try.ntmps77
      go_wp2
      go_ret
      exact ⟨by simp [inB, h1, h2], rfl⟩
  · have h1' : n < low := by omega
    go_enter Try.func77, Try.ntmps77
    go_wp2
    go_ret
    exact ⟨by simp [inB, show ¬ low ≤ n from by omega], rfl⟩

def fvO (p : Pg) : Option Int → Value
  | some x => .tuple #[.agg #[.int .i16 x, .int .i16 p.st, .int .i16 p.bo], .bool true]
  | none => .tuple #[.agg #[.int .i16 0, .int .i16 0, .int .i16 0], .bool false]

set_option maxHeartbeats 8000000 in
theorem validHeights_any (p : Pg) (wf : p.Wf) (v : Value) (hs : List Int) (wz : ∀ z ∈ hs, (Lit.int .i64 z).wf = true) (w : World) (hsl : IntsOf .i64 w v hs) (hn : hs.length ≤ maxLen) :
    Calls Try.prog 73 #[.agg #[.int .i16 p.lo, .int .i16 p.st, .int .i16 p.bo], v] w fun e w' => e = .returned (.bool (hsB p hs)) ∧ Below w.heap.size w w' := by
  have HN := Lib.hid (PegIn.new w p 31)
  have G0 := Lib.hid (show Below w.heap.size w (w.alloc (.cells #[.int .i16 p.lo, .int .i16 p.st, .int .i16 p.bo] 31)) by go_grown)
  have Z0 := Lib.hid (show w.heap.size < (w.alloc (.cells #[.int .i16 p.lo, .int .i16 p.st, .int .i16 p.bo] 31)).heap.size by simp)
  have WF := Lib.hid wf
  have WZ := Lib.hid wz
  obtain ⟨A, c, rfl, hat⟩ := hsl
  have HA := Lib.hid hat
  unfold maxLen at hn
  clear wf wz hat
  rcases hsB_cases p hs with ⟨h1, h2⟩ | ⟨h1, h2, h3⟩ | ⟨h1, h2, h3⟩
  · have E := Lib.hid h2
    clear h2
    go_enter Try.func73, Try.ntmps73
    go_wp2_with fail
    refine (validPegs_any p WF.out _).mono ?_
    rintro e w1 ⟨rfl, g1⟩
    rw [h1]
    go_wp2
    go_ret
    exact ⟨by rw [E.out]; rfl, bnext G0.out g1⟩
  · have E := Lib.hid h3
    clear h3
    go_enter Try.func73, Try.ntmps73
    go_wp2_with fail
    refine (validPegs_any p WF.out _).mono ?_
    rintro e w1 ⟨rfl, g1⟩
    rw [h1]
    go_wp2_with (go_at_call 77; refine (withinP_any _ _ _ _).mono ?_; rintro e w' ⟨rfl, rfl⟩)
    go_ret
    exact ⟨by rw [E.out]; rfl, bnext G0.out g1⟩
  · have HP := Lib.hid h1
    obtain ⟨R, hR⟩ : ∃ R, okHF p hs 0 = R := ⟨_, rfl⟩
    have E := Lib.hid (h3.trans hR)
    have HR := Lib.hid hR
    clear h3 hR
    go_enter Try.func73, Try.ntmps73
    go_wp2_with fail
    refine (validPegs_any p WF.out _).mono ?_
    rintro e w1 ⟨rfl, g1⟩
    have G1 := Lib.hid (bnext G0.out g1)
    have HN1 := Lib.hid (HN.out.below g1 Z0.out)
    have Z1 := Lib.hid (Nat.lt_of_lt_of_le Z0.out g1.size)
    rw [h1]
    clear h1 g1
    go_wp2_with (go_at_call 77; refine (withinP_any _ _ _ _).mono ?_; rintro e w' ⟨rfl, rfl⟩)
    go_loopw [5, 21] (fun b_ i_ wr => ∃ (k : Nat) (b : Int), i_ = .int .i64 (k : Int) ∧ b_ = .int .i64 b ∧ k ≤ hs.length ∧ okHF p (hs.drop k) b = R ∧ Below w1.heap.size w1 wr) (fun _ i_ _ => hs.length - (intOf i_).toNat)
    case atStart => exact ⟨0, 0, rfl, rfl, Nat.zero_le _, by rw [← HR.out]; rfl, Below.refl _ _⟩
    case round =>
      obtain ⟨k, b, rfl, rfl, hk, hF, hb⟩ := hrel
      have HB := Lib.hid hb
      have HF := Lib.hid hF
      clear hF
      by_cases hlt : k < hs.length
      · obtain ⟨ga, oa, rfl, hga, hcells⟩ := HA.out (by omega)
        have hga1 : ga < w1.heap.size := Nat.lt_of_lt_of_le hga G1.out.size
        have q0 := ((hcells.below G1.out hga).below hb hga1) k hlt
        obtain ⟨c0, c1, c2⟩ := HN1.out.below hb Z1.out
        have HF1 := Lib.hid ((okHF_drop (p := p) (b := b) hlt).symm.trans HF.out)
        have CC := Lib.hid (fun W => from_any p HP.out hs[k] W)
        have GE := Lib.hid (fun x (e : fromV p hs[k] = some x) => (⟨fromV_ge HP.out e, (fromV_le e).1, (pegsB_true HP.out).1.1⟩ : p.lo ≤ x ∧ x ≤ 1000 ∧ 50 ≤ p.lo))
        obtain ⟨F, hF⟩ : ∃ F, fromV p hs[k] = F := ⟨_, rfl⟩
        have EV := Lib.hid (show fromVal p hs[k] = fvO p F by unfold fromVal; rw [hF]; cases F <;> rfl)
        rw [hF] at HF1 GE
        generalize hs[k] = h at q0 HF1 CC EV
        clear hb hF hcells
        cases F with
        | none =>
          have E2 := Lib.hid (show R = false by rw [← HF1.out]; rfl)
          go_wp2_with fail
          refine (CC.out _).mono ?_
          rintro e w2 ⟨rfl, g2⟩
          rw [EV.out, fvO]
          clear q0 c0 c1 c2
          go_wp2
          go_ret
          exact ⟨by rw [E.out, E2.out]; rfl, bnext G1.out ((bnext HB.out g2).alloc (bnext HB.out g2).size _)⟩
        | some x =>
          obtain ⟨x1, x2, x3⟩ := GE.out x rfl
          by_cases t1 : x = h
          · subst t1
            by_cases t2 : x ≤ b
            · have t3 : decide (x ≤ b) = true := by simpa using t2
              have t4 : (x != x) = false := by simp
              have E2 := Lib.hid (show R = false by rw [← HF1.out, decide_eq_false (by omega)]; simp)
              go_wp2_with fail
              refine (CC.out _).mono ?_
              rintro e w2 ⟨rfl, g2⟩
              rw [EV.out, fvO]
              clear q0 c0 c1 c2
              go_wp2_with fail
              refine (high_any x p.st p.bo _ (by omega) (by omega)).mono ?_
              rintro e w3 ⟨rfl, g3⟩
              go_wp2
              go_ret
              exact ⟨by rw [E.out, E2.out]; rfl, bnext G1.out (bnext ((bnext HB.out g2).alloc (bnext HB.out g2).size _) g3)⟩
            · have t3 : decide (x ≤ b) = false := by simpa using t2
              have t4 : (x != x) = false := by simp
              have E2 := Lib.hid (show okHF p (hs.drop (k + 1)) x = R by rw [← HF1.out, decide_eq_true (show b < x by omega)]; simp)
              go_wp2_with fail
              refine (CC.out _).mono ?_
              rintro e w2 ⟨rfl, g2⟩
              rw [EV.out, fvO]
              clear q0 c0 c1 c2
              go_wp2_with fail
              refine (high_any x p.st p.bo _ (by omega) (by omega)).mono ?_
              rintro e w3 ⟨rfl, g3⟩
              go_wp2
              go_roundw
              case rel => exact ⟨k + 1, x, by go_num, rfl, by omega, E2.out, bnext ((bnext HB.out g2).alloc (bnext HB.out g2).size _) g3⟩
              case measure => simp [intOf]; omega
          · have t3 : (x != h) = true := by simp [t1]
            have E2 := Lib.hid (show R = false by rw [← HF1.out]; simp [t1])
            go_wp2_with fail
            refine (CC.out _).mono ?_
            rintro e w2 ⟨rfl, g2⟩
            rw [EV.out, fvO]
            clear q0 c0 c1 c2
            go_wp2_with fail
            refine (high_any x p.st p.bo _ (by omega) (by omega)).mono ?_
            rintro e w3 ⟨rfl, g3⟩
            go_wp2
            go_ret
            exact ⟨by rw [E.out, E2.out]; rfl, bnext G1.out (bnext ((bnext HB.out g2).alloc (bnext HB.out g2).size _) g3)⟩
      · obtain rfl : k = hs.length := by omega
        have E2 := Lib.hid (show R = true by rw [← HF.out, List.drop_length]; rfl)
        go_wp2
        go_ret
        exact ⟨by rw [E.out, E2.out]; rfl, bnext G1.out HB.out⟩

end Go.Proofs.Ytblgoflkcomncaa
