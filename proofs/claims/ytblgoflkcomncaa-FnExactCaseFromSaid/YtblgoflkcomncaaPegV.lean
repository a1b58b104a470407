/- Pegs and heights by the model: which are valid, the least height that is high enough: contracts. Condition: numbers within their kinds. -/
import Derived.Test.YtblgoflkcomncaaPegA
import Derived.Test.YtblgoflkcomncaaNums
import Derived.Test.YtblgoflkcomncaaBooksOk
namespace Go.Proofs.Ytblgoflkcomncaa
set_option linter.unusedSimpArgs false
set_option linter.unusedVariables false
set_option maxRecDepth 100000
open Go.RowKit

theorem chainP (a b c : Bool) : a = false ∨ (a = true ∧ b = false) ∨ (a = true ∧ b = true ∧ c = false) ∨ (a = true ∧ b = true ∧ c = true) := by
  cases a <;> cases b <;> cases c <;> simp

set_option maxHeartbeats 1000000 in
theorem l04Pegs_any (p : Pg) (wf : p.Wf) (w : World) :
    Calls Try.prog 124 #[.agg #[.int .i16 p.lo, .int .i16 p.st, .int .i16 p.bo]] w fun e w' => e = .returned (.bool (pegsB p)) ∧ Below w.heap.size w w' := by
  obtain ⟨⟨a1, a2⟩, ⟨b1, b2⟩, ⟨c1, c2⟩⟩ := wf
  have G0 := Lib.hid (show Below w.heap.size w (w.alloc (.cells #[.int .i16 p.lo, .int .i16 p.st, .int .i16 p.bo] 31)) by go_grown)
  rcases chainP (inB p.lo 50 400) (inB p.st 1 100) (inB p.bo 1 100) with e1 | ⟨e1, e2⟩ | ⟨e1, e2, e3⟩ | ⟨e1, e2, e3⟩
  · have E := Lib.hid (show pegsB p = false by unfold pegsB; rw [e1]; rfl)
    go_enter Try.func124, Try.ntmps124
    go_wp2_with (go_at_call 70; refine (l00In_any _ _ _ _).mono ?_; rintro e w' ⟨rfl, rfl⟩)
    go_ret
    exact ⟨by rw [E.out]; rfl, G0.out⟩
  · have E := Lib.hid (show pegsB p = false by unfold pegsB; rw [e1, e2]; rfl)
    go_enter Try.func124, Try.ntmps124
    go_wp2_with (go_at_call 70; refine (l00In_any _ _ _ _).mono ?_; rintro e w' ⟨rfl, rfl⟩)
    go_ret
    exact ⟨by rw [E.out]; rfl, G0.out⟩
  · have E := Lib.hid (show pegsB p = false by unfold pegsB; rw [e1, e2, e3]; rfl)
    go_enter Try.func124, Try.ntmps124
    go_wp2_with (go_at_call 70; refine (l00In_any _ _ _ _).mono ?_; rintro e w' ⟨rfl, rfl⟩)
    go_ret
    exact ⟨by rw [E.out]; rfl, G0.out⟩
  · have E := Lib.hid (show pegsB p = true by unfold pegsB; rw [e1, e2, e3]; rfl)
    go_enter Try.func124, Try.ntmps124
    go_wp2_with (go_at_call 70; refine (l00In_any _ _ _ _).mono ?_; rintro e w' ⟨rfl, rfl⟩)
    go_ret
    exact ⟨by rw [E.out]; rfl, G0.out⟩

set_option maxHeartbeats 1000000 in
theorem validPegs_any (p : Pg) (wf : p.Wf) (w : World) :
    Calls Try.prog 116 #[.agg #[.int .i16 p.lo, .int .i16 p.st, .int .i16 p.bo]] w fun e w' => e = .returned (.bool (pegsB p)) ∧ Below w.heap.size w w' := by
  obtain ⟨⟨a1, a2⟩, ⟨b1, b2⟩, ⟨c1, c2⟩⟩ := wf
  have G0 := Lib.hid (show Below w.heap.size w (w.alloc (.cells #[.int .i16 p.lo, .int .i16 p.st, .int .i16 p.bo] 31)) by go_grown)
  rcases chainP (inB p.lo 50 400) (inB p.st 1 100) (inB p.bo 1 100) with e1 | ⟨e1, e2⟩ | ⟨e1, e2, e3⟩ | ⟨e1, e2, e3⟩
  · have E := Lib.hid (show pegsB p = false by unfold pegsB; rw [e1]; rfl)
    go_enter Try.func116, Try.ntmps116
    go_wp2_with (go_at_call 154; refine (within16_any _ _ _ _).mono ?_; rintro e w' ⟨rfl, rfl⟩)
    go_ret
    exact ⟨by rw [E.out]; rfl, G0.out⟩
  · have E := Lib.hid (show pegsB p = false by unfold pegsB; rw [e1, e2]; rfl)
    go_enter Try.func116, Try.ntmps116
    go_wp2_with (go_at_call 154; refine (within16_any _ _ _ _).mono ?_; rintro e w' ⟨rfl, rfl⟩)
    go_ret
    exact ⟨by rw [E.out]; rfl, G0.out⟩
  · have E := Lib.hid (show pegsB p = false by unfold pegsB; rw [e1, e2, e3]; rfl)
    go_enter Try.func116, Try.ntmps116
    go_wp2_with (go_at_call 154; refine (within16_any _ _ _ _).mono ?_; rintro e w' ⟨rfl, rfl⟩)
    go_ret
    exact ⟨by rw [E.out]; rfl, G0.out⟩
  · have E := Lib.hid (show pegsB p = true by unfold pegsB; rw [e1, e2, e3]; rfl)
    go_enter Try.func116, Try.ntmps116
    go_wp2_with (go_at_call 154; refine (within16_any _ _ _ _).mono ?_; rintro e w' ⟨rfl, rfl⟩)
    go_ret
    exact ⟨by rw [E.out]; rfl, G0.out⟩

theorem PegIn.drewN {w : World} {g : Nat} {p : Pg} (h : PegIn w g p) (n : Nat) : PegIn (w.drewN n) g p := ⟨h.c0, h.c1, h.c2⟩

set_option maxHeartbeats 4000000 in
theorem l04Peg_any (p : Pg) (high : Int) (w : World) (hp : pegsB p = true) (hl : -9223372036854775808 ≤ high) (hh : high ≤ 1000) :
    Calls Try.prog 125 #[.agg #[.int .i16 p.lo, .int .i16 p.st, .int .i16 p.bo], .int .i64 high] w fun e w' => e = .returned (.int .i64 (pegV p high)) ∧ Below w.heap.size w w' := by
  obtain ⟨⟨a1, a2⟩, ⟨b1, b2⟩, -⟩ := pegsB_true hp
  have HN := Lib.hid (PegIn.new w p 31)
  have G0 := Lib.hid (show Below w.heap.size w (w.alloc (.cells #[.int .i16 p.lo, .int .i16 p.st, .int .i16 p.bo] 31)) by go_grown)
  have HV := Lib.hid (show ∃ V, pegF 1001 p.lo p.st high = V from ⟨_, rfl⟩)
  unfold pegV
  obtain ⟨V, hV⟩ := HV.out
  rw [hV]
  have HV := Lib.hid hV
  clear hV hp
  go_enter Try.func125, Try.ntmps125
  go_wp2
  go_loopw [5] (fun o_ wr => ∃ (o : Int) (q : Nat), o_ = .int .i64 o ∧ 50 ≤ o ∧ o ≤ 1100 ∧ (high - o).toNat ≤ q ∧ pegF q o p.st high = V ∧ PegIn wr w.heap.size p ∧ Below w.heap.size w wr) (fun o_ _ => (high - intOf o_).toNat)
  case atStart => exact ⟨p.lo, 1001, rfl, a1, by omega, by omega, HV.out, HN.out, G0.out⟩
  case round =>
    obtain ⟨o, q, rfl, o1, o2, hq, hF, hin, hb⟩ := hrel
    have HI := Lib.hid hin
    have HB := Lib.hid hb
    have HF := Lib.hid hF
    clear hin hb hF
    by_cases hlt : o < high
    · obtain ⟨q', rfl⟩ : ∃ q', q = q' + 1 := ⟨q - 1, by omega⟩
      have HF2 := Lib.hid (show pegF q' (o + p.st) p.st high = V by rw [← HF.out, pegF, if_pos hlt])
      have c1 := HI.out.c1
      go_wp2
      go_roundw
      case rel => exact ⟨o + p.st, q', by go_num, by omega, by omega, by omega, HF2.out, HI.out, HB.out⟩
      case measure => simp [intOf]; omega
    · have E := Lib.hid (show o = V by
        rw [← HF.out]
        cases q with
        | zero => rfl
        | succ q => rw [pegF, if_neg hlt])
      go_wp2
      go_ret
      exact ⟨by rw [E.out]; rfl, HB.out⟩

/-! ### heights -/
def prevH (hs : List Int) (k : Nat) : Int := if k = 0 then 0 else hs.getD (k - 1) 0
theorem prevH_succ {hs : List Int} {k : Nat} (hk : k < hs.length) : prevH hs (k + 1) = hs[k] := by simp [prevH, List.getD, List.getElem?_eq_getElem hk]
theorem prevH_pos {hs : List Int} {k : Nat} (h0 : 0 < k) (hk : k < hs.length) : prevH hs k = hs[k - 1]'(by omega) := by
  unfold prevH
  rw [if_neg (by omega)]
  simp [List.getD, List.getElem?_eq_getElem (show k - 1 < hs.length by omega)]

theorem l00In_calls (n low high : Int) (w : World) : Calls Try.prog 70 #[.int .i64 n, .int .i64 low, .int .i64 high] w fun e w' => e = .returned (.bool (inB n low high)) ∧ w = w' := l00In_any n low high w

set_option maxHeartbeats 8000000 in
theorem l04Ok_any (p : Pg) (wf : p.Wf) (v : Value) (hs : List Int) (wz : ∀ z ∈ hs, (Lit.int .i64 z).wf = true) (w : World) (hsl : IntsOf .i64 w v hs) (hn : hs.length ≤ maxLen) :
    Calls Try.prog 69 #[.agg #[.int .i16 p.lo, .int .i16 p.st, .int .i16 p.bo], v] w fun e w' => e = .returned (.bool (hsB p hs)) ∧ Below w.heap.size w w' := by
  have HN := Lib.hid (PegIn.new w p 31)
  have G0 := Lib.hid (show Below w.heap.size w (w.alloc (.cells #[.int .i16 p.lo, .int .i16 p.st, .int .i16 p.bo] 31)) by go_grown)
  have Z0 := Lib.hid (show w.heap.size < (w.alloc (.cells #[.int .i16 p.lo, .int .i16 p.st, .int .i16 p.bo] 31)).heap.size by simp)
  have WF := Lib.hid wf
  have WZ := Lib.hid wz
  obtain ⟨A, c, rfl, hat⟩ := hsl
  have HA := Lib.hid hat
  unfold maxLen at hn
  clear wf wz hat
  rcases hsB_cases p hs with ⟨h1, h2⟩ | ⟨h1, h2, h3⟩ | ⟨h1, h2, h3⟩
  · have E := Lib.hid h2
    clear h2
    go_enter Try.func69, Try.ntmps69
    go_wp2_with fail
    refine (l04Pegs_any p WF.out _).mono ?_
    rintro e w1 ⟨rfl, g1⟩
    rw [h1]
    go_wp2
    go_ret
    exact ⟨by rw [E.out]; rfl, bnext G0.out g1⟩
  · have E := Lib.hid h3
    clear h3
    go_enter Try.func69, Try.ntmps69
    go_wp2_with fail
    refine (l04Pegs_any p WF.out _).mono ?_
    rintro e w1 ⟨rfl, g1⟩
    rw [h1]
    go_wp2_with (go_at_call 70; refine (l00In_any _ _ _ _).mono ?_; rintro e w' ⟨rfl, rfl⟩)
    go_ret
    exact ⟨by rw [E.out]; rfl, bnext G0.out g1⟩
  · have HP := Lib.hid h1
    obtain ⟨R, hR⟩ : ∃ R, okHF p hs 0 = R := ⟨_, rfl⟩
    have E := Lib.hid (h3.trans hR)
    have HR := Lib.hid hR
    clear h3 hR
    go_enter Try.func69, Try.ntmps69
    go_wp2_with fail
    refine (l04Pegs_any p WF.out _).mono ?_
    rintro e w1 ⟨rfl, g1⟩
    have G1 := Lib.hid (bnext G0.out g1)
    have HN1 := Lib.hid (HN.out.below g1 Z0.out)
    have Z1 := Lib.hid (Nat.lt_of_lt_of_le Z0.out g1.size)
    rw [h1]
    clear h1 g1
    go_wp2_with (go_at_call 70; refine (l00In_any _ _ _ _).mono ?_; rintro e w' ⟨rfl, rfl⟩)
    go_loopw [5] (fun i_ wr => ∃ k : Nat, i_ = .int .i64 (k : Int) ∧ k ≤ hs.length ∧ okHF p (hs.drop k) (prevH hs k) = R ∧ Below w1.heap.size w1 wr) (fun i_ _ => hs.length - (intOf i_).toNat)
    case atStart => exact ⟨0, rfl, Nat.zero_le _, by rw [← HR.out]; rfl, Below.refl _ _⟩
    case round =>
      obtain ⟨k, rfl, hk, hF, hb⟩ := hrel
      have HB := Lib.hid hb
      have HF := Lib.hid hF
      clear hF
      by_cases hlt : k < hs.length
      · obtain ⟨ga, oa, rfl, hga, hcells⟩ := HA.out (by omega)
        have hga1 : ga < w1.heap.size := Nat.lt_of_lt_of_le hga G1.out.size
        have hcells1 := (hcells.below G1.out hga).below hb hga1
        have q0 := hcells1 k hlt
        have hin := HN1.out.below hb Z1.out
        have c0 := hin.c0
        have c1 := hin.c1
        have c2 := hin.c2
        have zb := Nat.lt_of_lt_of_le Z1.out hb.size
        have zga := Nat.lt_of_lt_of_le hga1 hb.size
        have zw := bounds_i64 (WZ.out _ (List.getElem_mem hlt))
        have zw1 := zw.1
        have zw2 := zw.2
        have HF1 := Lib.hid ((okHF_drop (p := p) (b := prevH hs k) hlt).symm.trans HF.out)
        have AT := Lib.hid (pgAt HP.out (h := hs[k]))
        have PB := Lib.hid (fun h : hs[k] ≤ 1000 => (pegV_bounds HP.out h))
        clear zw hin hb
        have q0b := belowBy_cell zga q0
        have c0b := belowBy_cell zb c0
        have c1b := belowBy_cell zb c1
        have c2b := belowBy_cell zb c2
        by_cases t1 : 0 ≤ hs[k] ∧ hs[k] ≤ 1000
        · have b1 : inB hs[k] 0 1000 = true := by unfold inB; simpa using t1
          obtain ⟨t11, t12⟩ := t1
          have CI := Lib.hid (fun W => (by have h := l00In_any hs[k] 0 1000 W; rw [b1] at h; exact h : Calls Try.prog 70 #[.int .i64 hs[k], .int .i64 0, .int .i64 1000] W fun e w' => e = .returned (.bool true) ∧ W = w'))
          have CC := Lib.hid (fun W => l04Peg_any p hs[k] W HP.out zw1 t12)
          obtain ⟨V, hV⟩ : ∃ V, pegV p hs[k] = V := ⟨_, rfl⟩
          have PB := PB.out t12
          rw [hV] at PB
          have AT2 := Lib.hid (show (fromV p hs[k] == some hs[k]) = decide (V = hs[k]) by rw [AT.out, b1, hV]; rfl)
          have CC := Lib.hid (fun W => (by have h := CC.out W; rw [hV] at h; exact h : Calls Try.prog 125 #[.agg #[.int .i16 p.lo, .int .i16 p.st, .int .i16 p.bo], .int .i64 hs[k]] W fun e w' => e = .returned (.int .i64 V) ∧ Below W.heap.size W w'))
          obtain ⟨PB1, PB2, -⟩ := PB
          clear hV AT b1
          by_cases t2 : V = hs[k]
          · have t3 : (V != hs[k]) = false := by simp [t2]
            have t3' : decide (V = hs[k]) = true := by simpa using t2
            have hpos : 50 ≤ hs[k] := by omega
            have HF2 := Lib.hid (show (decide (prevH hs k < hs[k]) && okHF p (hs.drop (k + 1)) hs[k]) = R by rw [← HF1.out, AT2.out, t3']; rfl)
            clear t2 t3'
            by_cases t4 : k = 0
            · have t5 : decide (0 < k) = false := by simp; omega
              have hp0 : prevH hs k < hs[k] := by unfold prevH; rw [if_pos t4]; omega
              have E2 := Lib.hid (show okHF p (hs.drop (k + 1)) (prevH hs (k + 1)) = R by rw [← HF2.out, decide_eq_true hp0, prevH_succ hlt]; rfl)
              clear hp0 t4
              go_wp2
              refine wp_region_below (by kernel_rfl) (by kernel_rfl) ?_
              repeat (first | go_big_quiet_step ((first | (go_at_call 70; exact calls_same_below (CI.out _)) | (go_at_call 125; exact calls_below (CC.out _)))) | quiet_step ((first | (go_at_call 70; exact calls_same_below (CI.out _)) | (go_at_call 125; exact calls_below (CC.out _)))))
              refine wpQuiet_nil ?_
              rintro _ ⟨⟨wq, hq⟩, rfl⟩
              clear q0b c0b c1b c2b
              go_wp2
              go_roundw
              case rel => exact ⟨k + 1, by go_num, by omega, E2.out, HB.out.trans (hq.mono HB.out.size)⟩
              case measure => simp [intOf]; omega
            · have t5 : decide (0 < k) = true := by simp; omega
              have hk0 : 0 < k := by omega
              have q1 := hcells1 (k - 1) (by omega)
              have q1b := belowBy_cell zga q1
              have w1 : (k : Int) - 1 = ((k - 1 : Nat) : Int) := by omega
              have EP := Lib.hid (prevH_pos hk0 hlt)
              obtain ⟨Z, hZ⟩ : ∃ Z, hs[k - 1]'(by omega) = Z := ⟨_, rfl⟩
              rw [hZ] at EP q1 q1b
              clear hZ
              obtain ⟨kp, hkp⟩ : ∃ kp : Nat, k - 1 = kp := ⟨_, rfl⟩
              rw [hkp] at w1 q1 q1b
              have kp1 : (kp : Int) < (hs.length : Int) := by omega
              have kp0 : (0 : Int) ≤ (kp : Int) := by omega
              have HKP := Lib.hid hkp
              clear hkp
              by_cases t6 : hs[k] ≤ Z
              · have t7 : decide (hs[k] ≤ Z) = true := by simpa using t6
                have E2 := Lib.hid (show R = false by rw [← HF2.out, decide_eq_false (by rw [EP.out]; omega)]; rfl)
                go_wp2
                refine wp_region_below (by kernel_rfl) (by kernel_rfl) ?_
                repeat (first | go_big_quiet_step ((first | (go_at_call 70; exact calls_same_below (CI.out _)) | (go_at_call 125; exact calls_below (CC.out _)))) | quiet_step ((first | (go_at_call 70; exact calls_same_below (CI.out _)) | (go_at_call 125; exact calls_below (CC.out _)))))
                refine wpQuiet_nil ?_
                rintro _ ⟨⟨wq, hq⟩, rfl⟩
                clear q1b q0b c0b c1b c2b
                go_wp2
                go_ret
                exact ⟨by rw [E.out, E2.out]; rfl, bnext G1.out (HB.out.trans (hq.mono HB.out.size))⟩
              · have t7 : decide (hs[k] ≤ Z) = false := by simpa using t6
                have E2 := Lib.hid (show okHF p (hs.drop (k + 1)) (prevH hs (k + 1)) = R by rw [← HF2.out, decide_eq_true (by rw [EP.out]; omega), prevH_succ hlt]; rfl)
                go_wp2
                refine wp_region_below (by kernel_rfl) (by kernel_rfl) ?_
                repeat (first | go_big_quiet_step ((first | (go_at_call 70; exact calls_same_below (CI.out _)) | (go_at_call 125; exact calls_below (CC.out _)))) | quiet_step ((first | (go_at_call 70; exact calls_same_below (CI.out _)) | (go_at_call 125; exact calls_below (CC.out _)))))
                refine wpQuiet_nil ?_
                rintro _ ⟨⟨wq, hq⟩, rfl⟩
                clear q1b q0b c0b c1b c2b
                go_wp2
                go_roundw
                case rel => exact ⟨k + 1, by go_num, by omega, E2.out, HB.out.trans (hq.mono HB.out.size)⟩
                case measure => simp [intOf]; omega
          · have t3 : (V != hs[k]) = true := by simp [t2]
            have E2 := Lib.hid (show R = false by rw [← HF1.out, AT2.out]; simp [t2])
            go_wp2
            refine wp_region_below (by kernel_rfl) (by kernel_rfl) ?_
            repeat (first | go_big_quiet_step ((first | (go_at_call 70; exact calls_same_below (CI.out _)) | (go_at_call 125; exact calls_below (CC.out _)))) | quiet_step ((first | (go_at_call 70; exact calls_same_below (CI.out _)) | (go_at_call 125; exact calls_below (CC.out _)))))
            refine wpQuiet_nil ?_
            rintro _ ⟨⟨wq, hq⟩, rfl⟩
            clear q0b c0b c1b c2b
            go_wp2
            go_ret
            exact ⟨by rw [E.out, E2.out]; rfl, bnext G1.out (HB.out.trans (hq.mono HB.out.size))⟩
        · have b1 : inB hs[k] 0 1000 = false := by unfold inB; simpa using t1
          have CI := Lib.hid (fun W => (by have h := l00In_any hs[k] 0 1000 W; rw [b1] at h; exact h : Calls Try.prog 70 #[.int .i64 hs[k], .int .i64 0, .int .i64 1000] W fun e w' => e = .returned (.bool false) ∧ W = w'))
          have CC := CI
          have E2 := Lib.hid (show R = false by rw [← HF1.out, AT.out, b1]; rfl)
          go_wp2
          refine wp_region_below (by kernel_rfl) (by kernel_rfl) ?_
          repeat (first | go_big_quiet_step ((go_at_call 70; exact calls_same_below (CI.out _))) | quiet_step ((go_at_call 70; exact calls_same_below (CI.out _))))
          refine wpQuiet_nil ?_
          rintro _ ⟨⟨wq, hq⟩, rfl⟩
          clear q0b c0b c1b c2b
          go_wp2
          go_ret
          exact ⟨by rw [E.out, E2.out]; rfl, bnext G1.out (HB.out.trans (hq.mono HB.out.size))⟩
      · obtain rfl : k = hs.length := by omega
        have E2 := Lib.hid (show R = true by rw [← HF.out, List.drop_length]; rfl)
        go_wp2
        go_ret
        exact ⟨by rw [E.out, E2.out]; rfl, bnext G1.out HB.out⟩

end Go.Proofs.Ytblgoflkcomncaa
