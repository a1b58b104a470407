/- Labels that differ in one byte, by the model: a contract. No condition. -/
import Derived.Test.YtimojjkblofhnaaNlS
namespace Go.Proofs.Ytimojjkblofhnaa
set_option linter.unusedSimpArgs false
set_option linter.unusedVariables false
set_option maxRecDepth 100000
open Go.RowKit

def LT36 : List UInt8 := [48, 49, 50, 51, 52, 53, 54, 55, 56, 57, 97, 98, 99, 100, 101, 102, 103, 104, 105, 106, 107, 108, 109, 110, 111, 112, 113, 114, 115, 116, 117, 118, 119, 120, 121, 122]
def lt36 (k : Nat) : UInt8 := LT36.getD k 0
theorem lt36_inj : ∀ a, a < 36 → ∀ b, b < 36 → lt36 a = lt36 b → a = b := by decide
/-- A text with another byte at one place. -/
def ntx (T : List UInt8) (p : Nat) : List UInt8 := T.set (p / 36) (lt36 (p % 36))
theorem ntx_len (T : List UInt8) (p : Nat) : (ntx T p).length = T.length := by simp [ntx]
theorem ntx_at (T : List UInt8) (i k : Nat) (hk : k < 36) : ntx T (36 * i + k) = T.set i (lt36 k) := by
  unfold ntx
  rw [show (36 * i + k) / 36 = i by omega, show (36 * i + k) % 36 = k by omega]
theorem set_ne {T : List UInt8} {i : Nat} {x : UInt8} (hi : i < T.length) : T.set i x ≠ T ↔ x ≠ T[i] := by
  constructor
  · intro h e
    apply h
    rw [e, List.set_getElem_self]
  · intro h e
    apply h
    have := congrArg (fun l => l[i]?) e
    simp only [List.getElem?_set_self hi, List.getElem?_eq_getElem hi] at this
    exact Option.some.inj this
theorem ntx_apart {T : List UInt8} (h9 : T.length = 9) (p q : Nat) (hpq : p < q) (hq : q < 324) (hp : ntx T p ≠ T) (_ : ntx T q ≠ T) : ntx T p ≠ ntx T q := by
  intro e
  have hi : p / 36 < T.length := by omega
  have hj : q / 36 < T.length := by omega
  unfold ntx at *
  have h1 := congrArg (fun l => l[p / 36]?) e
  simp only [List.getElem?_set_self hi] at h1
  by_cases hc : p / 36 = q / 36
  · rw [← hc, List.getElem?_set_self hi] at h1
    have := lt36_inj (p % 36) (by omega) (q % 36) (by omega) (Option.some.inj h1)
    omega
  · rw [List.getElem?_set_ne (by omega), List.getElem?_eq_getElem hi] at h1
    exact (set_ne hi).1 hp (Option.some.inj h1)
theorem ntx_text (T : List UInt8) (h9 : T.length = 9) (i k : Nat) (hi : i < 9) (hk : k < 36) : (tB T).extract 0 i ++ (tB LT36).extract k (k + 1) ++ (tB T).extract (i + 1) 9 = tB (ntx T (36 * i + k)) := by
  rw [ntx_at T i k hk, tB_extract, tB_extract, tB_extract, tB_append, tB_append]
  have hk2 : k < LT36.length := hk
  have h3 : LT36.drop k = LT36[k] :: LT36.drop (k + 1) := List.drop_eq_getElem_cons hk2
  have e : lt36 k = LT36[k] := by simp [lt36, List.getD, List.getElem?_eq_getElem hk2]
  rw [List.drop_zero, Nat.sub_zero, show k + 1 - k = 1 by omega, List.take_of_length_le (l := T.drop (i + 1)) (by rw [List.length_drop]; omega), h3, List.set_eq_take_append_cons_drop, if_pos (by omega), e, List.append_assoc]
  rfl
def nrL (T : List UInt8) : List (List UInt8) := if T.length = 9 then lbs (ntx T) T 324 else []
theorem tB_get (s : List UInt8) (k : Nat) (h : k < (tB s).size) (h2 : k < s.length) : (tB s)[k]'h = s[k] := by
  rfl
set_option maxHeartbeats 8000000 in
theorem specNear_nine (T : List UInt8) (h9 : T.length = 9) (w : World) :
    Calls Try.prog 12 #[.string (tB T)] w fun e w' => ∃ g o c, e = .returned (.tuple #[.slice (some ⟨g, o, none⟩) (putTo (ntx T) T 324).length c, .int .i64 0]) ∧ g < w'.heap.size ∧ StrsAt w' g o (putTo (ntx T) T 324) ∧ Below w.heap.size w w' := by
  have hs : (tB T).size = 9 := by rw [tB_size]; exact h9
  have HT9 := Lib.hid h9
  have LI := Lib.hid (fun (s : List UInt8) (h : s.length ≤ maxLen) W => l07Is_any (tB s) (by rw [tB_size]; exact h) W)
  have G0 := Lib.hid (show Below w.heap.size w (w.alloc (.cells #[] 9)) from (Below.refl _ _).alloc (Nat.le_refl _) _)
  obtain ⟨S, hS⟩ : ∃ S, tB T = S := ⟨_, rfl⟩
  obtain ⟨LS, hLS⟩ : ∃ LS : ByteArray, (⟨#[48, 49, 50, 51, 52, 53, 54, 55, 56, 57, 97, 98, 99, 100, 101, 102, 103, 104, 105, 106, 107, 108, 109, 110, 111, 112, 113, 114, 115, 116, 117, 118, 119, 120, 121, 122]⟩ : ByteArray) = LS := ⟨_, rfl⟩
  have hls : LS.size = 36 := by rw [← hLS]; rfl
  have NT := Lib.hid (fun i k hi hk => ntx_text T h9 i k hi hk)
  rw [show tB LT36 = LS from hLS, hS] at NT
  rw [hS] at hs ⊢
  have GT := Lib.hid (fun k (h : k < S.size) (h2 : k < T.length) => show S[k]'h = T[k] by
    subst hS
    exact tB_get T k h h2)
  have GL := Lib.hid (fun k (h : k < LS.size) => show LS[k]'h = lt36 k by
    subst hLS
    have h2 : k < LT36.length := h
    exact (tB_get LT36 k h h2).trans (by simp [lt36, List.getD, List.getElem?_eq_getElem h2]))
  have HLS := Lib.hid hLS
  have HS := Lib.hid hS
  clear h9 hS hLS
  go_enter Try.func12, Try.ntmps12
  go_upto_region 4 with (fail)
  rw [HLS.out]
  go_wp2
  go_loopw [5, 6] (fun v_ i_ wr => ∃ (i g o c : Nat), i ≤ 9 ∧ i_ = .int .i64 (i : Int) ∧ v_ = .slice (some ⟨g, o, none⟩) (putTo (ntx T) T (36 * i)).length c ∧ g < wr.heap.size ∧ StrsAt wr g o (putTo (ntx T) T (36 * i)) ∧ (putTo (ntx T) T (36 * i)).length ≤ c ∧ Below w.heap.size w wr) (fun _ i_ _ => 9 - (intOf i_).toNat)
  case atStart => exact ⟨0, w.heap.size, 0, 0, by omega, rfl, rfl, by simp, (fun i h => by simp [putTo, cndTo] at h), by simp [putTo, cndTo], G0.out⟩
  case round =>
    obtain ⟨i, g, o, c, hi, rfl, rfl, hg, hat, hc, hb⟩ := hrel
    have HA := Lib.hid hat
    have HB := Lib.hid hb
    have HC := Lib.hid hc
    clear hat hb hc G0
    by_cases hlt : i < 9
    · have i9 : (i : Int) < 9 := by omega
      go_wp2
      go_loopw [5, 7] (fun v_ k_ wr => ∃ (k g o c : Nat), k ≤ 36 ∧ k_ = .int .i64 (k : Int) ∧ v_ = .slice (some ⟨g, o, none⟩) (putTo (ntx T) T (36 * i + k)).length c ∧ g < wr.heap.size ∧ StrsAt wr g o (putTo (ntx T) T (36 * i + k)) ∧ (putTo (ntx T) T (36 * i + k)).length ≤ c ∧ Below w.heap.size w wr) (fun _ k_ _ => 36 - (intOf k_).toNat)
      case atStart => exact ⟨0, g, o, c, by omega, rfl, rfl, hg, HA.out, HC.out, HB.out⟩
      case round =>
        clear HA HB HC hg
        obtain ⟨k, g, o, c, hk, rfl, rfl, hg, hat, hc, hb⟩ := hrel
        have HA := Lib.hid hat
        have HB := Lib.hid hb
        have HC := Lib.hid hc
        have HLN := Lib.hid (putTo_len (ntx T) T (36 * i + k))
        clear hat hb hc
        by_cases hlk : k < 36
        · obtain ⟨ss, hss⟩ : ∃ z, putTo (ntx T) T (36 * i + k) = z := ⟨_, rfl⟩
          have HSS := Lib.hid hss
          rw [hss] at HA HC HLN
          rw [hss]
          clear hss
          have E11 := Lib.hid (NT.out i k hlt hlk)
          have hkT : i < S.size := by omega
          have hkL : k < LS.size := by omega
          have zt : ((S[i]'hkT).toNat : Int) = ((T[i]'(by have := HT9.out; omega)).toNat : Int) := by rw [GT.out i hkT (by have := HT9.out; omega)]
          have zl : ((LS[k]'hkL).toNat : Int) = ((lt36 k).toNat : Int) := by rw [GL.out k hkL]
          have NQ := Lib.hid (show ntx T (36 * i + k) ≠ T ↔ lt36 k ≠ T[i]'(by have := HT9.out; omega) by rw [ntx_at T i k hlk]; exact set_ne (by have := HT9.out; omega))
          have LX := Lib.hid (show (ntx T (36 * i + k)).length = 9 by rw [ntx_len]; exact HT9.out)
          have NI := Lib.hid (show ((lt36 k).toNat : Int) = ((T[i]'(by have := HT9.out; omega)).toNat : Int) ↔ lt36 k = T[i]'(by have := HT9.out; omega) by
            constructor
            · intro h; exact UInt8.toNat_inj.1 (by omega)
            · intro h; rw [h])
          have CL := Lib.hid (fun W => LI.out (ntx T (36 * i + k)) (by rw [LX.out]; unfold maxLen; decide) W)
          have hnn : (S.extract 0 i ++ LS.extract k (k + 1)).size ≤ 18 := by rw [ByteArray.size_append, ByteArray.size_extract, ByteArray.size_extract]; omega
          obtain ⟨a, ha⟩ : ∃ a : Int, ((lt36 k).toNat : Int) = a := ⟨_, rfl⟩
          obtain ⟨b, hb⟩ : ∃ b : Int, ((T[i]'(by have := HT9.out; omega)).toNat : Int) = b := ⟨_, rfl⟩
          rw [ha] at zl NI
          rw [hb] at zt NI
          clear ha hb
          have PT := Lib.hid (fun W h1 h2 => l07Put_any g o c ss (ntx T (36 * i + k)) W h1 h2 HC.out (by have := HLN.out; omega))
          have PNO := Lib.hid (fun (h : okT T (ntx T (36 * i + k)) = false) => show putTo (ntx T) T (36 * i + (k + 1)) = ss by rw [← HSS.out]; exact putTo_no h)
          have PYES := Lib.hid (fun (h : okT T (ntx T (36 * i + k)) = true) => show putTo (ntx T) T (36 * i + (k + 1)) = putS ss (ntx T (36 * i + k)) by rw [← HSS.out]; exact putTo_yes h)
          generalize ntx T (36 * i + k) = x at *
          go_wp2
          refine wp_region_below (by kernel_rfl) (by kernel_rfl) ?_
          iterate 15 (first | go_big_quiet_step (fail) | quiet_step (fail))
          refine wpQuiet_nil ?_
          rintro wq ⟨⟨_, hq⟩, rfl⟩
          rw [E11.out]
          have A1 := Lib.hid (HA.out.below hq hg)
          have B1 := Lib.hid (bnext HB.out hq)
          have g1 := Nat.lt_of_lt_of_le hg hq.size
          clear hq hnn
          by_cases he : lt36 k = T[i]'(by have := HT9.out; omega)
          · have hab : a = b := NI.out.2 he
            have d0 : (a != b) = false := by rw [hab]; simp
            have PN := Lib.hid (PNO.out (by unfold okT; rw [decide_eq_false (fun h => (NQ.out.1 h) he)]; rfl))
            clear he hab
            generalize tB x = X at *
            go_wp2
            refine wp_region_below (by kernel_rfl) (by kernel_rfl) ?_
            iterate 11 (first | go_big_quiet_step (fail) | quiet_step (fail))
            refine wpQuiet_nil ?_
            rintro wq2 ⟨⟨_, hq2⟩, rfl⟩
            have A2 := Lib.hid (A1.out.below hq2 g1)
            have B2 := Lib.hid (bnext B1.out hq2)
            have g2 := Nat.lt_of_lt_of_le g1 hq2.size
            clear hq2
            go_wp2
            go_roundw
            case rel => exact ⟨k + 1, g, o, c, by omega, by go_num, by rw [PN.out], g2, by rw [PN.out]; exact A2.out, by rw [PN.out]; exact HC.out, B2.out⟩
            case measure => simp [intOf] <;> omega
          · have hab : a ≠ b := fun h => he (NI.out.1 h)
            have d0 : (a != b) = true := by rw [bne_iff_ne]; exact hab
            have hne := NQ.out.2 he
            cases hl : lbl x
            · have PN := Lib.hid (PNO.out (by unfold okT; rw [hl, Bool.and_false]))
              rw [show isB (tB x) = false from hl] at CL
              clear he hab hl hne
              generalize tB x = X at *
              go_wp2
              refine wp_region_below (by kernel_rfl) (by kernel_rfl) ?_
              iterate 11 (first | go_big_quiet_step ((go_at_call 28; exact calls_below (CL.out _))) | quiet_step ((go_at_call 28; exact calls_below (CL.out _))))
              refine wpQuiet_nil ?_
              rintro wq2 ⟨⟨_, hq2⟩, rfl⟩
              have A2 := Lib.hid (A1.out.below hq2 g1)
              have B2 := Lib.hid (bnext B1.out hq2)
              have g2 := Nat.lt_of_lt_of_le g1 hq2.size
              clear hq2
              go_wp2
              go_roundw
              case rel => exact ⟨k + 1, g, o, c, by omega, by go_num, by rw [PN.out], g2, by rw [PN.out]; exact A2.out, by rw [PN.out]; exact HC.out, B2.out⟩
              case measure => simp [intOf] <;> omega
            · have PN := Lib.hid (PYES.out (by unfold okT; rw [hl, decide_eq_true hne]; rfl))
              rw [show isB (tB x) = true from hl] at CL
              clear he hab hl hne
              generalize tB x = X at *
              go_wp2
              refine wp_region_below (by kernel_rfl) (by kernel_rfl) ?_
              iterate 11 (first | go_big_quiet_step ((go_at_call 28; exact calls_below (CL.out _))) | quiet_step ((go_at_call 28; exact calls_below (CL.out _))))
              refine wpQuiet_nil ?_
              rintro wq2 ⟨⟨_, hq2⟩, rfl⟩
              have A2 := Lib.hid (A1.out.below hq2 g1)
              have B2 := Lib.hid (bnext B1.out hq2)
              have g2 := Nat.lt_of_lt_of_le g1 hq2.size
              clear hq2
              go_wp2_with fail
              refine (PT.out _ g2 A2.out).mono ?_
              rintro e w3 ⟨g', o', c', rfl, g3, a3, c3, h3⟩
              have A3 := Lib.hid a3
              have C3 := Lib.hid c3
              have B3 := Lib.hid (bnext B2.out h3)
              clear a3 c3 h3
              go_wp2
              go_roundw
              case rel => exact ⟨k + 1, g', o', c', by omega, by go_num, by rw [PN.out], g3, by rw [PN.out]; exact A3.out, by rw [PN.out]; exact C3.out, B3.out⟩
              case measure => simp [intOf] <;> omega
        · obtain rfl : k = 36 := by omega
          have E36 := Lib.hid (show 36 * i + 36 = 36 * (i + 1) by omega)
          rw [E36.out] at HA HC HLN ⊢
          go_wp2
          go_roundw
          case rel => exact ⟨i + 1, g, o, c, by omega, by go_num, rfl, hg, HA.out, HC.out, HB.out⟩
          case measure => simp [intOf] <;> omega
    · obtain rfl : i = 9 := by omega
      go_wp2
      go_ret2
      exact ⟨g, o, c, rfl, hg, HA.out, HB.out⟩
set_option maxHeartbeats 4000000 in
theorem specNear_any (T : List UInt8) (hm : T.length ≤ maxLen) (w : World) :
    Calls Try.prog 12 #[.string (tB T)] w fun e w' => ∃ u, e = .returned (.tuple #[u, .int .i64 (nlC T)]) ∧ StrsOf w' u (nrL T) ∧ Below w.heap.size w w' := by
  by_cases h9 : T.length = 9
  · rw [show nlC T = 0 by unfold nlC; rw [if_pos h9], show nrL T = putTo (ntx T) T 324 by unfold nrL; rw [if_pos h9, putTo_all 324 (fun p q hpq hq => ntx_apart h9 p q hpq hq)]]
    refine (specNear_nine T h9 w).mono fun e w' h => ?_
    obtain ⟨g, o, c, rfl, h1, h2, h3⟩ := h
    exact ⟨_, rfl, ⟨_, c, rfl, fun _ => ⟨g, o, rfl, h1, h2⟩⟩, h3⟩
  · rw [show nlC T = 5 by unfold nlC; rw [if_neg h9], show nrL T = [] by unfold nrL; rw [if_neg h9]]
    have hs : (tB T).size = T.length := tB_size T
    have d0 : ((T.length : Int) != 9) = true := by rw [bne_iff_ne]; omega
    have hm2 : T.length ≤ 9223372036854775807 := by unfold maxLen at hm; omega
    generalize tB T = S at *
    go_enter Try.func12, Try.ntmps12
    go_wp2
    go_ret2
    exact ⟨_, rfl, ⟨_, 0, rfl, fun h => absurd h (Nat.lt_irrefl _)⟩, (Below.refl _ _).alloc (Nat.le_refl _) _⟩
end Go.Proofs.Ytimojjkblofhnaa
