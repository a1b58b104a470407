/- What a label is, by the model: a contract. No condition. -/
import Derived.Test.YtimojjkblofhnaaLabI2
namespace Go.Proofs.Ytimojjkblofhnaa
set_option linter.unusedSimpArgs false
set_option linter.unusedVariables false
set_option maxRecDepth 100000
open Go.RowKit

/-- What stands at place i of a label. -/
def okZ (i : Nat) (z : Int) : Bool := if 3 ≤ i ∧ i < 6 then letZ z else digZ z
def okTo (l : List Int) : Nat → Bool
  | 0 => true
  | k + 1 => okTo l k && okZ k (l.getD k 0)
theorem okTo9 (l : List Int) : okTo l 9 = isL l := by
  unfold isL
  simp only [okTo, okZ]
  rfl
theorem okTo_false {l : List Int} : ∀ {k n : Nat}, k ≤ n → okTo l k = false → okTo l n = false
  | k, 0, h, h0 => by obtain rfl : k = 0 := by omega
                      exact h0
  | k, n + 1, h, h0 => by
    by_cases e : k = n + 1
    · rw [← e]; exact h0
    · rw [okTo, okTo_false (k := k) (n := n) (by omega) h0, Bool.false_and]
theorem okTo_at {l : List Int} : ∀ {k n : Nat}, okTo l n = true → k < n → okZ k (l.getD k 0) = true
  | k, 0, _, h => by omega
  | k, n + 1, h0, h => by
    rw [okTo, Bool.and_eq_true] at h0
    by_cases e : k = n
    · rw [e]; exact h0.2
    · exact okTo_at h0.1 (by omega)
theorem okZ_good {i : Nat} {z : Int} (h : okZ i z = true) : GoodZ z := by
  unfold okZ letZ digZ at h
  unfold GoodZ
  split at h
  · exact .inr (of_decide_eq_true h)
  · exact .inl (of_decide_eq_true h)
theorem zeros67 (T : ByteArray) (h9 : T.size = 9) : ((T.extract 6 8).toList == [48, 48]) = decide ((zl T).getD 6 0 = 48 ∧ (zl T).getD 7 0 = 48) := by
  have x6 := zl_ext T 6 8 (by omega) (by omega) 0 (by omega)
  have x7 := zl_ext T 6 8 (by omega) (by omega) 1 (by omega)
  simp only [Nat.add_zero, Nat.reduceAdd] at x6 x7
  have hl : (zl (T.extract 6 8)).length = 2 := by rw [zl_len, ByteArray.size_extract]; omega
  have e : (⟨#[48, 48]⟩ : ByteArray).toList = [48, 48] := by rw [ByteArray.toList_eq]
  have ez : zl (⟨#[48, 48]⟩ : ByteArray) = [48, 48] := rfl
  rw [← x6, ← x7, Bool.eq_iff_iff, beq_iff_eq, decide_eq_true_eq]
  constructor
  · intro h
    have := zl_of_toList (h.trans e.symm)
    rw [this, ez]
    exact ⟨rfl, rfl⟩
  · rintro ⟨h1, h2⟩
    rw [← e]
    apply zl_inj
    rw [ez]
    match zl (T.extract 6 8), hl, h1, h2 with
    | [a, b], _, h1, h2 =>
      simp only [List.getD_cons_zero, List.getD_cons_succ] at h1 h2
      rw [h1, h2]
set_option maxHeartbeats 4000000 in
theorem l07Is_any (T : ByteArray) (hm : T.size ≤ maxLen) (w : World) :
    Calls Try.prog 28 #[.string T] w fun e w' => e = .returned (.bool (isB T)) ∧ Below w.heap.size w w' := by
  unfold maxLen at hm
  by_cases h9 : T.size = 9
  · have AT := Lib.hid (zl_at T)
    have BD := Lib.hid (fun k (h : k < T.size) => show 0 ≤ (zl T).getD k 0 ∧ (zl T).getD k 0 ≤ 255 from by rw [zl_at T k h]; have := (T[k]'h).toNat_lt; omega)
    have HF := Lib.hid (fun (h : okTo (zl T) 9 = false) => show isB T = false by unfold isB; rw [← okTo9, h]; simp)
    go_enter Try.func28, Try.ntmps28
    go_wp2
    go_loop [3] (fun i_ => ∃ k : Nat, k ≤ 9 ∧ i_ = .int .i64 (k : Int) ∧ okTo (zl T) k = true) (fun i_ => 9 - (intOf i_).toNat)
    case atStart => exact ⟨0, by omega, rfl, rfl⟩
    case round =>
      obtain ⟨k, hk, rfl, hok⟩ := hrel
      have HO := Lib.hid hok
      clear hok
      by_cases hlt : k < 9
      · obtain ⟨b1, b2⟩ := BD.out k (by omega)
        have hz := AT.out k (by omega)
        have hkT : k < T.size := by omega
        obtain ⟨z, hzz⟩ : ∃ z : Int, z = (zl T).getD k 0 := ⟨_, rfl⟩
        rw [← hzz] at b1 b2 hz
        have ZE := Lib.hid hz
        have VO := Lib.hid (fun W => l07Value_any z ⟨b1, b2⟩ W)
        have NX := Lib.hid (show okTo (zl T) (k + 1) = (okTo (zl T) k && okZ k z) by rw [hzz]; rfl)
        rw [hz] at VO
        clear hzz hz
        have good : okZ k z = true → (k < 3 ∧ (48 ≤ z ∧ z ≤ 57)) ∨ ((3 ≤ k ∧ k < 6) ∧ (97 ≤ z ∧ z ≤ 122)) ∨ (6 ≤ k ∧ (48 ≤ z ∧ z ≤ 57)) := by
          unfold okZ letZ digZ
          split <;> (intro h; have := of_decide_eq_true h; omega)
        have bad : okZ k z = false → (k < 3 ∧ (valS z < 0 ∨ (0 ≤ valS z ∧ 97 ≤ z))) ∨ ((3 ≤ k ∧ k < 6) ∧ (valS z < 0 ∨ (0 ≤ valS z ∧ z < 97))) ∨ (6 ≤ k ∧ (valS z < 0 ∨ (0 ≤ valS z ∧ 97 ≤ z))) := by
          unfold okZ letZ digZ valS
          split <;> (intro h; have := of_decide_eq_false h; split <;> (try split) <;> omega)
        have pos : 48 ≤ z ∧ z ≤ 57 → 0 ≤ valS z ∧ z < 97 := by unfold valS; intro h; rw [if_pos h]; omega
        have pos2 : 97 ≤ z ∧ z ≤ 122 → 0 ≤ valS z ∧ 97 ≤ z := by unfold valS; intro h; rw [if_neg (by omega), if_pos h]; omega
        have BN := Lib.hid (fun (h : okZ k z = false) => HF.out (okTo_false (k := k + 1) (by omega) (by rw [NX.out, h, Bool.and_false])))
        rw [← ZE.out] at VO
        generalize valS z = q at *
        cases hg : okZ k z
        · have EB := Lib.hid (BN.out hg)
          have hb := bad hg
          clear bad good pos pos2 BN hg
          have hz2 : ((T[k]'hkT).toNat : Int) = z := ZE.out.symm
          rcases hb with ⟨n1, hb⟩ | ⟨⟨n1, n2⟩, hb⟩ | ⟨n1, hb⟩
          · have i1 : (k : Int) < 3 := by omega
            rcases hb with n3 | ⟨n3, n4⟩
            all_goals
              go_wp2_with fail
              refine (VO.out _).mono ?_
              rintro e w1 ⟨rfl, rfl⟩
              go_wp2
              go_ret
              exact ⟨by rw [EB.out]; rfl, Below.refl _ _⟩
          · have i1 : (3 : Int) ≤ (k : Int) := by omega
            have i2 : (k : Int) < 6 := by omega
            rcases hb with n3 | ⟨n3, n4⟩
            all_goals
              (try have n5 : decide (97 ≤ z) = false := decide_eq_false (by omega))
              go_wp2_with fail
              refine (VO.out _).mono ?_
              rintro e w1 ⟨rfl, rfl⟩
              go_wp2
              go_ret
              exact ⟨by rw [EB.out]; rfl, Below.refl _ _⟩
          · have i1 : (3 : Int) ≤ (k : Int) := by omega
            have i2 : ¬ ((k : Int) < 6) := by omega
            rcases hb with n3 | ⟨n3, n4⟩
            all_goals
              go_wp2_with fail
              refine (VO.out _).mono ?_
              rintro e w1 ⟨rfl, rfl⟩
              go_wp2
              go_ret
              exact ⟨by rw [EB.out]; rfl, Below.refl _ _⟩
        · have NK := Lib.hid (show okTo (zl T) (k + 1) = true by rw [NX.out, HO.out, hg]; rfl)
          have hb := good hg
          clear bad good BN hg
          have hz2 : ((T[k]'hkT).toNat : Int) = z := ZE.out.symm
          rcases hb with ⟨n1, hb⟩ | ⟨⟨n1, n2⟩, hb⟩ | ⟨n1, hb⟩
          · have i1 : (k : Int) < 3 := by omega
            obtain ⟨n3, n4⟩ := pos hb
            clear pos pos2 hb
            go_wp2_with fail
            refine (VO.out _).mono ?_
            rintro e w1 ⟨rfl, rfl⟩
            go_wp2
            exact ⟨⟨k + 1, by omega, rfl, NK.out⟩, by simp [intOf]; omega⟩
          · have i1 : (3 : Int) ≤ (k : Int) := by omega
            have i2 : (k : Int) < 6 := by omega
            obtain ⟨n3, n4⟩ := pos2 hb
            clear pos pos2 hb
            go_wp2_with fail
            refine (VO.out _).mono ?_
            rintro e w1 ⟨rfl, rfl⟩
            go_wp2
            exact ⟨⟨k + 1, by omega, rfl, NK.out⟩, by simp [intOf]; omega⟩
          · have i1 : (3 : Int) ≤ (k : Int) := by omega
            have i2 : ¬ ((k : Int) < 6) := by omega
            obtain ⟨n3, n4⟩ := pos hb
            clear pos pos2 hb
            go_wp2_with fail
            refine (VO.out _).mono ?_
            rintro e w1 ⟨rfl, rfl⟩
            go_wp2
            exact ⟨⟨k + 1, by omega, rfl, NK.out⟩, by simp [intOf]; omega⟩
      · obtain rfl : k = 9 := by omega
        have l8 : ((zl T).take 8).length = 8 := by rw [List.length_take, zl_len]; omega
        have CK := Lib.hid (fun W => l07Check_any T ((zl T).take 8) l8 (fun k hk => ⟨by omega, by
          have := zl_at T k (by omega)
          rw [List.getElem_take, ← this, List.getD_eq_getElem?_getD, List.getElem?_eq_getElem (by rw [zl_len]; omega)]
          rfl⟩) (fun z hz => by
            obtain ⟨k, hk, rfl⟩ := List.mem_iff_getElem.1 hz
            have h1 := okTo_at HO.out (show k < 9 by omega)
            have h2 := okZ_good h1
            rw [List.getD_eq_getElem?_getD, List.getElem?_eq_getElem (by rw [zl_len]; omega)] at h2
            rw [List.getElem_take]
            exact h2) W)
        have h8 : 8 < T.size := by omega
        have h8b : ((T[8]'h8).toNat : Int) = (zl T).getD 8 0 := (AT.out 8 h8).symm
        have d0 := zeros67 T h9
        have EI := Lib.hid (show isB T = (!(decide ((zl T).getD 6 0 = 48 ∧ (zl T).getD 7 0 = 48)) && decide ((zl T).getD 8 0 = chk ((zl T).take 8))) by unfold isB; rw [← okTo9, HO.out, decide_eq_true h9]; rfl)
        have e3 : (T.extract 6 8).size = 2 := by rw [ByteArray.size_extract]; omega
        clear l8
        generalize chk ((zl T).take 8) = c at *
        generalize (zl T).getD 8 0 = y at *
        cases hd : decide ((zl T).getD 6 0 = 48 ∧ (zl T).getD 7 0 = 48)
        · rw [hd] at d0 EI
          clear hd
          go_wp2
          go_region_law ((go_simp; go_at_call 39; with_reducible refine (CK.out _).mono ?_; rintro e w1 ⟨rfl, h1⟩))
          all_goals
            go_wp2
            go_ret
            exact ⟨by rw [EI.out]; rfl, bnext ((Below.refl _ _).drew) h1⟩
        · rw [hd] at d0 EI
          clear hd
          go_wp2
          go_quiet (fail)
          all_goals
            go_wp2
            go_ret
            exact ⟨by rw [EI.out]; rfl, below_drewN (Below.refl _ _) _⟩
  · have h9' : ¬ ((T.size : Int) = 9) := by omega
    have E := Lib.hid (show isB T = false by unfold isB; rw [decide_eq_false h9]; rfl)
    go_enter Try.func28, Try.ntmps28
    go_wp2
    go_ret
    exact ⟨by rw [E.out]; rfl, Below.refl _ _⟩
end Go.Proofs.Ytimojjkblofhnaa
