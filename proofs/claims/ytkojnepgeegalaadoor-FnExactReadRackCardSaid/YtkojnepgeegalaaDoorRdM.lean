/- A number of a text, by the model: a contract. Condition: a text no longer than told. -/
import Derived.Test.YtkojnepgeegalaaDoorRdS
namespace Go.Proofs.YtkojnepgeegalaaDoor
set_option linter.unusedSimpArgs false
set_option linter.unusedVariables false
set_option maxRecDepth 100000
open Go.RowKit

set_option maxHeartbeats 8000000 in
theorem l01Number_any (T : ByteArray) (hT : T.size ≤ 1048576) (w : World) :
    Calls Tryd.prog 42 #[.string T] w fun e w' => ∃ (n : Int) (ok : Bool), e = .returned (.tuple #[.int .i64 n, .bool ok]) ∧ NumS T.data.toList n ok ∧ w = w' := by
  by_cases hz : T.size = 0
  · have e : T = ⟨#[]⟩ := by
      apply ByteArray.ext
      exact Array.eq_empty_of_size_eq_zero hz
    subst e
    go_enter Tryd.func42, Tryd.ntmps42
    go_wp2
    go_ret2
    exact ⟨0, false, rfl, nums_nil, rfl⟩
  have hs1 : 1 ≤ T.size := by omega
  have ne3 : T.toList.isEmpty = false := by
    rw [ByteArray.toList_eq]
    cases h : T.data.toList with
    | nil =>
      have := congrArg List.length h
      rw [Array.length_toList] at this
      exact absurd this hz
    | cons a l => rfl
  have i0 : (0 : Int) < (T.size : Int) := by omega
  have h0l : T.data.toList.head? = some T[0] := by
    have hl : 0 < T.data.toList.length := by rw [Array.length_toList]; exact hs1
    rw [List.head?_eq_getElem?, List.getElem?_eq_getElem hl]
    rfl
  by_cases h9 : 9 < T.size
  · have g9 : decide (9 < (T.size : Int)) = true := decide_eq_true (by omega)
    have NS := Lib.hid (nums_long (s := T.data.toList) (by rw [Array.length_toList]; exact h9))
    clear h0l
    go_enter Tryd.func42, Tryd.ntmps42
    go_wp2
    go_ret2
    exact ⟨0, false, rfl, NS.out, rfl⟩
  have g9 : decide (9 < (T.size : Int)) = false := decide_eq_false (by omega)
  have hs9 : T.size ≤ 9 := by omega
  by_cases h48 : T[0] = 48
  · have b48 : ((T[0].toNat : Int) == 48) = true := by rw [h48]; rfl
    by_cases h1 : 1 < T.size
    · have g1 : decide (1 < (T.size : Int)) = true := decide_eq_true (by omega)
      have NS := Lib.hid (nums_lead (s := T.data.toList) (by rw [Array.length_toList]; exact h1) (by rw [h0l, h48]))
      clear h0l h48
      go_enter Tryd.func42, Tryd.ntmps42
      go_wp2
      go_ret2
      exact ⟨0, false, rfl, NS.out, rfl⟩
    · have g1 : decide (1 < (T.size : Int)) = false := decide_eq_false (by omega)
      have HNL := Lib.hid (show ¬ (1 < T.data.toList.length ∧ T.data.toList.head? = some 48) from fun h => h1 (by have := h.1; rw [Array.length_toList] at this; exact this))
      clear h0l h48
      go_enter Tryd.func42, Tryd.ntmps42
      go_wp2
      go_loopw [4, 5] (fun n_ i_ wr => ∃ (k : Nat) (n : Int), k ≤ T.size ∧ i_ = .int .i64 (k : Int) ∧ n_ = .int .i64 n ∧ n = ((valD (T.data.toList.take k) : Nat) : Int) ∧ (∀ x ∈ T.data.toList.take k, isDig x = true) ∧ w = wr) (fun _ i_ _ => T.size - (intOf i_).toNat)
      case atStart => exact ⟨0, 0, Nat.zero_le _, rfl, rfl, rfl, fun _ h => (by simp at h), rfl⟩
      case round =>
        obtain ⟨k, n, hk, rfl, rfl, en, hd, rfl⟩ := hrel
        have EN := Lib.hid en
        have HD := Lib.hid hd
        have nb : valD (T.data.toList.take k) < 10 ^ 9 := by
          have h1 := valD_bound _ (T.data.toList.take k) rfl hd
          have h2 : (T.data.toList.take k).length ≤ 9 := by rw [List.length_take, Array.length_toList]; have : T.data.size = T.size := rfl; omega
          exact Nat.lt_of_lt_of_le h1 (Nat.pow_le_pow_right (by omega) h2)
        have n0 : 0 ≤ n := by omega
        have n9 : n < 1000000000 := by have : (10 : Nat) ^ 9 = 1000000000 := rfl; omega
        clear hd nb
        by_cases hlt : k < T.size
        · have ET : T.data.toList.take (k + 1) = T.data.toList.take k ++ [T[k]] := by
            have hl : k < T.data.toList.length := by rw [Array.length_toList]; exact hlt
            rw [List.take_add_one, List.getElem?_eq_getElem hl]
            rfl
          have k0 : (0 : Int) ≤ (k : Int) := by omega
          have k1 : (k : Int) < (T.size : Int) := by omega
          by_cases d1 : (T[k].toNat : Int) < 48
          · have g1 : decide ((T[k].toNat : Int) < 48) = true := decide_eq_true d1
            have NS := Lib.hid (nums_bad (s := T.data.toList) (x := T[k]) (Array.getElem_mem_toList _) (by unfold isDig; rw [decide_eq_false (by omega)]))
            clear ET d1 en
            go_wp2
            go_ret2
            exact ⟨0, false, rfl, NS.out, rfl⟩
          · have g1 : decide ((T[k].toNat : Int) < 48) = false := decide_eq_false d1
            by_cases d2 : 57 < (T[k].toNat : Int)
            · have g2 : decide (57 < (T[k].toNat : Int)) = true := decide_eq_true d2
              have NS := Lib.hid (nums_bad (s := T.data.toList) (x := T[k]) (Array.getElem_mem_toList _) (by unfold isDig; rw [decide_eq_false (by omega)]))
              clear ET d1 d2 en
              go_wp2
              go_ret2
              exact ⟨0, false, rfl, NS.out, rfl⟩
            · have g2 : decide (57 < (T[k].toNat : Int)) = false := decide_eq_false d2
              obtain ⟨d, ed⟩ : ∃ d : Int, d = (T[k].toNat : Int) - 48 := ⟨_, rfl⟩
              obtain ⟨n2, en2⟩ : ∃ n2 : Int, n2 = 10 * n + d := ⟨_, rfl⟩
              have EN2 := Lib.hid (show n2 = ((valD (T.data.toList.take (k + 1)) : Nat) : Int) by
                rw [ET, valD_snoc, en2, ed, en]
                omega)
              have HD2 := Lib.hid (show ∀ x ∈ T.data.toList.take (k + 1), isDig x = true by
                rw [ET]
                intro x hx
                rcases List.mem_append.1 hx with h | h
                · exact HD.out x h
                · rw [List.mem_singleton] at h
                  rw [h]
                  unfold isDig
                  exact decide_eq_true (by omega))
              have m1 : IntKind.i64.wrap (10 * n) = 10 * n := IntWalk.i64_in _ (by omega)
              have m2 : IntKind.u8.wrap ((T[k].toNat : Int) - 48) = d := by rw [← ed]; exact IntWalk.u8_in _ (by omega)
              have m3 : IntKind.i64.wrap d = d := IntWalk.i64_in _ (by omega)
              have m4 : IntKind.i64.wrap (10 * n + d) = n2 := by rw [en2]; exact IntWalk.i64_in _ (by omega)
              clear ET d1 d2 en ed en2
              go_wp2
              exact ⟨⟨k + 1, n2, hlt, by simp, rfl, EN2.out, HD2.out, (by first | rfl | trivial)⟩, by simp only [intOf]; omega⟩
        · obtain rfl : k = T.size := by omega
          have NS := Lib.hid (show NumS T.data.toList n true by
            have e : T.data.toList.take T.size = T.data.toList := List.take_of_length_le (by rw [Array.length_toList]; exact Nat.le_refl _)
            have h1 := EN.out
            have h2 := HD.out
            rw [e] at h1 h2
            rw [h1]
            exact nums_good (by rw [Array.length_toList]; exact hs1) (by rw [Array.length_toList]; exact hs9) HNL.out h2)
          clear en
          go_wp2
          go_ret2
          exact ⟨n, true, rfl, NS.out, rfl⟩
  · have b48 : ((T[0].toNat : Int) == 48) = false := by
      simp only [beq_eq_false_iff_ne, ne_eq]
      exact fun e => h48 (UInt8.toNat_inj.1 (by have : (48 : UInt8).toNat = 48 := rfl; omega))
    have HNL := Lib.hid (show ¬ (1 < T.data.toList.length ∧ T.data.toList.head? = some 48) from fun h => h48 (by have := h.2; rw [h0l] at this; injection this))
    clear h0l h48
    go_enter Tryd.func42, Tryd.ntmps42
    go_wp2
    go_loopw [4, 5] (fun n_ i_ wr => ∃ (k : Nat) (n : Int), k ≤ T.size ∧ i_ = .int .i64 (k : Int) ∧ n_ = .int .i64 n ∧ n = ((valD (T.data.toList.take k) : Nat) : Int) ∧ (∀ x ∈ T.data.toList.take k, isDig x = true) ∧ w = wr) (fun _ i_ _ => T.size - (intOf i_).toNat)
    case atStart => exact ⟨0, 0, Nat.zero_le _, rfl, rfl, rfl, fun _ h => (by simp at h), rfl⟩
    case round =>
      obtain ⟨k, n, hk, rfl, rfl, en, hd, rfl⟩ := hrel
      have EN := Lib.hid en
      have HD := Lib.hid hd
      have nb : valD (T.data.toList.take k) < 10 ^ 9 := by
        have h1 := valD_bound _ (T.data.toList.take k) rfl hd
        have h2 : (T.data.toList.take k).length ≤ 9 := by rw [List.length_take, Array.length_toList]; have : T.data.size = T.size := rfl; omega
        exact Nat.lt_of_lt_of_le h1 (Nat.pow_le_pow_right (by omega) h2)
      have n0 : 0 ≤ n := by omega
      have n9 : n < 1000000000 := by have : (10 : Nat) ^ 9 = 1000000000 := rfl; omega
      clear hd nb
      by_cases hlt : k < T.size
      · have ET : T.data.toList.take (k + 1) = T.data.toList.take k ++ [T[k]] := by
          have hl : k < T.data.toList.length := by rw [Array.length_toList]; exact hlt
          rw [List.take_add_one, List.getElem?_eq_getElem hl]
          rfl
        have k0 : (0 : Int) ≤ (k : Int) := by omega
        have k1 : (k : Int) < (T.size : Int) := by omega
        by_cases d1 : (T[k].toNat : Int) < 48
        · have g1 : decide ((T[k].toNat : Int) < 48) = true := decide_eq_true d1
          have NS := Lib.hid (nums_bad (s := T.data.toList) (x := T[k]) (Array.getElem_mem_toList _) (by unfold isDig; rw [decide_eq_false (by omega)]))
          clear ET d1 en
          go_wp2
          go_ret2
          exact ⟨0, false, rfl, NS.out, rfl⟩
        · have g1 : decide ((T[k].toNat : Int) < 48) = false := decide_eq_false d1
          by_cases d2 : 57 < (T[k].toNat : Int)
          · have g2 : decide (57 < (T[k].toNat : Int)) = true := decide_eq_true d2
            have NS := Lib.hid (nums_bad (s := T.data.toList) (x := T[k]) (Array.getElem_mem_toList _) (by unfold isDig; rw [decide_eq_false (by omega)]))
            clear ET d1 d2 en
            go_wp2
            go_ret2
            exact ⟨0, false, rfl, NS.out, rfl⟩
          · have g2 : decide (57 < (T[k].toNat : Int)) = false := decide_eq_false d2
            obtain ⟨d, ed⟩ : ∃ d : Int, d = (T[k].toNat : Int) - 48 := ⟨_, rfl⟩
            obtain ⟨n2, en2⟩ : ∃ n2 : Int, n2 = 10 * n + d := ⟨_, rfl⟩
            have EN2 := Lib.hid (show n2 = ((valD (T.data.toList.take (k + 1)) : Nat) : Int) by
              rw [ET, valD_snoc, en2, ed, en]
              omega)
            have HD2 := Lib.hid (show ∀ x ∈ T.data.toList.take (k + 1), isDig x = true by
              rw [ET]
              intro x hx
              rcases List.mem_append.1 hx with h | h
              · exact HD.out x h
              · rw [List.mem_singleton] at h
                rw [h]
                unfold isDig
                exact decide_eq_true (by omega))
            have m1 : IntKind.i64.wrap (10 * n) = 10 * n := IntWalk.i64_in _ (by omega)
            have m2 : IntKind.u8.wrap ((T[k].toNat : Int) - 48) = d := by rw [← ed]; exact IntWalk.u8_in _ (by omega)
            have m3 : IntKind.i64.wrap d = d := IntWalk.i64_in _ (by omega)
            have m4 : IntKind.i64.wrap (10 * n + d) = n2 := by rw [en2]; exact IntWalk.i64_in _ (by omega)
            clear ET d1 d2 en ed en2
            go_wp2
            exact ⟨⟨k + 1, n2, hlt, by simp, rfl, EN2.out, HD2.out, (by first | rfl | trivial)⟩, by simp only [intOf]; omega⟩
      · obtain rfl : k = T.size := by omega
        have NS := Lib.hid (show NumS T.data.toList n true by
          have e : T.data.toList.take T.size = T.data.toList := List.take_of_length_le (by rw [Array.length_toList]; exact Nat.le_refl _)
          have h1 := EN.out
          have h2 := HD.out
          rw [e] at h1 h2
          rw [h1]
          exact nums_good (by rw [Array.length_toList]; exact hs1) (by rw [Array.length_toList]; exact hs9) HNL.out h2)
        clear en
        go_wp2
        go_ret2
        exact ⟨n, true, rfl, NS.out, rfl⟩
end Go.Proofs.YtkojnepgeegalaaDoor
