/- How far a walk is, as plain data; by the model and by the program: contracts. Condition: no longer than a slice can be; numbers within int64. -/
import Derived.Test.YtecpddkbbfpeeaaNums
import Derived.Test.YtecpddkbbfpeeaaMax
import Derived.Test.YtecpddkbbfpeeaaValid
namespace Go.Proofs.Ytecpddkbbfpeeaa
set_option linter.unusedSimpArgs false
set_option linter.unusedVariables false
set_option maxRecDepth 100000
open Go.RowKit

def stopB (z : Int) : Bool := inB z 0 999
theorem stopB_bd {z : Int} (h : stopB z = true) : 0 ≤ z ∧ z ≤ 999 := by simpa [stopB, inB] using h
def AllSt (zs : List Int) (k : Nat) : Prop := ∀ (i : Nat) (h : i < zs.length), i < k → stopB zs[i] = true
theorem AllSt.zero (zs : List Int) : AllSt zs 0 := fun _ _ h => absurd h (Nat.not_lt_zero _)
theorem AllSt.succ {zs : List Int} {k : Nat} (h : AllSt zs k) (hk : k < zs.length) (hb : stopB zs[k] = true) : AllSt zs (k + 1) := by
  intro i hi hik
  by_cases e : i = k
  · subst e; exact hb
  · exact h i hi (by omega)
theorem all_bad {zs : List Int} {k : Nat} (hk : k < zs.length) (h : stopB zs[k] = false) : zs.all stopB = false := by
  rw [List.all_eq_false]
  exact ⟨zs[k], List.getElem_mem hk, by simp [h]⟩
theorem all_good {zs : List Int} (h : AllSt zs zs.length) : zs.all stopB = true := by
  rw [List.all_eq_true]
  intro b hb
  obtain ⟨i, hi, rfl⟩ := List.getElem_of_mem hb
  exact h i hi hi
/-- The code of stops and a start. -/
def wkC (zs : List Int) (a : Int) : Int := if stopB a then (if zs.all stopB then (if decide (zs.length ≤ 60) then 0 else 3) else 2) else 2
def apart (a b : Int) : Int := max (a - b) (b - a)
/-- How far it is from a to all stops. -/
def farF (a : Int) : List Int → Int
  | [] => 0
  | z :: t => apart a z + farF z t
def wkR (zs : List Int) (a : Int) : Int := if wkC zs a = 0 then farF a zs else 0
theorem apart_bd {a b : Int} (ha : 0 ≤ a ∧ a ≤ 999) (hb : 0 ≤ b ∧ b ≤ 999) : 0 ≤ apart a b ∧ apart a b ≤ 999 := by unfold apart; omega
theorem far_step {zs : List Int} {k : Nat} {a : Int} (hk : k < zs.length) : farF a (zs.drop k) = apart a zs[k] + farF zs[k] (zs.drop (k + 1)) := by
  rw [List.drop_eq_getElem_cons hk]
  rfl
theorem far_end {zs : List Int} {a : Int} : farF a (zs.drop zs.length) = 0 := by rw [List.drop_length]; rfl
theorem wk_cases (zs : List Int) (a : Int) : (stopB a = false ∧ wkC zs a = 2 ∧ wkR zs a = 0) ∨ (stopB a = true ∧ zs.all stopB = false ∧ wkC zs a = 2 ∧ wkR zs a = 0) ∨ (stopB a = true ∧ zs.all stopB = true ∧ 60 < zs.length ∧ wkC zs a = 3 ∧ wkR zs a = 0) ∨ (stopB a = true ∧ zs.all stopB = true ∧ zs.length ≤ 60 ∧ wkC zs a = 0 ∧ wkR zs a = farF a zs) := by
  unfold wkR wkC
  cases h1 : stopB a
  · exact .inl ⟨rfl, rfl, rfl⟩
  · cases h2 : zs.all stopB
    · exact .inr (.inl ⟨rfl, rfl, rfl, rfl⟩)
    · by_cases h3 : zs.length ≤ 60
      · exact .inr (.inr (.inr ⟨rfl, rfl, h3, by simp [h3], by simp [h3]⟩))
      · exact .inr (.inr (.inl ⟨rfl, rfl, by omega, by simp [h3], by simp [h3]⟩))
theorem all_of {zs : List Int} (h : zs.all stopB = true) (k : Nat) (hk : k < zs.length) : 0 ≤ zs[k] ∧ zs[k] ≤ 999 := by
  rw [List.all_eq_true] at h
  exact stopB_bd (h _ (List.getElem_mem hk))

set_option maxHeartbeats 2000000 in
theorem l07Walk_any (v : Value) (zs : List Int) (a : Int) (w : World) (hs : IntsOf .i64 w v zs) (hn : zs.length ≤ maxLen) :
    Calls Try.prog 24 #[v, .int .i64 a] w fun e w' => e = .returned (.int .i64 (wkC zs a)) ∧ w = w' := by
  obtain ⟨A, c, rfl, hs⟩ := hs
  have HS := Lib.hid hs
  unfold maxLen at hn
  clear hs
  cases ha : stopB a
  · have E := Lib.hid (show wkC zs a = 2 by unfold wkC; rw [ha]; rfl)
    have L0 := Lib.hid (fun W => l01Class_any a W)
    rw [show inB a 0 999 = false from ha] at L0
    clear ha
    go_enter Try.func24, Try.ntmps24
    go_wp2_with fail
    refine (L0.out _).mono ?_
    rintro e w' ⟨rfl, rfl⟩
    go_wp2
    go_ret
    exact ⟨by rw [E.out]; rfl, rfl⟩
  · have EA := Lib.hid ha
    have L0 := Lib.hid (fun W => l01Class_any a W)
    rw [show inB a 0 999 = true from ha] at L0
    clear ha
    go_enter Try.func24, Try.ntmps24
    go_wp2_with fail
    refine (L0.out _).mono ?_
    rintro e w' ⟨rfl, rfl⟩
    go_wp2
    go_loopw [5] (fun i wr => ∃ k : Nat, k ≤ zs.length ∧ i = .int .i64 k ∧ AllSt zs k ∧ wr = w) (fun i _ => zs.length - (intOf i).toNat)
    case atStart => exact ⟨0, Nat.zero_le _, rfl, AllSt.zero _, rfl⟩
    case round =>
      obtain ⟨k, hk, rfl, hall, rfl⟩ := hrel
      have HA := Lib.hid hall
      clear hall
      by_cases hlt : k < zs.length
      · obtain ⟨g, o, rfl, hg, hat⟩ := HS.out (by omega)
        have p0 := hat k hlt
        clear hat
        cases hz : stopB zs[k]
        · have E := Lib.hid (show wkC zs a = 2 by unfold wkC; rw [EA.out, all_bad hlt hz]; rfl)
          have L1 := Lib.hid (fun W => l01Class_any zs[k] W)
          rw [show inB zs[k] 0 999 = false from hz] at L1
          clear hz
          go_wp2_with fail
          refine (L1.out _).mono ?_
          rintro e w' ⟨rfl, rfl⟩
          go_wp2
          go_ret
          exact ⟨by rw [E.out]; rfl, rfl⟩
        · have HN := Lib.hid (HA.out.succ hlt hz)
          have L1 := Lib.hid (fun W => l01Class_any zs[k] W)
          rw [show inB zs[k] 0 999 = true from hz] at L1
          clear hz
          go_wp2_with fail
          refine (L1.out _).mono ?_
          rintro e w' ⟨rfl, rfl⟩
          go_wp2
          go_roundw
          case rel => exact ⟨k + 1, by omega, by go_num, HN.out, by first | rfl | trivial⟩
          case measure => simp [intOf]; omega
      · obtain rfl : k = zs.length := by omega
        have EZ := Lib.hid (all_good HA.out)
        by_cases h60 : zs.length ≤ 60
        · have E := Lib.hid (show wkC zs a = 0 by unfold wkC; rw [EA.out, EZ.out]; simp [h60])
          go_wp2
          go_ret
          exact ⟨by rw [E.out]; rfl, rfl⟩
        · have E := Lib.hid (show wkC zs a = 3 by unfold wkC; rw [EA.out, EZ.out]; simp [h60])
          have h61 : 60 < zs.length := by omega
          go_wp2
          go_ret
          exact ⟨by rw [E.out]; rfl, rfl⟩
set_option maxHeartbeats 1000000 in
theorem l07Apart_any (a b : Int) (ha : 0 ≤ a ∧ a ≤ 999) (hb : 0 ≤ b ∧ b ≤ 999) (w : World) :
    Calls Try.prog 26 #[.int .i64 a, .int .i64 b] w fun e w' => e = .returned (.int .i64 (apart a b)) ∧ w = w' := by
  obtain ⟨a1, a2⟩ := ha
  obtain ⟨b1, b2⟩ := hb
  have E := Lib.hid (show (if a - b < b - a then b - a else a - b) = apart a b by unfold apart; split <;> omega)
  have MX := Lib.hid (fun W => l00Max_any (a - b) (b - a) _ E.out W)
  go_enter Try.func26, Try.ntmps26
  go_wp2_with fail
  refine (MX.out _).mono ?_
  rintro e w' ⟨rfl, rfl⟩
  go_wp2
  go_ret
  exact ⟨rfl, rfl⟩
end Go.Proofs.Ytecpddkbbfpeeaa
