/- Numbers that can tell how many books stand on the shelves; the shelf of a book: the model's functions and the program's, contracts. Condition: no longer than a slice can be. -/
import Derived.Test.YtdkdchhkfachmabNums
namespace Go.Proofs.Ytdkdchhkfachmab
set_option linter.unusedSimpArgs false
set_option linter.unusedVariables false
set_option maxRecDepth 100000
open Go.RowKit

/-- The number ahead of number s, or 0. -/
def prE (es : List Int) (s : Nat) : Int := if s = 0 then 0 else es.getD (s - 1) 0
def nuF (es : List Int) : Nat → Nat → Bool
  | 0, _ => true
  | f + 1, s => inB (es.getD s 0) (prE es s) 60 && nuF es f (s + 1)
def numB (es : List Int) : Bool := nuF es es.length 0
theorem prE_succ (es : List Int) (k : Nat) : prE es (k + 1) = es.getD k 0 := by simp [prE]
theorem getD_e {es : List Int} {i : Nat} (h : i < es.length) : es.getD i 0 = es[i] := by simp [List.getD, h]
theorem nuF_step {es : List Int} {s : Nat} (hs : s < es.length) : nuF es (es.length - s) s = (inB es[s] (prE es s) 60 && nuF es (es.length - (s + 1)) (s + 1)) := by
  rw [show es.length - s = (es.length - (s + 1)) + 1 by omega, nuF, getD_e hs]
theorem nuF_bad {es : List Int} {s : Nat} (hs : s < es.length) (h : nuF es (es.length - s) s = numB es) (hb : inB es[s] (prE es s) 60 = false) : numB es = false := by
  rw [← h, nuF_step hs, hb]; rfl
theorem nuF_good {es : List Int} {s : Nat} (hs : s < es.length) (h : nuF es (es.length - s) s = numB es) (hb : inB es[s] (prE es s) 60 = true) : nuF es (es.length - (s + 1)) (s + 1) = numB es := by
  rw [← h, nuF_step hs, hb]; rfl
theorem nuF_end {es : List Int} (h : nuF es (es.length - es.length) es.length = numB es) : numB es = true := by
  rw [← h, Nat.sub_self]; rfl

set_option maxHeartbeats 2000000 in
theorem l02Numbers_any (v : Value) (es : List Int) (w : World) (se : IntsOf .i64 w v es) (hm : es.length ≤ maxLen) :
    Calls Try.prog 48 #[v] w fun e w' => e = .returned (.bool (numB es)) ∧ w = w' := by
  obtain ⟨E, q, rfl, se⟩ := se
  have HS := Lib.hid se
  unfold maxLen at hm
  clear se
  go_enter Try.func48, Try.ntmps48
  go_wp2_with fail
  go_loop [3, 4] (fun p s => ∃ j : Nat, j ≤ es.length ∧ s = .int .i64 (j : Int) ∧ p = .int .i64 (prE es j) ∧ nuF es (es.length - j) j = numB es) (fun p s => es.length - (intOf s).toNat)
  case atStart => exact ⟨0, Nat.zero_le _, rfl, rfl, rfl⟩
  case round =>
    obtain ⟨j, hj, rfl, rfl, hn⟩ := hrel
    have HN := Lib.hid hn
    clear hn
    by_cases hlt : j < es.length
    · obtain ⟨g, o, rfl, hg, hat⟩ := HS.out (by omega)
      have p0 := hat j hlt
      clear hat
      cases hv : inB es[j] (prE es j) 60
      · have E2 := Lib.hid (nuF_bad hlt HN.out hv)
        go_wp2_with (go_at_call 77; refine (l00In_any _ _ _ _).mono ?_; rintro e w' ⟨rfl, rfl⟩)
        go_ret
        exact ⟨by rw [E2.out]; rfl, rfl⟩
      · have E2 := Lib.hid (nuF_good hlt HN.out hv)
        have E3 := Lib.hid (show es[j] = prE es (j + 1) by rw [prE_succ, getD_e hlt])
        go_wp2_with (go_at_call 77; refine (l00In_any _ _ _ _).mono ?_; rintro e w' ⟨rfl, rfl⟩)
        go_round
        case rel => exact ⟨j + 1, by omega, by go_num, by rw [← E3.out], E2.out⟩
        case measure => simp [intOf]; omega
    · obtain rfl : j = es.length := by omega
      have E2 := Lib.hid (nuF_end HN.out)
      go_wp2
      go_ret
      exact ⟨by rw [E2.out]; rfl, rfl⟩

set_option maxHeartbeats 400000 in
theorem within64_e (n low high : Int) (w : World) :
    Calls Try.prog 78 #[.int .i64 n, .int .i64 low, .int .i64 high] w fun e w' => e = .returned (.bool (inB n low high)) ∧ w = w' := by
  by_cases h1 : low ≤ n
  · by_cases h2 : n ≤ high
    · go_enter Try.func78, Try.ntmps78
      go_wp2
      go_ret
      exact ⟨by simp [inB, h1, h2], rfl⟩
    · go_enter Try.func78, Try.ntmps78
      go_wp2
      go_ret
      exact ⟨by simp [inB, h1, h2], rfl⟩
  · have h1' : n < low := by omega
    go_enter Try.func78, Try.ntmps78
    go_wp2
    go_ret
    exact ⟨by simp [inB, show ¬ low ≤ n from by omega], rfl⟩

set_option maxHeartbeats 2000000 in
theorem areEnds_any (v : Value) (es : List Int) (w : World) (se : IntsOf .i64 w v es) (hm : es.length ≤ maxLen) :
    Calls Try.prog 50 #[v] w fun e w' => e = .returned (.bool (numB es)) ∧ w = w' := by
  obtain ⟨E, q, rfl, se⟩ := se
  have HS := Lib.hid se
  unfold maxLen at hm
  clear se
  go_enter Try.func50, Try.ntmps50
  go_wp2_with fail
  go_loop [3, 8] (fun p s => ∃ j : Nat, j ≤ es.length ∧ s = .int .i64 (j : Int) ∧ p = .int .i64 (prE es j) ∧ nuF es (es.length - j) j = numB es) (fun p s => es.length - (intOf s).toNat)
  case atStart => exact ⟨0, Nat.zero_le _, rfl, rfl, rfl⟩
  case round =>
    obtain ⟨j, hj, rfl, rfl, hn⟩ := hrel
    have HN := Lib.hid hn
    clear hn
    by_cases hlt : j < es.length
    · obtain ⟨g, o, rfl, hg, hat⟩ := HS.out (by omega)
      have p0 := hat j hlt
      clear hat
      cases hv : inB es[j] (prE es j) 60
      · have E2 := Lib.hid (nuF_bad hlt HN.out hv)
        go_wp2_with (go_at_call 78; refine (within64_e _ _ _ _).mono ?_; rintro e w' ⟨rfl, rfl⟩)
        go_ret
        exact ⟨by rw [E2.out]; rfl, rfl⟩
      · have E2 := Lib.hid (nuF_good hlt HN.out hv)
        have E3 := Lib.hid (show es[j] = prE es (j + 1) by rw [prE_succ, getD_e hlt])
        go_wp2_with (go_at_call 78; refine (within64_e _ _ _ _).mono ?_; rintro e w' ⟨rfl, rfl⟩)
        go_round
        case rel => exact ⟨j + 1, by omega, by go_num, by rw [← E3.out], E2.out⟩
        case measure => simp [intOf]; omega
    · obtain rfl : j = es.length := by omega
      have E2 := Lib.hid (nuF_end HN.out)
      go_wp2
      go_ret
      exact ⟨by rw [E2.out]; rfl, rfl⟩

/-- The first shelf from s on whose number is greater than b. -/
def sfF (es : List Int) (b : Int) : Nat → Nat → Nat
  | 0, s => s
  | f + 1, s => if es.getD s 0 ≤ b then sfF es b f (s + 1) else s
def sfOf (es : List Int) (b : Int) : Nat := sfF es b es.length 0
theorem sfF_step {es : List Int} {b : Int} {s : Nat} (hs : s < es.length) : sfF es b (es.length - s) s = if es[s] ≤ b then sfF es b (es.length - (s + 1)) (s + 1) else s := by
  rw [show es.length - s = (es.length - (s + 1)) + 1 by omega, sfF, getD_e hs]

set_option maxHeartbeats 2000000 in
theorem l02Shelf_e (v : Value) (es : List Int) (b : Int) (w : World) (se : IntsOf .i64 w v es) (h0 : 0 < es.length) (hm : es.length ≤ maxLen) (hl : b < es[es.length - 1]) :
    Calls Try.prog 49 #[v, .int .i64 b] w fun e w' => e = .returned (.int .i64 (sfOf es b : Int)) ∧ w = w' := by
  obtain ⟨E, q, rfl, se⟩ := se
  obtain ⟨g, o, rfl, hg, hat⟩ := se h0
  have HAT := Lib.hid hat
  have HL := Lib.hid hl
  unfold maxLen at hm
  clear se hat hl
  go_enter Try.func49, Try.ntmps49
  go_wp2
  go_loop [5] (fun s => ∃ j : Nat, j < es.length ∧ s = .int .i64 (j : Int) ∧ sfF es b (es.length - j) j = sfOf es b) (fun s => es.length - (intOf s).toNat)
  case atStart => exact ⟨0, h0, rfl, rfl⟩
  case round =>
    obtain ⟨j, hj, rfl, hs⟩ := hrel
    have p0 := HAT.out j hj
    have HS := Lib.hid hs
    clear hs
    by_cases hle : es[j] ≤ b
    · have hne : j ≠ es.length - 1 := by
        rintro rfl
        have := HL.out
        omega
      have E1 := Lib.hid (show sfF es b (es.length - (j + 1)) (j + 1) = sfOf es b by rw [← HS.out, sfF_step hj, if_pos hle])
      go_wp2
      go_round
      case rel => exact ⟨j + 1, by omega, by go_num, E1.out⟩
      case measure => simp [intOf]; omega
    · have E1 := Lib.hid (show sfOf es b = j by rw [← HS.out, sfF_step hj, if_neg hle])
      have hgt : b < es[j] := by omega
      go_wp2
      go_ret
      exact ⟨by rw [E1.out]; rfl, rfl⟩

end Go.Proofs.Ytdkdchhkfachmab
