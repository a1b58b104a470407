/- ShelvesNeeded, by the program: contracts. Condition: numbers within their kinds, slices no longer than can be. -/
import Derived.Test.YtlphpajpjpohmabShvN
namespace Go.Proofs.Ytlphpajpjpohmab
set_option linter.unusedSimpArgs false
set_option linter.unusedVariables false
set_option maxRecDepth 100000
open Go.RowKit

def fix (fs : List Int) (x : Int) : Int := if fs.findIdx (fun u => decide (x ≤ u)) < fs.length then (fs.findIdx (fun u => decide (x ≤ u)) : Int) else -1
theorem fix_at {fs : List Int} {x : Int} {j : Nat} (hj : j < fs.length) (h : decide (x ≤ fs[j]) = true) (hp : ∀ (t : Nat) (ht : t < j), decide (x ≤ fs[t]'(by omega)) = false) : fix fs x = j := by
  unfold fix
  rw [(List.findIdx_eq hj).2 ⟨h, hp⟩, if_pos hj]
theorem fix_none {fs : List Int} {x : Int} (hp : ∀ (t : Nat) (ht : t < fs.length), decide (x ≤ fs[t]) = false) : fix fs x = -1 := by
  unfold fix
  rw [if_neg]
  rw [List.findIdx_lt_length]
  rintro ⟨b, hb, h⟩
  obtain ⟨t, ht, rfl⟩ := List.getElem_of_mem hb
  rw [hp t ht] at h
  cases h
theorem fix_ff (a : Int) (us : List Int) (x : Int) : fix (us.map (fun u => a - u)) x = if ffA a us x < us.length then (ffA a us x : Int) else -1 := by
  unfold fix ffA
  rw [List.findIdx_map, List.length_map]
  have e : ((fun u => decide (x ≤ u)) ∘ fun u => a - u) = fun u => decide (u + x ≤ a) := by
    funext u
    simp only [Function.comp]
    congr 1
    exact propext ⟨fun h => by omega, fun h => by omega⟩
  rw [e]
theorem fill1_any (u x : Int) (B : Nat) (w : World) (hb : w.cell? ⟨B, 0, none⟩ = some (.int .i64 x)) :
    Calls Try.prog 57 #[.int .i64 u, .pointer (some ⟨B, 0, none⟩)] w fun e w' => e = .returned (.bool (decide (x ≤ u))) ∧ w = w' := by
  cases hd : decide (x ≤ u)
  · have h1 : u < x := by have := of_decide_eq_false hd; omega
    go_enter Try.func57, Try.ntmps57
    go_wp2
    go_ret
    first | exact ⟨rfl, rfl⟩ | exact ⟨by rw [hd], rfl⟩ | exact ⟨by simp; omega, rfl⟩
  · have h1 : x ≤ u := of_decide_eq_true hd
    go_enter Try.func57, Try.ntmps57
    go_wp2
    go_ret
    first | exact ⟨rfl, rfl⟩ | exact ⟨by rw [hd], rfl⟩ | exact ⟨by simp; omega, rfl⟩

set_option maxHeartbeats 4000000 in
theorem indexFree_any (v : Value) (fs : List Int) (x : Int) (B : Nat) (w : World) (sl : IntsOf .i64 w v fs) (hn : fs.length ≤ 60) (hb : w.cell? ⟨B, 0, none⟩ = some (.int .i64 x)) :
    Calls Try.prog 56 #[v, .func (.func 57) #[] #[.pointer (some ⟨B, 0, none⟩)]] w fun e w' => e = .returned (.int .i64 (fix fs x)) ∧ w = w' := by
  obtain ⟨A, m, rfl, sl⟩ := sl
  have SL := Lib.hid sl
  have HBC := Lib.hid hb
  clear sl hb
  go_enter Try.func56, Try.ntmps56
  go_wp2
  go_loopw [8] (fun s wr => ∃ j : Nat, j ≤ fs.length ∧ s = .int .i64 (j : Int) ∧ (∀ (t : Nat) (ht : t < fs.length), t < j → decide (x ≤ fs[t]) = false) ∧ wr = w) (fun s _ => fs.length - (intOf s).toNat)
  case atStart => exact ⟨0, Nat.zero_le _, rfl, fun _ _ h => absurd h (Nat.not_lt_zero _), rfl⟩
  case round =>
    obtain ⟨j, hj, rfl, hp, rfl⟩ := hrel
    have HP := Lib.hid hp
    clear hp
    by_cases hlt : j < fs.length
    · obtain ⟨ga, oa, rfl, hga, hat⟩ := SL.out (by omega)
      have c1 := hat j hlt
      clear hat
      cases hc : decide (x ≤ fs[j])
      · have E2 := Lib.hid (show ∀ (t : Nat) (ht : t < fs.length), t < j + 1 → decide (x ≤ fs[t]) = false from fun t ht htj => by
          by_cases e : t = j
          · subst e; exact hc
          · exact HP.out t ht (by omega))
        have HC := Lib.hid hc
        clear hc
        generalize fs[j] = u at *
        go_wp2_with (go_at_call 57; refine (fill1_any u x B _ HBC.out).mono ?_; rintro e w' ⟨rfl, rfl⟩; rw [HC.out])
        go_roundw
        case rel => exact ⟨j + 1, by omega, by go_num, E2.out, by first | rfl | trivial⟩
        case measure => simp [intOf]; omega
      · have E1 := Lib.hid (fix_at hlt hc (fun t ht => HP.out t (by omega) ht))
        have HC := Lib.hid hc
        clear hc
        generalize fs[j] = u at *
        go_wp2_with (go_at_call 57; refine (fill1_any u x B _ HBC.out).mono ?_; rintro e w' ⟨rfl, rfl⟩; rw [HC.out])
        go_ret
        exact ⟨by rw [E1.out]; rfl, by first | rfl | trivial⟩
    · obtain rfl : j = fs.length := by omega
      have E1 := Lib.hid (fix_none (fs := fs) (x := x) (fun t ht => HP.out t ht ht))
      go_wp2
      go_ret
      exact ⟨by rw [E1.out]; rfl, by first | rfl | trivial⟩

end Go.Proofs.Ytlphpajpjpohmab
