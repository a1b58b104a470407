/- Shortest walks by the model: contracts. Condition: stops within 0 and 999, at most 60. -/
import Derived.Test.YtpamflkefgpdpaaShP
import Derived.BigQuiet
import Derived.Deep.RegionHeldLaw
import Derived.Deep.AppendLies
import Derived.IntWalk
namespace Go.Proofs.Ytpamflkefgpdpaa
set_option linter.unusedSimpArgs false
set_option linter.unusedVariables false
set_option maxRecDepth 100000
open Go.RowKit

theorem l00Min_any (a b : Int) (w : World) : Calls Try.prog 58 #[.int .i64 a, .int .i64 b] w fun e w' => e = .returned (.int .i64 (mnI a b)) ∧ w = w' := by
  by_cases h : a < b
  · have E := Lib.hid (show mnI a b = a by unfold mnI; rw [if_pos (by omega)])
    have h2 : ¬ (b ≤ a) := by omega
    have h3 : a ≤ b := by omega
    go_enter Try.func58, Try.ntmps58
    go_wp2
    go_ret
    exact ⟨by rw [E.out]; rfl, rfl⟩
  · have E := Lib.hid (show mnI a b = b by unfold mnI; split <;> omega)
    have h3 : b ≤ a := by omega
    go_enter Try.func58, Try.ntmps58
    go_wp2
    go_ret
    exact ⟨by rw [E.out]; rfl, rfl⟩

/-- The least and the greatest of the first k stops. -/
structure LoHi (L : List Int) (k : Nat) (lo hi : Int) : Prop where
  l : ∃ i, ∃ h : i < L.length, L[i] = lo
  h : ∃ i, ∃ h : i < L.length, L[i] = hi
  b : ∀ (i : Nat) (h : i < L.length), i < k → lo ≤ L[i] ∧ L[i] ≤ hi
theorem LoHi.step {L : List Int} {k : Nat} {lo hi : Int} (h : LoHi L k lo hi) (hk : k < L.length) : LoHi L (k + 1) (mnI lo L[k]) (if hi < L[k] then L[k] else hi) := by
  have mc := mn_cases lo L[k]
  refine ⟨?_, ?_, fun i hi' hik => ?_⟩
  · rcases mc with ⟨_, e⟩ | ⟨_, e⟩
    · rw [e]; exact h.l
    · rw [e]; exact ⟨k, hk, rfl⟩
  · split
    · exact ⟨k, hk, rfl⟩
    · exact h.h
  · by_cases e : i = k
    · subst e; split <;> omega
    · have := h.b i hi' (by omega)
      split <;> omega
theorem LoHi.least {L : List Int} {lo hi s : Int} (h : LoHi L L.length lo hi) : LeastIs L s (hi - lo + mnI (apart s lo) (apart s hi)) := by
  obtain ⟨i, h1, rfl⟩ := h.l
  obtain ⟨j, h2, rfl⟩ := h.h
  refine .inr ⟨_, _, List.getElem_mem h1, List.getElem_mem h2, fun x hx => ?_, rfl⟩
  obtain ⟨k, hk, rfl⟩ := List.getElem_of_mem hx
  exact h.b k hk hk

set_option maxHeartbeats 4000000 in
theorem l07Least_any (v : Value) (L : List Int) (s : Int) (w : World) (hs : IntsOf .i64 w v L) (hb : ∀ x ∈ L, 0 ≤ x ∧ x ≤ 999) (h0 : 0 ≤ s ∧ s ≤ 999) (h60 : L.length ≤ 60) :
    Calls Try.prog 35 #[v, .int .i64 s] w fun e w' => ∃ c, e = .returned (.int .i64 c) ∧ LeastIs L s c ∧ 0 ≤ c ∧ c ≤ 3000 ∧ Below w.heap.size w w' := by
  obtain ⟨A, cc, rfl, hat⟩ := hs
  have HAT := Lib.hid hat
  have HB := Lib.hid (fun i (h : i < L.length) => hb L[i] (List.getElem_mem h))
  clear hat hb
  by_cases hl : L.length = 0
  · have E := Lib.hid (show LeastIs L s 0 from .inl ⟨List.eq_nil_of_length_eq_zero hl, rfl⟩)
    have hl' : ((L.length : Nat) : Int) = 0 := by omega
    have d1 : (((L.length : Nat) : Int) == 0) = true := by rw [beq_iff_eq]; exact hl'
    clear hl
    go_enter Try.func35, Try.ntmps35
    go_wp2
    go_ret
    exact ⟨0, rfl, E.out, by omega, by omega, Below.refl _ _⟩
  · obtain ⟨g, o, rfl, hg, hc⟩ := HAT.out (by omega)
    have HC := Lib.hid hc
    have hpos : 0 < L.length := Nat.pos_of_ne_zero hl
    have c0 := hc 0 hpos
    rw [Nat.add_zero] at c0
    have d1 : (((L.length : Nat) : Int) == 0) = false := by rw [beq_eq_false_iff_ne]; omega
    have I0 := Lib.hid (show LoHi L 1 (L[0]'hpos) (L[0]'hpos) from ⟨⟨0, hpos, rfl⟩, ⟨0, hpos, rfl⟩, fun i h hi => (by obtain rfl : i = 0 := (by omega); exact ⟨Int.le_refl _, Int.le_refl _⟩)⟩)
    clear hc hl
    go_enter Try.func35, Try.ntmps35
    go_wp2
    clear c0
    go_loopw [5, 6, 7] (fun l_ h_ k_ wr => ∃ (k : Nat) (lo hi : Int), k ≤ L.length ∧ k_ = .int .i64 (k : Int) ∧ l_ = .int .i64 lo ∧ h_ = .int .i64 hi ∧ LoHi L k lo hi ∧ wr = w) (fun _ _ k_ _ => L.length - (intOf k_).toNat)
    case atStart => exact ⟨1, _, _, by omega, rfl, rfl, rfl, I0.out, rfl⟩
    case round =>
      obtain ⟨k, lo, hi, hk, rfl, rfl, rfl, hi0, rfl⟩ := hrel
      have HI := Lib.hid hi0
      clear hi0
      by_cases hlt : k < L.length
      · have p0 := HC.out k hlt
        have IS := Lib.hid (HI.out.step hlt)
        generalize L[k] = z at p0 IS
        go_wp2_with fail
        refine (l00Min_any lo z _).mono ?_
        rintro e w1 ⟨rfl, rfl⟩
        go_wp2_with fail
        refine (l00Max_any hi z _ rfl _).mono ?_
        rintro e w1 ⟨rfl, rfl⟩
        go_wp2
        go_roundw
        case rel => exact ⟨k + 1, _, _, by omega, by go_num, rfl, rfl, IS.out, by first | rfl | trivial⟩
        case measure => simp [intOf]; omega
      · obtain rfl : k = L.length := by omega
        have LI := Lib.hid (HI.out.least (s := s))
        obtain ⟨i, h1, e1⟩ := HI.out.l
        obtain ⟨j, h2, e2⟩ := HI.out.h
        have b1 : 0 ≤ lo ∧ lo ≤ 999 := by rw [← e1]; exact HB.out i h1
        have b2 : 0 ≤ hi ∧ hi ≤ 999 := by rw [← e2]; exact HB.out j h2
        have a1 := apart_bd h0 b1
        have a2 := apart_bd h0 b2
        have bl : lo ≤ hi := by
          have := HI.out.b i h1 h1
          omega
        have AP1 := Lib.hid (fun W => l07Apart_any s lo h0 b1 W)
        have AP2 := Lib.hid (fun W => l07Apart_any s hi h0 b2 W)
        have n1 : IntKind.i64.wrap (hi - lo) = hi - lo := IntWalk.i64_in _ (by omega)
        have mc := mn_cases (apart s lo) (apart s hi)
        have n2 : IntKind.i64.wrap (hi - lo + mnI (apart s lo) (apart s hi)) = hi - lo + mnI (apart s lo) (apart s hi) := IntWalk.i64_in _ (by omega)
        have FB := Lib.hid (show 0 ≤ hi - lo + mnI (apart s lo) (apart s hi) ∧ hi - lo + mnI (apart s lo) (apart s hi) ≤ 3000 by omega)
        clear e1 e2 h1 h2 mc hlt a1 a2 bl b1 b2
        go_wp2_with fail
        refine (AP1.out _).mono ?_
        rintro e w1 ⟨rfl, rfl⟩
        go_wp2_with fail
        refine (AP2.out _).mono ?_
        rintro e w1 ⟨rfl, rfl⟩
        go_wp2_with fail
        refine (l00Min_any _ _ _).mono ?_
        rintro e w1 ⟨rfl, rfl⟩
        go_wp2
        go_ret
        exact ⟨_, rfl, LI.out, FB.out.1, FB.out.2, Below.refl _ _⟩
end Go.Proofs.Ytpamflkefgpdpaa
