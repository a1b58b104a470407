/- The height to which a book belongs, by the model and by the program: contracts. Condition: numbers within their kinds, a slice no longer than can be. -/
import Derived.Test.YtlphpajpjpohmabLevels
import Derived.Deep.RegionHeld3
namespace Go.Proofs.Ytlphpajpjpohmab
set_option linter.unusedSimpArgs false
set_option linter.unusedVariables false
set_option maxRecDepth 100000
open Go.RowKit

def hfV (p : Pg) (hs : List Int) (b : Bk) : Int := if hsB p hs && bookB b then hs.getD (hIx hs b.hi) 0 else 0
def hfC (p : Pg) (hs : List Int) (b : Bk) : Int := if hsB p hs && bookB b then (if hIx hs b.hi < hs.length then 0 else 6) else 1
theorem hf_cases (p : Pg) (hs : List Int) (b : Bk) : (hsB p hs = false ∧ hfV p hs b = 0 ∧ hfC p hs b = 1) ∨ (hsB p hs = true ∧ bookB b = false ∧ hfV p hs b = 0 ∧ hfC p hs b = 1) ∨
    (hsB p hs = true ∧ bookB b = true ∧ hIx hs b.hi = hs.length ∧ hfV p hs b = 0 ∧ hfC p hs b = 6) ∨ (hsB p hs = true ∧ bookB b = true ∧ ∃ h : hIx hs b.hi < hs.length, hfV p hs b = hs[hIx hs b.hi] ∧ hfC p hs b = 0) := by
  unfold hfV hfC
  cases h1 : hsB p hs
  · exact .inl ⟨rfl, rfl, rfl⟩
  · cases h2 : bookB b
    · exact .inr (.inl ⟨rfl, rfl, rfl, rfl⟩)
    · have := hIx_le hs b.hi
      by_cases h3 : hIx hs b.hi < hs.length
      · exact .inr (.inr (.inr ⟨rfl, rfl, h3, by simp [List.getD, h3], by simp [h3]⟩))
      · exact .inr (.inr (.inl ⟨rfl, rfl, by omega, by simp [List.getD, List.getElem?_eq_none (show hs.length ≤ hIx hs b.hi by omega)], by simp [h3]⟩))

set_option maxHeartbeats 4000000 in
theorem l04For_any (v : Value) (hs : List Int) (b : Bk) (hb : b.Wf) (g o : Nat) (w : World) (hsl : IntsOf .i64 w v hs) (hn : hs.length ≤ maxLen) (hc : w.cell? ⟨g, o + 6, none⟩ = some (.int .i16 b.hi)) (hg : g < w.heap.size) :
    Calls Try.prog 59 #[v, .pointer (some ⟨g, o, none⟩)] w fun e w' => e = .returned (.int .i64 (if hIx hs b.hi < hs.length then (hIx hs b.hi : Int) else -1)) ∧ Below w.heap.size w w' := by
  obtain ⟨A, c, rfl, hat⟩ := hsl
  have HA := Lib.hid hat
  have HC := Lib.hid hc
  obtain ⟨_, _, _, _, _, _, ⟨h1, h2⟩, _⟩ := hb
  unfold maxLen at hn
  obtain ⟨K, hK⟩ : ∃ K, hIx hs b.hi = K := ⟨_, rfl⟩
  have hKl : K ≤ hs.length := by rw [← hK]; exact hIx_le hs b.hi
  have HN := Lib.hid (fun (i : Nat) (h : i < K) (hi : i < hs.length) => show ¬ b.hi ≤ hs[i] by subst hK; exact hIx_not h hi)
  have HT := Lib.hid (fun (h : K < hs.length) => show b.hi ≤ hs[K] by subst hK; exact hIx_at h)
  rw [hK]
  clear hat hc hK
  go_enter Try.func59, Try.ntmps59
  go_wp2
  go_loopw [5] (fun i_ wr => ∃ i : Nat, i ≤ K ∧ i_ = .int .i64 (i : Int) ∧ Below w.heap.size w wr) (fun i_ _ => K + 1 - (intOf i_).toNat)
  case atStart => exact ⟨0, Nat.zero_le _, rfl, Below.refl _ _⟩
  case round =>
    obtain ⟨i, hi, rfl, hbel⟩ := hrel
    by_cases hlt : i < hs.length
    · obtain ⟨ga, oa, rfl, hga, hcells⟩ := HA.out (by omega)
      have q0 := (hcells.below hbel hga) i hlt
      have q1 := (hbel.cell (p := ⟨g, o + 6, none⟩) hg).trans HC.out
      have NN := Lib.hid (fun h => HN.out i h hlt)
      have TT := Lib.hid (fun (e : i = K) => show b.hi ≤ hs[i] by subst e; exact HT.out hlt)
      generalize hs[i] = h at q0 NN TT
      clear hcells
      by_cases hik : i < K
      · have d : h < b.hi := by have := NN.out hik; omega
        go_wp2
        go_quiet (fail)
        clear q0 q1
        go_wp2
        go_roundw
        case rel => exact ⟨i + 1, by omega, by go_num, below_drewN hbel _⟩
        case measure => simp [intOf]; omega
      · have d : b.hi ≤ h := TT.out (by omega)
        obtain rfl : i = K := by omega
        go_wp2
        go_quiet (fail)
        clear q0 q1
        go_wp2
        go_ret
        exact ⟨by first | rfl | (rw [if_pos hlt]; rfl), below_drewN hbel _⟩
    · obtain rfl : K = hs.length := by omega
      obtain rfl : i = hs.length := by omega
      go_wp2
      go_ret
      exact ⟨by first | rfl | (rw [if_neg (Nat.lt_irrefl _)]; rfl), hbel⟩

theorem vB_any (b : Bk) (w : World) :
    Calls Try.prog 64 #[.agg #[.int .i16 b.c, .int .u8 b.m0, .int .u8 b.m1, .int .u8 b.m2, .int .i16 b.v, .int .i16 b.wi, .int .i16 b.hi, .int .i16 b.we]] w fun e w' => e = .returned (.bool (bookB b)) ∧ Below w.heap.size w w' :=
  (validBook_any b w).mono fun _ _ ⟨h, e⟩ => ⟨h, by rw [← e]; exact (Below.refl _ _).alloc (Nat.le_refl _) _⟩

theorem ta_top (W : World) : (Instr.typeAssert (.iface 103 (.agg #[])) 98 101 true).run Try.prog W = .ok (.tuple #[.agg #[.int .i64 0, .int .i64 0], .bool false]) W := by
  rfl
theorem ta_shelf (i h : Int) (W : World) : (Instr.typeAssert (.iface 101 (.agg #[.int .i64 i, .int .i64 h])) 98 101 true).run Try.prog W = .ok (.tuple #[.agg #[.int .i64 i, .int .i64 h], .bool true]) W := by
  rfl
theorem own_some {w : World} {base : Nat} {e : TypeId} {v : Value} {n : Nat} {l : List Value} (h : w.ownsRow base e 1 v (n + 1) l) : ∃ g c, v = .slice (some ⟨g, 0, none⟩) (n + 1) c := by
  rcases h.2 with ⟨_, h⟩ | ⟨g, cap, cur, h, _⟩
  · omega
  · exact ⟨g, cap, h⟩

end Go.Proofs.Ytlphpajpjpohmab
