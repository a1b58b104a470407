/- Tables of numbers, equality of them: contracts. No condition beyond lengths. -/
import Derived.Test.YtpamflkefgpdpaaNums
import Derived.BigQuiet
namespace Go.Proofs.Ytpamflkefgpdpaa
set_option linter.unusedSimpArgs false
set_option linter.unusedVariables false
set_option maxRecDepth 100000
open Go.RowKit

def TabOf (w : World) (v : Value) (t : List (List Int)) : Prop :=
  ∃ A c, v = .slice A t.length c ∧ (0 < t.length → ∃ g o, A = some ⟨g, o, none⟩ ∧ g < w.heap.size ∧ ∀ (i : Nat) (hi : i < t.length), ∃ u, w.cell? ⟨g, o + i, none⟩ = some u ∧ IntsOf .i64 w u t[i])
theorem TabOf.below {w w' : World} {v : Value} {t : List (List Int)} (h : TabOf w v t) (hb : Below w.heap.size w w') : TabOf w' v t := by
  obtain ⟨A, c, rfl, h⟩ := h
  refine ⟨A, c, rfl, fun h0 => ?_⟩
  obtain ⟨g, o, rfl, hg, hh⟩ := h h0
  refine ⟨g, o, rfl, Nat.lt_of_lt_of_le hg hb.size, fun i hi => ?_⟩
  obtain ⟨u, h1, h2⟩ := hh i hi
  exact ⟨u, (hb.cell (p := ⟨g, o + i, none⟩) hg).trans h1, h2.below hb⟩

set_option maxHeartbeats 2000000 in
theorem eqInt64SS_same (v1 v2 : Value) (t : List (List Int)) (w : World) (hs1 : TabOf w v1 t) (hs2 : TabOf w v2 t) (hr : ∀ zs ∈ t, zs.length ≤ maxLen) (hn : t.length ≤ maxLen) :
    Calls Try.prog 25 #[v1, v2] w fun e w' => e = .returned (.bool true) ∧ Below w.heap.size w w' := by
  have H1 := Lib.hid hs1
  have H2 := Lib.hid hs2
  have HR := Lib.hid hr
  obtain ⟨A1, c1, rfl, -⟩ := hs1
  obtain ⟨A2, c2, rfl, -⟩ := hs2
  unfold maxLen at hn
  clear hr
  go_enter Try.func25, Try.ntmps25
  go_wp2
  go_loopw [5] (fun i wr => ∃ k : Nat, k ≤ t.length ∧ i = .int .i64 k ∧ Below w.heap.size w wr) (fun i _ => t.length - (intOf i).toNat)
  case atStart => exact ⟨0, Nat.zero_le _, rfl, Below.refl _ _⟩
  case round =>
    obtain ⟨k, hk, rfl, hb⟩ := hrel
    by_cases hlt : k < t.length
    · obtain ⟨A', c', e, hh⟩ := H1.out.below hb
      cases e
      obtain ⟨g1, o1, rfl, hg1, hat1⟩ := hh (by omega)
      obtain ⟨u1, hu1, hz1⟩ := hat1 k hlt
      obtain ⟨A'', c'', e, hh2⟩ := H2.out.below hb
      cases e
      obtain ⟨g2, o2, rfl, hg2, hat2⟩ := hh2 (by omega)
      obtain ⟨u2, hu2, hz2⟩ := hat2 k hlt
      have Z1 := Lib.hid hz1
      have Z2 := Lib.hid hz2
      have CE := Lib.hid (fun (p : BelowBy wr) => eqInt64S_same' u1 u2 t[k] p.W (Z1.out.below p.h) (Z2.out.below p.h) (HR.out _ (List.getElem_mem hlt)))
      have p0 := belowBy_cell hg1 hu1
      have q0 := belowBy_cell hg2 hu2
      clear hat1 hat2 hh hh2 hz1 hz2 hu1 hu2
      go_wp2
      refine wp_region_below (by kernel_rfl) (by kernel_rfl) ?_
      repeat (first | go_big_quiet_step ((go_at_call 11; exact calls_below (CE.out _))) | quiet_step ((go_at_call 11; exact calls_below (CE.out _))))
      refine wpQuiet_nil ?_
      rintro wq ⟨⟨_, hq⟩, rfl⟩
      clear p0 q0
      go_wp2
      go_roundw
      case rel => exact ⟨k + 1, by omega, by go_num, bnext hb hq⟩
      case measure => simp [intOf]; omega
    · obtain rfl : k = t.length := by omega
      go_wp2
      go_ret
      exact ⟨rfl, hb⟩

end Go.Proofs.Ytpamflkefgpdpaa
