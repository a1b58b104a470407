/- Choices from the stream: contracts. Condition: a code of at most 1048576 bytes. -/
import Derived.Test.YtimojjkblofhnaaSrc
namespace Go.Proofs.Ytimojjkblofhnaa
set_option linter.unusedSimpArgs false
set_option linter.unusedVariables false
set_option maxRecDepth 100000
open Go.RowKit

section
variable {w : World} {cv : Value} {zs : List Int}
theorem gr_trans {a b c : World} {g : Nat} (h : a.grownBy b (some g)) (k : b.grownBy c (some g)) : a.grownBy c (some g) :=
  ⟨k.os.trans h.os, k.tape.trans h.tape, k.output.trans h.output, Nat.le_trans h.size k.size, fun b hb hne => (k.block b (Nat.lt_of_lt_of_le hb h.size) hne).trans (h.block b hb hne)⟩
set_option maxHeartbeats 2000000 in
theorem pick_any (hc : IntsOf .u8 w cv zs) (hb : ∀ z ∈ zs, 0 ≤ z ∧ z ≤ 255) (hl : zs.length ≤ 1048576) {g m : Nat} {W : World} (h : Src w W g cv m) (hm : m ≤ 1048000) (n : Int) (hn1 : 2 ≤ n) (hn2 : n ≤ 1048576) :
    Calls Try.prog 26 #[.pointer (some ⟨g, 0, none⟩), .int .i64 n] W fun e W' => ∃ z, e = .returned (.int .i64 z) ∧ (0 ≤ z ∧ z < n) ∧ Src w W' g cv (m + 2) ∧ W.grownBy W' (some g) := by
  have H := Lib.hid h
  have NX := Lib.hid (fun (m : Nat) (V : World) (h : Src w V g cv m) (hm : m ≤ 1048576) => next_any hc hb hl h hm)
  have h1 : ¬ n ≤ 1 := by omega
  clear h hc hb
  go_enter Try.func26, Try.ntmps26
  go_wp2_with fail
  refine (NX.out _ _ H.out (by omega)).mono ?_
  rintro e W1 ⟨z, rfl, ⟨z1, z2⟩, s1, g1⟩
  have S1 := Lib.hid s1
  have G1 := Lib.hid g1
  clear s1 g1
  by_cases h2 : (200 : Int) < n
  · go_wp2_with fail
    refine (NX.out _ _ S1.out (by omega)).mono ?_
    rintro e W2 ⟨y, rfl, ⟨y1, y2⟩, s2, g2⟩
    have S2 := Lib.hid s2
    have G2 := Lib.hid g2
    clear s2 g2
    have hp : 0 ≤ (z * 256 + y) % n ∧ (z * 256 + y) % n < n := ⟨Int.emod_nonneg _ (by omega), Int.emod_lt_of_pos _ (by omega)⟩
    have te : (z * 256 + y).tmod n = (z * 256 + y) % n := Int.tmod_eq_emod_of_nonneg (by omega)
    have HP := Lib.hid hp
    clear hp
    go_wp2
    go_ret
    exact ⟨_, rfl, by first | exact HP.out | (rw [te]; exact HP.out), S2.out, gr_trans G1.out G2.out⟩
  · have hp : 0 ≤ z % n ∧ z % n < n := ⟨Int.emod_nonneg _ (by omega), Int.emod_lt_of_pos _ (by omega)⟩
    have te : z.tmod n = z % n := Int.tmod_eq_emod_of_nonneg (by omega)
    have HP := Lib.hid hp
    clear hp
    go_wp2
    go_ret
    exact ⟨_, rfl, by first | exact HP.out | (rw [te]; exact HP.out), S1.out.more (by omega), G1.out⟩
end
theorem from_any (cv : Value) {A : Option Addr} {n c : Nat} (hcv : cv = .slice A n c) (w : World) :
    Calls Try.prog 17 #[cv] w fun e W => ∃ g, e = .returned (.pointer (some ⟨g, 0, none⟩)) ∧ Src w W g cv 0 := by
  subst hcv
  have B := Lib.hid (show Src w (w.alloc (.cells #[.slice A n c, .int .i64 0, .int .u64 0] 58)) w.heap.size (.slice A n c) 0 from ⟨(Below.refl _ _).alloc (Nat.le_refl _) _, Nat.le_refl _, 0, 0, heap_alloc_new w _, by omega, by omega⟩)
  go_enter Try.func17, Try.ntmps17
  go_wp2
  go_ret
  exact ⟨_, rfl, B.out⟩
end Go.Proofs.Ytimojjkblofhnaa
