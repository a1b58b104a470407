/- The check digit, by the model: a contract. Condition: the eight characters are digits or small letters. -/
import Derived.Test.YtimojjkblofhnaaLabC
namespace Go.Proofs.Ytimojjkblofhnaa
set_option linter.unusedSimpArgs false
set_option linter.unusedVariables false
set_option maxRecDepth 100000
open Go.RowKit

set_option maxHeartbeats 4000000 in
theorem l07Check_any (T : ByteArray) (l : List Int) (h8 : l.length = 8) (hT : ∀ k (hk : k < l.length), ∃ hz : k < T.size, ((T[k]'hz).toNat : Int) = l[k]) (hl : ∀ z ∈ l, GoodZ z) (w : World) :
    Calls Try.prog 39 #[.string T] w fun e w' => e = .returned (.int .u8 (chk l)) ∧ Below w.heap.size w w' := by
  have HT := Lib.hid hT
  have HL := Lib.hid hl
  have GX := Lib.hid (show Below w.heap.size w (w.alloc (.cells #[.int .i64 1, .int .i64 3, .int .i64 7, .int .i64 9] 72)) from (Below.refl _ _).alloc (Nat.le_refl _) _)
  have BX := Lib.hid (heap_alloc_new w (.cells #[.int .i64 1, .int .i64 3, .int .i64 7, .int .i64 9] 72))
  have YX := Lib.hid (show w.heap.size < (w.alloc (.cells #[.int .i64 1, .int .i64 3, .int .i64 7, .int .i64 9] 72)).heap.size by simp)
  clear hT hl
  go_enter Try.func39, Try.ntmps39
  go_upto_region 2 with (fail)
  generalize World.alloc w _ = W1 at GX BX YX ⊢
  go_wp2
  go_loopw [4, 5] (fun s_ i_ wr => ∃ (k : Nat) (s : Int), k ≤ l.length ∧ i_ = .int .i64 (k : Int) ∧ s_ = .int .i64 s ∧ s = sumF l k ∧ Below W1.heap.size W1 wr) (fun _ i_ _ => 8 - (intOf i_).toNat)
  case atStart => exact ⟨0, 0, Nat.zero_le _, rfl, rfl, rfl, Below.refl _ _⟩
  case round =>
    obtain ⟨k, s, hk, rfl, rfl, hsum, hb⟩ := hrel
    have HB := Lib.hid hb
    have HS2 := Lib.hid hsum
    have sb := sumF_bd l k
    rw [← hsum] at sb
    obtain ⟨sb1, sb2⟩ := sb
    clear hb hsum
    by_cases hlt : k < 8
    · have hlt' : k < l.length := by omega
      obtain ⟨hzT, hzE⟩ := HT.out k hlt'
      have fz := facAt4 ((HB.out.block _ YX.out).trans BX.out) k (by omega)
      have f0 := belowBy_cell (Nat.lt_of_lt_of_le YX.out HB.out.size) fz
      have gz := HL.out _ (List.getElem_mem hlt')
      have SS := Lib.hid (show sumF l (k + 1) = sumF l k + facW.getD k 0 * valB l[k] by rw [sumF, show l.getD k 0 = l[k] by simp [List.getD, List.getElem?_eq_getElem hlt']])
      have zb : 0 ≤ l[k] ∧ l[k] ≤ 255 := by unfold GoodZ at gz; omega
      have VO := Lib.hid (fun (p : BelowBy wr) => l07Value_any l[k] zb p.W)
      rw [valS_good gz] at VO
      have ZE := Lib.hid hzE
      have fb := facW_bd k
      have vb := valB_bd l[k]
      have mb := mul_le9 fb vb
      generalize facW.getD k 0 = fa at *
      generalize valB l[k] = va at *
      rw [← hzE] at VO
      obtain ⟨m1, m2⟩ := mb
      have hmul : IntKind.i64.wrap (va * fa) = fa * va := by rw [Int.mul_comm]; exact IntWalk.i64_in _ (by omega)
      have hadd : IntKind.i64.wrap (s + fa * va) = s + fa * va := IntWalk.i64_in _ (by omega)
      clear zb m1 m2 fz gz hzE
      go_wp2
      refine wp_region_below (by kernel_rfl) (by kernel_rfl) ?_
      iterate 12 (first | go_big_quiet_step ((go_at_call 43; with_reducible exact calls_same_below (VO.out _))) | quiet_step ((go_at_call 43; with_reducible exact calls_same_below (VO.out _))))
      refine wpQuiet_nil ?_
      rintro w2 ⟨⟨_, hq⟩, rfl⟩
      have B2 := Lib.hid (HB.out.trans (hq.mono HB.out.size))
      clear f0 hq VO
      go_wp2
      go_roundw
      case rel => exact ⟨k + 1, s + fa * va, by omega, by go_num, rfl, by rw [SS.out, HS2.out], B2.out⟩
      case measure => simp [intOf]; omega
    · obtain rfl : k = l.length := by omega
      have E := Lib.hid (show 48 + s % 10 = chk l by unfold chk; rw [HS2.out])
      go_wp2
      go_ret
      exact ⟨by show Ending.returned (Value.int .u8 (48 + s % 10)) = _; rw [E.out], bnext GX.out HB.out⟩
end Go.Proofs.Ytimojjkblofhnaa
