/- The indices of the fewest books without which a list is sorted, by the model: contracts. Condition: no longer than a slice can be; numbers within their kinds. -/
import Derived.Test.YtgfffbnodinkcabDoorWo
import Derived.Test.YtgfffbnodinkcabDoorSpecKept
namespace Go.Proofs.YtgfffbnodinkcabDoor
set_option linter.unusedSimpArgs false
set_option linter.unusedVariables false
set_option maxRecDepth 100000
open Go.RowKit

def opL (xs : List Bk) : List Int := outTo (keptL xs) xs.length
def opR (xs : List Bk) : List Int := if okB xs then opL xs else []
def opC (xs : List Bk) : Int := if okB xs then 0 else 1
theorem opL_len (xs : List Bk) : (opL xs).length ≤ xs.length := out_len _ _
theorem opR_len (xs : List Bk) : (opR xs).length ≤ xs.length := by
  unfold opR
  split
  · exact opL_len xs
  · exact Nat.zero_le _

set_option maxHeartbeats 4000000 in
theorem l07Out_any (v0 : Value) (xs : List Bk) (wf : ∀ b ∈ xs, b.Wf) (w : World) (hs : SliceOf w v0 xs) (h60 : xs.length ≤ 60) :
    Calls Tryd.prog 40 #[v0] w fun e w' => ∃ u, e = .returned u ∧ w'.ownsRow w.heap.size 2 1 u (opL xs).length ((opL xs).map (Value.int .i64)) ∧ Below w.heap.size w w' := by
  have LK := Lib.hid (fun W (h : SliceOf W v0 xs) => l03Kept_any v0 xs wf W h h60)
  have SL := Lib.hid hs
  have kl := keptL_len xs
  obtain ⟨i0, hi0, hz0, hz1, hz2⟩ := info_parts infoInt64
  obtain ⟨A, c, rfl, -⟩ := hs
  clear wf
  unfold opL
  generalize keptL xs = ks at *
  have KM := Lib.hid (show ks.length ≤ maxLen by unfold maxLen; omega)
  clear kl
  go_enter Tryd.func40, Tryd.ntmps40
  go_wp2_with fail
  refine (LK.out _ SL.out).mono ?_
  rintro e w1 ⟨vk, rfl, ho, h1⟩
  have OK := Lib.hid (ownInts ho)
  have B1 := Lib.hid h1
  have z1 := h1.size
  have O0 := Lib.hid (show (w1.alloc (.cells #[] 2)).ownsRow w1.heap.size 2 1 (.slice (some ⟨w1.heap.size, 0, none⟩) 0 0) (outTo ks 0).length ((outTo ks 0).map (Value.int .i64)) from
    ⟨rfl, .inr ⟨w1.heap.size, 0, #[], rfl, Nat.le_refl _, heap_alloc_new w1 _, Nat.le_refl _, Nat.zero_le _, rfl, rfl⟩⟩)
  have BN1 := Lib.hid (show Below w1.heap.size w1 (w1.alloc (.cells #[] 2)) from (Below.refl _ _).alloc (Nat.le_refl _) _)
  clear ho h1
  go_wp2
  go_loopw [4, 5] (fun v_ i_ wr => ∃ (v : Value) (k : Nat), v = v_ ∧ k ≤ xs.length ∧ i_ = .int .i64 (k : Int) ∧ wr.ownsRow w1.heap.size 2 1 v (outTo ks k).length ((outTo ks k).map (Value.int .i64)) ∧ Below w1.heap.size w1 wr) (fun _ i_ _ => xs.length - (intOf i_).toNat)
  case atStart => exact ⟨_, 0, rfl, Nat.zero_le _, rfl, O0.out, BN1.out⟩
  case round =>
    obtain ⟨v, k, rfl, hk, rfl, hown, hb⟩ := hrel
    have OA := Lib.hid hown
    have HB := Lib.hid hb
    have L1 := out_len ks k
    have hsz := hb.size
    clear hown hb
    by_cases hlt : k < xs.length
    · have L2 := Lib.hid (fun W h => l00Has_any vk ks (k : Int) W h KM.out)
      cases hin : memB ks (k : Int)
      · have WN := Lib.hid (out_no hin)
        rw [hin] at L2
        clear hin
        go_wp2_with fail
        refine (L2.out _ (OK.out.below HB.out)).mono ?_
        rintro e w2 ⟨rfl, h2⟩
        have B2 := Lib.hid (bnext HB.out h2)
        have OB := Lib.hid (ownBelow OA.out h2)
        have z2 := B2.out.size
        clear h2
        go_wp2_with (at_builtin; refine wpList_append_own _ rfl (.tmp 19) (.tmp 21) _ rfl w1.heap.size 2 i0 (.int .i64 0) 1 8 Tryd.underlying41 hi0 hz0 hz1 hz2 rfl (by decide) _ _ _ rfl (OB.out.alloc _) ⟨w2.heap.size, 0, none⟩ 1 1 [.int .i64 (k : Int)] rfl rfl ?c1 ?c2 ?c3 ?c4 ?c5 ?_)
        case c1 => exact cell_one_new _ _ _
        case c2 => (intro u hu; simp at hu; subst hu; rfl)
        case c3 => (unfold maxLen; omega)
        case c4 => omega
        case c5 => (simp; omega)
        intro v' w4 hown' hgrow' _
        have OC := Lib.hid (show w4.ownsRow w1.heap.size 2 1 v' (outTo ks (k + 1)).length ((outTo ks (k + 1)).map (Value.int .i64)) by rw [WN.out, List.length_append, List.map_append]; exact hown')
        have B4 := Lib.hid ((B2.out.alloc z2 _).grown hgrow' (by simp; omega) (fun k hk => (OB.out.lt k hk).1))
        clear hown' hgrow'
        go_wp2
        go_roundw
        case rel => exact ⟨_, k + 1, rfl, by omega, by go_num, OC.out, B4.out⟩
        case measure => simp [intOf]; omega
      · have WY := Lib.hid (out_yes hin)
        rw [hin] at L2
        clear hin
        go_wp2_with fail
        refine (L2.out _ (OK.out.below HB.out)).mono ?_
        rintro e w2 ⟨rfl, h2⟩
        have B2 := Lib.hid (bnext HB.out h2)
        have OB := Lib.hid (ownBelow OA.out h2)
        clear h2
        go_wp2
        go_roundw
        case rel => exact ⟨_, k + 1, rfl, by omega, by go_num, by rw [WY.out]; exact OB.out, B2.out⟩
        case measure => simp [intOf]; omega
    · obtain rfl : k = xs.length := by omega
      go_wp2
      go_ret
      exact ⟨_, rfl, ownMono OA.out z1, bnext B1.out HB.out⟩

end Go.Proofs.YtgfffbnodinkcabDoor
