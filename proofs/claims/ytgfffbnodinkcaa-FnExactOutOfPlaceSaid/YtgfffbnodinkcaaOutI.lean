/- The indices of the fewest books without which a list is sorted, by the program: a contract. Condition: no longer than a slice can be; numbers within their kinds. -/
import Derived.Test.YtgfffbnodinkcaaOutS
import Derived.Test.YtgfffbnodinkcaaKept
namespace Go.Proofs.Ytgfffbnodinkcaa
set_option linter.unusedSimpArgs false
set_option linter.unusedVariables false
set_option maxRecDepth 100000
open Go.RowKit

set_option maxHeartbeats 4000000 in
theorem outOfPlace_any (b o c : Nat) (xs : List Bk) (wf : ∀ b ∈ xs, b.Wf) (w : World) (hs : SliceOf w (.slice (some ⟨b, o, none⟩) xs.length c) xs) (hcap : xs.length ≤ c) (hm : xs.length ≤ maxLen) :
    Calls Try.prog 30 #[.slice (some ⟨b, o, none⟩) xs.length c] w fun e w' => ∃ u, e = .returned (.tuple #[u, .int .i64 (opC xs)]) ∧ w'.ownsRow w.heap.size 2 1 u (opR xs).length ((opR xs).map (Value.int .i64)) ∧ Below w.heap.size w w' := by
  have LO := Lib.hid (fun W (h : SliceOf W (.slice (some ⟨b, o, none⟩) xs.length c) xs) => validBooks_any _ xs W h hm)
  have LK := Lib.hid (fun (h60 : xs.length ≤ 60) W (h : SliceOf W (.slice (some ⟨b, o, none⟩) xs.length c) xs) => keptOf_any b o c xs wf W h hcap h60)
  have SL := Lib.hid hs
  have kl := keptL_len xs
  obtain ⟨i0, hi0, hz0, hz1, hz2⟩ := info_parts infoInt64
  clear hs wf
  cases hk : okB xs
  · have E0 := Lib.hid (show opR xs = [] by unfold opR; rw [hk]; rfl)
    have E1 := Lib.hid (show opC xs = 1 by unfold opC; rw [hk]; rfl)
    rw [hk] at LO
    go_enter Try.func30, Try.ntmps30
    go_wp2_with fail
    refine (LO.out _ SL.out).mono ?_
    rintro e w1 ⟨rfl, h1⟩
    go_wp2
    go_ret2
    exact ⟨_, by rw [E1.out]; rfl, by rw [E0.out]; exact ⟨rfl, .inl ⟨rfl, rfl⟩⟩, h1⟩
  · have E0 := Lib.hid (show opR xs = opL xs by unfold opR; rw [hk]; rfl)
    have E1 := Lib.hid (show opC xs = 0 by unfold opC; rw [hk]; rfl)
    have h60 : xs.length ≤ 60 := by unfold okB at hk; simp at hk; exact hk.2
    rw [hk] at LO
    clear hk
    rw [E0.out, E1.out]
    unfold opL
    clear E0 E1
    generalize keptL xs = ks at *
    have KM := Lib.hid (show ks.length ≤ maxLen by unfold maxLen; omega)
    clear kl
    go_enter Try.func30, Try.ntmps30
    go_wp2_with fail
    refine (LO.out _ SL.out).mono ?_
    rintro e w0 ⟨rfl, h0⟩
    have B0 := Lib.hid h0
    clear h0
    go_wp2_with fail
    refine (LK.out h60 _ (SL.out.below B0.out)).mono ?_
    rintro e w1 ⟨vk, rfl, ho, h1⟩
    have OK := Lib.hid (ownInts ho)
    have B1 := Lib.hid (bnext B0.out h1)
    have z1 := B1.out.size
    have O0 := Lib.hid (show w1.ownsRow w1.heap.size 2 1 (.slice none 0 0) (outTo ks 0).length ((outTo ks 0).map (Value.int .i64)) from ⟨rfl, .inl ⟨rfl, rfl⟩⟩)
    clear ho h1
    go_wp2
    go_loopw [5, 14] (fun v_ i_ wr => ∃ (v : Value) (k : Nat), v = v_ ∧ k ≤ xs.length ∧ i_ = .int .i64 (k : Int) ∧ wr.ownsRow w1.heap.size 2 1 v (outTo ks k).length ((outTo ks k).map (Value.int .i64)) ∧ Below w1.heap.size w1 wr) (fun _ i_ _ => xs.length - (intOf i_).toNat)
    case atStart => exact ⟨_, 0, rfl, Nat.zero_le _, rfl, O0.out, Below.refl _ _⟩
    case round =>
      obtain ⟨v, k, rfl, hk, rfl, hown, hb⟩ := hrel
      have OA := Lib.hid hown
      have HB := Lib.hid hb
      have L1 := out_len ks k
      have hsz := hb.size
      clear hown hb
      by_cases hlt : k < xs.length
      · have L2 := Lib.hid (fun W h => has64_any vk ks (k : Int) W h KM.out)
        cases hin : memB ks (k : Int)
        · have WN := Lib.hid (out_no hin)
          rw [hin] at L2
          clear hin
          go_wp2_with fail
          refine (L2.out _ (OK.out.below HB.out)).mono ?_
          rintro e w2 ⟨rfl, h2⟩
          have B2 := Lib.hid (bnext HB.out h2)
          have OB := Lib.hid (ownBelow OA.out h2)
          have z2 := B2.out.size
          clear h2
          go_wp2_with (at_builtin; refine wpList_append_own _ rfl (.tmp 21) (.tmp 23) _ rfl w1.heap.size 2 i0 (.int .i64 0) 1 8 Try.underlying22 hi0 hz0 hz1 hz2 rfl (by decide) _ _ _ rfl (OB.out.alloc _) ⟨w2.heap.size, 0, none⟩ 1 1 [.int .i64 (k : Int)] rfl rfl ?c1 ?c2 ?c3 ?c4 ?c5 ?_)
          case c1 => exact cell_one_new _ _ _
          case c2 => (intro u hu; simp at hu; subst hu; rfl)
          case c3 => (unfold maxLen; omega)
          case c4 => omega
          case c5 => (simp; omega)
          intro v' w4 hown' hgrow' _
          have OC := Lib.hid (show w4.ownsRow w1.heap.size 2 1 v' (outTo ks (k + 1)).length ((outTo ks (k + 1)).map (Value.int .i64)) by rw [WN.out, List.length_append, List.map_append]; exact hown')
          have B4 := Lib.hid ((B2.out.alloc z2 _).grown hgrow' (by simp; omega) (fun k hk => (OB.out.lt k hk).1))
          clear hown' hgrow'
          go_wp2
          go_roundw
          case rel => exact ⟨_, k + 1, rfl, by omega, by go_num, OC.out, B4.out⟩
          case measure => simp [intOf]; omega
        · have WY := Lib.hid (out_yes hin)
          rw [hin] at L2
          clear hin
          go_wp2_with fail
          refine (L2.out _ (OK.out.below HB.out)).mono ?_
          rintro e w2 ⟨rfl, h2⟩
          have B2 := Lib.hid (bnext HB.out h2)
          have OB := Lib.hid (ownBelow OA.out h2)
          clear h2
          go_wp2
          go_roundw
          case rel => exact ⟨_, k + 1, rfl, by omega, by go_num, by rw [WY.out]; exact OB.out, B2.out⟩
          case measure => simp [intOf]; omega
      · obtain rfl : k = xs.length := by omega
        go_wp2
        go_ret2
        exact ⟨_, rfl, ownMono OA.out z1, bnext B1.out HB.out⟩

end Go.Proofs.Ytgfffbnodinkcaa
