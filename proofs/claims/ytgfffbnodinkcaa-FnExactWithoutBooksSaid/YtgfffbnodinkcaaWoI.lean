/- A list without the books with some indices, by the program: a contract. Condition: no longer than slices can be; numbers within their kinds. -/
import Derived.Test.YtgfffbnodinkcaaWkI
import Derived.Test.YtgfffbnodinkcaaWo
import Derived.Test.YtgfffbnodinkcaaFlB
namespace Go.Proofs.Ytgfffbnodinkcaa
set_option linter.unusedSimpArgs false
set_option linter.unusedVariables false
set_option maxRecDepth 100000
open Go.RowKit Go.Sort

set_option maxHeartbeats 8000000 in
theorem withoutBooks_any (v0 v1 : Value) (xs : List Bk) (wf : ∀ b ∈ xs, b.Wf) (zs : List Int) (w : World) (hs : SliceOf w v0 xs) (hz : IntsOf .i64 w v1 zs) (hm : xs.length ≤ maxLen) (hmz : zs.length ≤ maxLen) :
    Calls Try.prog 25 #[v0, v1] w fun e w' => ∃ u, e = .returned (.tuple #[u, .int .i64 (woC xs zs)]) ∧ ResB w' w.heap.size u (woR xs zs) ∧ Below w.heap.size w w' := by
  have LO := Lib.hid (fun W (h : SliceOf W v0 xs) => validBooks_any v0 xs W h hm)
  have LH := Lib.hid (fun W n (h : IntsOf .i64 W v1 zs) => has64_any v1 zs n W h hmz)
  have SL := Lib.hid hs
  have SZ := Lib.hid hz
  have HC := Lib.hid (wo_cases xs zs)
  obtain ⟨A, c, rfl, hs⟩ := hs
  have HS := Lib.hid hs
  obtain ⟨A1, c1, rfl, hz⟩ := hz
  have HZ := Lib.hid hz
  unfold maxLen at hmz
  obtain ⟨i0, hi0, hz0, hz1, hz2⟩ := info_parts infoBook
  have NEW := Lib.hid (fun (W : World) (base : Nat) => ResB.ofL (ys := []) (ResB.own0 W base) rfl)
  clear hs hz wf
  by_cases hok : okB xs = true
  · have h60 : xs.length ≤ 60 := by unfold okB at hok; simp at hok; exact hok.2
    have EB := Lib.hid (fun (h : risB xs.length 0 zs = false) => show woC xs zs = 2 ∧ woR xs zs = [] by
      rcases HC.out with ⟨h1, _⟩ | ⟨_, _, h2, h3⟩ | ⟨_, h1, _⟩
      · rw [hok] at h1; cases h1
      · exact ⟨h2, h3⟩
      · rw [h] at h1; cases h1)
    have EG := Lib.hid (fun (h : risB xs.length 0 zs = true) => show woC xs zs = 0 ∧ woR xs zs = woTo xs zs xs.length by
      rcases HC.out with ⟨h1, _⟩ | ⟨_, h1, _⟩ | ⟨_, _, h2, h3⟩
      · rw [hok] at h1; cases h1
      · rw [h] at h1; cases h1
      · exact ⟨h2, h3⟩)
    have R0 := Lib.hid (show risB xs.length 0 (zs.drop 0) = risB xs.length 0 zs from rfl)
    rw [hok] at LO
    clear hok HC
    go_enter Try.func25, Try.ntmps25
    go_wp2_with fail
    refine (LO.out _ SL.out).mono ?_
    rintro e w1 ⟨rfl, h1⟩
    have B1 := Lib.hid h1
    clear h1
    go_wp2
    go_loopw [6, 17] (fun l_ i_ wr => ∃ (k : Nat) (la : Int), k ≤ zs.length ∧ i_ = .int .i64 (k : Int) ∧ l_ = .int .i64 la ∧ (0 ≤ la ∧ la ≤ 61) ∧ risB xs.length la (zs.drop k) = risB xs.length 0 zs ∧ Below w.heap.size w wr) (fun _ i_ _ => zs.length - (intOf i_).toNat)
    case atStart => exact ⟨0, 0, Nat.zero_le _, rfl, rfl, by omega, R0.out, B1.out⟩
    case round =>
      obtain ⟨k, la, hk, rfl, rfl, hla, hr, hb⟩ := hrel
      have HR := Lib.hid hr
      have HB := Lib.hid hb
      obtain ⟨la1, la2⟩ := hla
      clear hr hb
      by_cases hlt : k < zs.length
      · obtain ⟨g, o, rfl, hg, hat⟩ := HZ.out (by omega)
        have p0 := hat.below HB.out hg k hlt
        have RS := Lib.hid (ris_step (n := xs.length) (low := la) hlt)
        have LI := Lib.hid (fun W => withinN_any zs[k] la ((xs.length : Int) - 1) W)
        clear hat
        cases hin : inB zs[k] la ((xs.length : Int) - 1)
        · have EE := Lib.hid (EB.out (by rw [← HR.out, RS.out, hin]; rfl))
          rw [hin] at LI
          clear hin
          go_wp2_with fail
          refine (LI.out _).mono ?_
          rintro e w' ⟨rfl, rfl⟩
          have NW := Lib.hid (NEW.out wr w.heap.size)
          have BN := Lib.hid HB.out
          go_wp2
          go_ret2
          exact ⟨_, by rw [EE.out.1]; rfl, by rw [EE.out.2]; exact NW.out, BN.out⟩
        · have hzb : la ≤ zs[k] ∧ zs[k] ≤ (xs.length : Int) - 1 := by simpa [inB] using hin
          have HN := Lib.hid (show risB xs.length (zs[k] + 1) (zs.drop (k + 1)) = risB xs.length 0 zs by rw [← HR.out, RS.out, hin]; rfl)
          rw [hin] at LI
          clear hin
          generalize zs[k] = z at *
          obtain ⟨hz1', hz2'⟩ := hzb
          go_wp2_with fail
          refine (LI.out _).mono ?_
          rintro e w' ⟨rfl, rfl⟩
          go_wp2
          go_roundw
          case rel => exact ⟨k + 1, z + 1, by omega, by go_num, rfl, by omega, HN.out, HB.out⟩
          case measure => simp [intOf]; omega
      · obtain rfl : k = zs.length := by omega
        have EE := Lib.hid (EG.out (by rw [← HR.out]; exact ris_end))
        have O0 := Lib.hid (show wr.ownsRow w.heap.size 49 8 (.slice none 0 0) (woTo xs zs 0).length (flB (woTo xs zs 0)) from ResB.own0 wr _)
        have BN := Lib.hid HB.out
        obtain ⟨wo, rfl⟩ : ∃ wo : World, wo = wr := ⟨_, rfl⟩
        go_wp2
        go_loopw [9, 33] (fun v_ i_ wr => ∃ (v : Value) (k : Nat), v = v_ ∧ k ≤ xs.length ∧ i_ = .int .i64 (k : Int) ∧ wr.ownsRow w.heap.size 49 8 v (woTo xs zs k).length (flB (woTo xs zs k)) ∧ Below w.heap.size w wr) (fun _ i_ _ => xs.length - (intOf i_).toNat)
        case atStart => exact ⟨_, 0, rfl, Nat.zero_le _, rfl, O0.out, BN.out⟩
        case round =>
          obtain ⟨v, k, rfl, hk, rfl, hown, hb⟩ := hrel
          have OA := Lib.hid hown
          have HB2 := Lib.hid hb
          have L1 := wo_len xs zs k
          have hsz := hb.size
          clear hown hb
          by_cases hlt : k < xs.length
          · obtain ⟨ga, oa, rfl, hga, hat⟩ := HS.out (by omega)
            obtain ⟨p0, p1, p2, p3, p4, p5, p6, p7⟩ := booksAt_some (hat.below HB2.out hga) hlt
            have WN0 := Lib.hid (fun h => wo_no (zs := zs) hlt h)
            clear hat
            generalize xs[k] = b at *
            have GX := Lib.hid (show Below wr.heap.size wr (wr.alloc (.cells #[.int .i16 b.c, .int .u8 b.m0, .int .u8 b.m1, .int .u8 b.m2, .int .i16 b.v, .int .i16 b.wi, .int .i16 b.hi, .int .i16 b.we] 49)) from (Below.refl _ _).alloc (Nat.le_refl _) _)
            have BX := Lib.hid (heap_alloc_new wr (.cells #[.int .i16 b.c, .int .u8 b.m0, .int .u8 b.m1, .int .u8 b.m2, .int .i16 b.v, .int .i16 b.wi, .int .i16 b.hi, .int .i16 b.we] 49))
            have LX := Lib.hid (show wr.heap.size < (wr.alloc (.cells #[.int .i16 b.c, .int .u8 b.m0, .int .u8 b.m1, .int .u8 b.m2, .int .i16 b.v, .int .i16 b.wi, .int .i16 b.hi, .int .i16 b.we] 49)).heap.size by simp)
            cases hin : memB zs (k : Int)
            · have WN := Lib.hid (WN0.out hin)
              have L2 := Lib.hid (fun W h => LH.out W (k : Int) h)
              rw [hin] at L2
              clear hin
              go_wp2_with fail
              generalize World.alloc wr _ = W1 at GX BX LX ⊢
              refine (L2.out _ (SZ.out.below (bnext HB2.out GX.out))).mono ?_
              rintro e w2 ⟨rfl, h2⟩
              have B2 := Lib.hid (bnext HB2.out (bnext GX.out h2))
              have OB := Lib.hid (ownBelow OA.out (bnext GX.out h2))
              have hbx := (h2.block _ LX.out).trans BX.out
              clear p0 p1 p2 p3 p4 p5 p6 p7
              have q0 : w2.cell? ⟨wr.heap.size, 0, none⟩ = some (.int .i16 b.c) := cell_of_row w2 _ 0 _ _ _ hbx
              have q1 : w2.cell? ⟨wr.heap.size, 1, none⟩ = some (.int .u8 b.m0) := cell_of_row w2 _ 1 _ _ _ hbx
              have q2 : w2.cell? ⟨wr.heap.size, 2, none⟩ = some (.int .u8 b.m1) := cell_of_row w2 _ 2 _ _ _ hbx
              have q3 : w2.cell? ⟨wr.heap.size, 3, none⟩ = some (.int .u8 b.m2) := cell_of_row w2 _ 3 _ _ _ hbx
              have q4 : w2.cell? ⟨wr.heap.size, 4, none⟩ = some (.int .i16 b.v) := cell_of_row w2 _ 4 _ _ _ hbx
              have q5 : w2.cell? ⟨wr.heap.size, 5, none⟩ = some (.int .i16 b.wi) := cell_of_row w2 _ 5 _ _ _ hbx
              have q6 : w2.cell? ⟨wr.heap.size, 6, none⟩ = some (.int .i16 b.hi) := cell_of_row w2 _ 6 _ _ _ hbx
              have q7 : w2.cell? ⟨wr.heap.size, 7, none⟩ = some (.int .i16 b.we) := cell_of_row w2 _ 7 _ _ _ hbx
              clear hbx
              have z2 := B2.out.size
              clear h2
              go_wp2_with (at_builtin; refine wpList_append_own _ rfl (.tmp 42) (.tmp 44) _ rfl w.heap.size 49 i0 (.agg #[.int .i16 0, .int .u8 0, .int .u8 0, .int .u8 0, .int .i16 0, .int .i16 0, .int .i16 0, .int .i16 0]) 8 14 Try.underlying32 hi0 hz0 hz1 hz2 rfl (by decide) _ _ _ rfl (OB.out.alloc _) ⟨w2.heap.size, 0, none⟩ 1 1 [.int .i16 b.c, .int .u8 b.m0, .int .u8 b.m1, .int .u8 b.m2, .int .i16 b.v, .int .i16 b.wi, .int .i16 b.hi, .int .i16 b.we] rfl rfl (cell8_new _ _ _ _ _ _ _ _ _ _) (one8 b) (by unfold maxLen; omega) (by omega) (by simp; omega) ?_)
              intro v' w4 hown' hgrow' _
              have OC := Lib.hid (show w4.ownsRow w.heap.size 49 8 v' (woTo xs zs (k + 1)).length (flB (woTo xs zs (k + 1))) by rw [WN.out, flB_snoc, List.length_append]; exact hown')
              have B4 := Lib.hid ((B2.out.alloc z2 _).grown hgrow' (by simp; omega) (fun k hk => (OB.out.lt k hk).1))
              clear hown' hgrow'
              go_wp2
              go_roundw
              case rel => exact ⟨_, k + 1, rfl, by omega, by go_num, OC.out, B4.out⟩
              case measure => simp [intOf]; omega
            · have WY := Lib.hid (wo_yes (xs := xs) hin)
              have L2 := Lib.hid (fun W h => LH.out W (k : Int) h)
              rw [hin] at L2
              clear hin
              go_wp2_with fail
              generalize World.alloc wr _ = W1 at GX BX LX ⊢
              refine (L2.out _ (SZ.out.below (bnext HB2.out GX.out))).mono ?_
              rintro e w2 ⟨rfl, h2⟩
              have B2 := Lib.hid (bnext HB2.out (bnext GX.out h2))
              have OB := Lib.hid (ownBelow OA.out (bnext GX.out h2))
              have hbx := (h2.block _ LX.out).trans BX.out
              clear p0 p1 p2 p3 p4 p5 p6 p7
              have q0 : w2.cell? ⟨wr.heap.size, 0, none⟩ = some (.int .i16 b.c) := cell_of_row w2 _ 0 _ _ _ hbx
              have q1 : w2.cell? ⟨wr.heap.size, 1, none⟩ = some (.int .u8 b.m0) := cell_of_row w2 _ 1 _ _ _ hbx
              have q2 : w2.cell? ⟨wr.heap.size, 2, none⟩ = some (.int .u8 b.m1) := cell_of_row w2 _ 2 _ _ _ hbx
              have q3 : w2.cell? ⟨wr.heap.size, 3, none⟩ = some (.int .u8 b.m2) := cell_of_row w2 _ 3 _ _ _ hbx
              have q4 : w2.cell? ⟨wr.heap.size, 4, none⟩ = some (.int .i16 b.v) := cell_of_row w2 _ 4 _ _ _ hbx
              have q5 : w2.cell? ⟨wr.heap.size, 5, none⟩ = some (.int .i16 b.wi) := cell_of_row w2 _ 5 _ _ _ hbx
              have q6 : w2.cell? ⟨wr.heap.size, 6, none⟩ = some (.int .i16 b.hi) := cell_of_row w2 _ 6 _ _ _ hbx
              have q7 : w2.cell? ⟨wr.heap.size, 7, none⟩ = some (.int .i16 b.we) := cell_of_row w2 _ 7 _ _ _ hbx
              clear hbx
              clear h2
              go_wp2
              go_roundw
              case rel => exact ⟨_, k + 1, rfl, by omega, by go_num, by rw [WY.out]; exact OB.out, B2.out⟩
              case measure => simp [intOf]; omega
          · obtain rfl : k = xs.length := by omega
            go_wp2
            go_ret2
            exact ⟨_, by rw [EE.out.1]; rfl, by rw [EE.out.2]; exact ResB.ofL OA.out rfl, HB2.out⟩
  · have hok : okB xs = false := by simpa using hok
    have E : woC xs zs = 1 ∧ woR xs zs = [] := by
      rcases HC.out with ⟨_, h2, h3⟩ | ⟨h1, _⟩ | ⟨h1, _⟩
      · exact ⟨h2, h3⟩
      · rw [hok] at h1; cases h1
      · rw [hok] at h1; cases h1
    obtain ⟨E1, E2⟩ := E
    rw [hok] at LO
    rw [E1, E2]
    clear hok E1 E2 HC
    go_enter Try.func25, Try.ntmps25
    go_wp2_with fail
    refine (LO.out _ SL.out).mono ?_
    rintro e w1 ⟨rfl, h1⟩
    have NW := Lib.hid (NEW.out w1 w.heap.size)
    have BN := Lib.hid h1
    clear h1
    go_wp2
    go_ret2
    exact ⟨_, rfl, NW.out, BN.out⟩

end Go.Proofs.Ytgfffbnodinkcaa
