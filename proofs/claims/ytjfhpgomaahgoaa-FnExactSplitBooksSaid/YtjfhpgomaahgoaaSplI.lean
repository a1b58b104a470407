/- The books that are at most so high, and the others, by the program: a contract. Condition: lists no longer than can be, whose numbers lie within their kinds. -/
import Derived.Test.YtjfhpgomaahgoaaSpl
namespace Go.Proofs.Ytjfhpgomaahgoaa
set_option linter.unusedSimpArgs false
set_option linter.unusedVariables false
set_option maxRecDepth 100000
open Go.RowKit Go.Sort

theorem dj_none (v : Value) : Dj (.slice none 0 0) v := fun k hk => by cases hk

set_option maxHeartbeats 8000000 in
theorem splitBooks_any (v0 : Value) (xs : List Bk) (wf : ∀ b ∈ xs, b.Wf) (h : Int) (w : World) (hs : SliceOf w v0 xs) (hm : xs.length ≤ maxLen) :
    Calls Try.prog 29 #[v0, .int .i64 h] w fun e w' => ∃ u v, e = .returned (.tuple #[u, v, .int .i64 (spC xs h)]) ∧ ResB w' w.heap.size u (spA xs h) ∧ ResB w' w.heap.size v (spB xs h) ∧ Dj u v ∧ Below w.heap.size w w' := by
  have HS := Lib.hid hs
  have WF := Lib.hid wf
  obtain ⟨A0, k0, rfl, hat0⟩ := hs
  have HA := Lib.hid hat0
  clear wf hat0
  rcases sp_cases xs h with ⟨h1, h2, h3, h4⟩ | ⟨h1, h2, h3, h4, h5⟩ | ⟨h1, h2, h3, h4, h5⟩
  · have E1 := Lib.hid h2
    have E2 := Lib.hid h3
    have E3 := Lib.hid h4
    clear h2 h3 h4
    go_enter Try.func29, Try.ntmps29
    go_wp2_with fail
    refine (validBooks_any _ xs _ HS.out hm).mono ?_
    rintro e w1 ⟨rfl, g1⟩
    rw [h1]
    go_wp2
    go_ret3
    exact ⟨_, _, by rw [E3.out]; rfl, by rw [E1.out]; exact .inl ⟨rfl, rfl⟩, by rw [E2.out]; exact .inl ⟨rfl, rfl⟩, dj_none _, g1⟩
  · have E1 := Lib.hid h3
    have E2 := Lib.hid h4
    have E3 := Lib.hid h5
    clear h3 h4 h5
    go_enter Try.func29, Try.ntmps29
    go_wp2_with fail
    refine (validBooks_any _ xs _ HS.out hm).mono ?_
    rintro e w1 ⟨rfl, g1⟩
    rw [h1]
    go_wp2_with fail
    refine (w16_any _ _ _ _).mono ?_
    rintro e w' ⟨rfl, rfl⟩
    rw [h2]
    go_wp2
    go_ret3
    exact ⟨_, _, by rw [E3.out]; rfl, by rw [E1.out]; exact .inl ⟨rfl, rfl⟩, by rw [E2.out]; exact .inl ⟨rfl, rfl⟩, dj_none _, g1⟩
  · have E1 := Lib.hid h3
    have E2 := Lib.hid h4
    have E3 := Lib.hid h5
    have hn60 : xs.length ≤ 60 := by unfold okB at h1; simp at h1; exact h1.2
    obtain ⟨i0, hi0, hz0, hz1, hz2⟩ := info_parts infoBook
    clear h3 h4 h5
    go_enter Try.func29, Try.ntmps29
    go_wp2_with fail
    refine (validBooks_any _ xs _ HS.out hm).mono ?_
    rintro e w1 ⟨rfl, g1⟩
    rw [h1]
    go_wp2_with fail
    refine (w16_any _ _ _ _).mono ?_
    rintro e w' ⟨rfl, rfl⟩
    rw [h2]
    have O1 := Lib.hid (show w1.ownsRow w.heap.size 61 8 (.slice none 0 0) (loF xs h 0).length (flB (loF xs h 0)) from ⟨rfl, .inl ⟨rfl, rfl⟩⟩)
    have O2 := Lib.hid (show w1.ownsRow w.heap.size 61 8 (.slice none 0 0) (otF xs h 0).length (flB (otF xs h 0)) from ⟨rfl, .inl ⟨rfl, rfl⟩⟩)
    have G1 := Lib.hid g1
    clear g1 h1 h2
    go_wp2
    go_loopw [7, 8, 19] (fun a_ b_ i_ wr => ∃ (va vb : Value) (i : Nat), va = a_ ∧ vb = b_ ∧ i ≤ xs.length ∧ i_ = .int .i64 (i : Int) ∧ wr.ownsRow w.heap.size 61 8 va (loF xs h i).length (flB (loF xs h i)) ∧ wr.ownsRow w.heap.size 61 8 vb (otF xs h i).length (flB (otF xs h i)) ∧ Dj va vb ∧ Below w.heap.size w wr) (fun _ _ i_ _ => xs.length - (intOf i_).toNat)
    case atStart => exact ⟨_, _, 0, rfl, rfl, Nat.zero_le _, rfl, O1.out, O2.out, dj_none _, G1.out⟩
    case round =>
      obtain ⟨va, vb, i, rfl, rfl, hi, rfl, ho1, ho2, hdj, hb⟩ := hrel
      have OA := Lib.hid ho1
      have OB := Lib.hid ho2
      have DJ := Lib.hid hdj
      have HB := Lib.hid hb
      have L1 := loF_len xs h i
      have L2 := otF_len xs h i
      have hsz := hb.size
      clear ho1 ho2 hdj hb
      by_cases hlt : i < xs.length
      · obtain ⟨ga, oa, rfl, hga, hat⟩ := HA.out (by omega)
        obtain ⟨p0, p1, p2, p3, p4, p5, p6, p7⟩ := booksAt_some (hat.below HB.out hga) hlt
        have CC := Lib.hid (fun W => highKeyP_any xs[i] (WF.out _ (List.getElem_mem hlt)) W)
        have SY := Lib.hid (fun hd => split_yes (h := h) hlt hd)
        have SN := Lib.hid (fun hd => split_no (h := h) hlt hd)
        clear hat
        generalize xs[i] = b at *
        go_wp2_with fail
        refine (CC.out _).mono ?_
        rintro e w3 ⟨rfl, g3⟩
        clear p0 p1 p2 p3 p4 p5 p6 p7
        have hbx : w3.heap[wr.heap.size]? = some (.cells #[.int .i16 b.c, .int .u8 b.m0, .int .u8 b.m1, .int .u8 b.m2, .int .i16 b.v, .int .i16 b.wi, .int .i16 b.hi, .int .i16 b.we] 61 (0, 0)) := (g3.block _ (by simp)).trans (heap_alloc_new wr _)
        have q0 : w3.cell? ⟨wr.heap.size, 0, none⟩ = some (.int .i16 b.c) := cell_of_row w3 _ 0 _ _ _ hbx
        have q1 : w3.cell? ⟨wr.heap.size, 1, none⟩ = some (.int .u8 b.m0) := cell_of_row w3 _ 1 _ _ _ hbx
        have q2 : w3.cell? ⟨wr.heap.size, 2, none⟩ = some (.int .u8 b.m1) := cell_of_row w3 _ 2 _ _ _ hbx
        have q3 : w3.cell? ⟨wr.heap.size, 3, none⟩ = some (.int .u8 b.m2) := cell_of_row w3 _ 3 _ _ _ hbx
        have q4 : w3.cell? ⟨wr.heap.size, 4, none⟩ = some (.int .i16 b.v) := cell_of_row w3 _ 4 _ _ _ hbx
        have q5 : w3.cell? ⟨wr.heap.size, 5, none⟩ = some (.int .i16 b.wi) := cell_of_row w3 _ 5 _ _ _ hbx
        have q6 : w3.cell? ⟨wr.heap.size, 6, none⟩ = some (.int .i16 b.hi) := cell_of_row w3 _ 6 _ _ _ hbx
        have q7 : w3.cell? ⟨wr.heap.size, 7, none⟩ = some (.int .i16 b.we) := cell_of_row w3 _ 7 _ _ _ hbx
        have G3 := bnew _ g3
        have OA := Lib.hid (ownBelow OA.out G3)
        have OB := Lib.hid (ownBelow OB.out G3)
        have HB := Lib.hid (bnext HB.out G3)
        have hsz3 := HB.out.size
        clear hbx g3 G3 CC
        by_cases hd : b.hi ≤ h
        · have hdd : decide (b.hi ≤ h) = true := by simpa using hd
          have SY := Lib.hid (SY.out hd)
          go_wp2_with (at_builtin; refine wpList_append_own_at _ rfl (.tmp 27) (.tmp 29) _ rfl w.heap.size 61 i0 (.agg #[.int .i16 0, .int .u8 0, .int .u8 0, .int .u8 0, .int .i16 0, .int .i16 0, .int .i16 0, .int .i16 0]) 8 14 Try.underlying41 hi0 hz0 hz1 hz2 rfl (by decide) _ _ _ rfl (OA.out.alloc _) ⟨w3.heap.size, 0, none⟩ 1 1 [.int .i16 b.c, .int .u8 b.m0, .int .u8 b.m1, .int .u8 b.m2, .int .i16 b.v, .int .i16 b.wi, .int .i16 b.hi, .int .i16 b.we] rfl rfl (cell8_new _ _ _ _ _ _ _ _ _ _) (one8 b) (by unfold maxLen; omega) (by omega) (by simp; omega) ?_)
          intro v' w4 hown' hgrow' _ hblk
          have ha : Below w3.heap.size w3 (w3.alloc (.cells #[.int .i16 b.c, .int .u8 b.m0, .int .u8 b.m1, .int .u8 b.m2, .int .i16 b.v, .int .i16 b.wi, .int .i16 b.hi, .int .i16 b.we] 61)) := (Below.refl _ _).alloc (Nat.le_refl _) _
          have OA2 := Lib.hid (show w4.ownsRow w.heap.size 61 8 v' (loF xs h (i + 1)).length (flB (loF xs h (i + 1))) by rw [SY.out.1, flB_snoc, List.length_append]; exact hown')
          have OB2 := Lib.hid (show w4.ownsRow w.heap.size 61 8 vb (otF xs h (i + 1)).length (flB (otF xs h (i + 1))) by rw [SY.out.2]; exact ownOther (ownBelow OB.out ha) hgrow' (fun k hk e => DJ.out k e.symm hk))
          have DJ2 := Lib.hid (show Dj v' vb by
            intro k hk e
            rcases hblk with hb2 | hb2
            · exact DJ.out k (hb2.symm.trans hk) e
            · have := (OB.out.lt k e).2
              rw [hb2] at hk
              have : w3.heap.size + 1 = k := by injection hk
              omega)
          have HB2 := Lib.hid ((bnext HB.out ha).grown hgrow' (bnext HB.out ha).size (fun k hk => (OA.out.lt k hk).1))
          clear hown' hgrow' hblk ha
          go_wp2
          go_roundw
          case rel => exact ⟨_, _, i + 1, rfl, rfl, by omega, by go_num, OA2.out, OB2.out, DJ2.out, HB2.out⟩
          case measure => simp [intOf]; omega
        · have hdd : decide (b.hi ≤ h) = false := by simpa using hd
          have SY := Lib.hid (SN.out (by omega))
          go_wp2_with (at_builtin; refine wpList_append_own_at _ rfl (.tmp 31) (.tmp 33) _ rfl w.heap.size 61 i0 (.agg #[.int .i16 0, .int .u8 0, .int .u8 0, .int .u8 0, .int .i16 0, .int .i16 0, .int .i16 0, .int .i16 0]) 8 14 Try.underlying41 hi0 hz0 hz1 hz2 rfl (by decide) _ _ _ rfl (OB.out.alloc _) ⟨w3.heap.size, 0, none⟩ 1 1 [.int .i16 b.c, .int .u8 b.m0, .int .u8 b.m1, .int .u8 b.m2, .int .i16 b.v, .int .i16 b.wi, .int .i16 b.hi, .int .i16 b.we] rfl rfl (cell8_new _ _ _ _ _ _ _ _ _ _) (one8 b) (by unfold maxLen; omega) (by omega) (by simp; omega) ?_)
          intro v' w4 hown' hgrow' _ hblk
          have ha : Below w3.heap.size w3 (w3.alloc (.cells #[.int .i16 b.c, .int .u8 b.m0, .int .u8 b.m1, .int .u8 b.m2, .int .i16 b.v, .int .i16 b.wi, .int .i16 b.hi, .int .i16 b.we] 61)) := (Below.refl _ _).alloc (Nat.le_refl _) _
          have OA2 := Lib.hid (show w4.ownsRow w.heap.size 61 8 va (loF xs h (i + 1)).length (flB (loF xs h (i + 1))) by rw [SY.out.1]; exact ownOther (ownBelow OA.out ha) hgrow' (fun k hk e => DJ.out k hk e.symm))
          have OB2 := Lib.hid (show w4.ownsRow w.heap.size 61 8 v' (otF xs h (i + 1)).length (flB (otF xs h (i + 1))) by rw [SY.out.2, flB_snoc, List.length_append]; exact hown')
          have DJ2 := Lib.hid (show Dj va v' by
            intro k hk e
            rcases hblk with hb2 | hb2
            · exact DJ.out k hk (hb2.symm.trans e)
            · have := (OA.out.lt k hk).2
              rw [hb2] at e
              have : w3.heap.size + 1 = k := by injection e
              omega)
          have HB2 := Lib.hid ((bnext HB.out ha).grown hgrow' (bnext HB.out ha).size (fun k hk => (OB.out.lt k hk).1))
          clear hown' hgrow' hblk ha
          go_wp2
          go_roundw
          case rel => exact ⟨_, _, i + 1, rfl, rfl, by omega, by go_num, OA2.out, OB2.out, DJ2.out, HB2.out⟩
          case measure => simp [intOf]; omega
      · obtain rfl : i = xs.length := by omega
        go_wp2
        go_ret3
        exact ⟨_, _, by rw [E3.out]; rfl, by rw [E1.out]; exact ResB.ofL OA.out rfl, by rw [E2.out]; exact ResB.ofL OB.out rfl, DJ.out, HB.out⟩

end Go.Proofs.Ytjfhpgomaahgoaa
