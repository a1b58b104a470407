/- Several moves of a list, by the model: contracts. Condition: lists no longer than the law tests. -/
import Derived.Test.YtkclobdealnkhaaDoorMb2
namespace Go.Proofs.YtkclobdealnkhaaDoor
set_option linter.unusedSimpArgs false
set_option linter.unusedVariables false
set_option maxRecDepth 100000
open Go.RowKit Go.Sort

theorem mvTo_succ {xs : List Bk} {ms : List Mv} {k : Nat} (hk : k < ms.length) {f t : Nat} (ef : ms[k].f = f) (et : ms[k].t = t) : mvTo xs ms (k + 1) = carL (mvTo xs ms k) f 1 t := by
  rw [mvTo, mv_getD hk, ef, et]
  rfl
set_option maxHeartbeats 8000000 in
theorem l03All_any (b o c : Nat) (xs : List Bk) (v : Value) (ms : List Mv) (wf : ∀ b ∈ xs, b.Wf) (wm : ∀ m ∈ ms, m.Wf) (w : World) (hs : SliceOf w (.slice (some ⟨b, o, none⟩) xs.length c) xs) (hm : MovesOf w v ms) (hn : xs.length ≤ 1048576) (ml : xs.length ≤ maxLen) (mm : ms.length ≤ maxLen) :
    Calls Tryd.prog 39 #[.slice (some ⟨b, o, none⟩) xs.length c, v] w fun e w' => ∃ u, e = .returned (.tuple #[u, .int .i64 (swCode xs ms)]) ∧ ResB w' w.heap.size u (mvR xs ms) ∧ Below w.heap.size w w' := by
  have HS := Lib.hid hs
  have HM := Lib.hid hm
  have WF := Lib.hid wf
  have WM := Lib.hid wm
  obtain ⟨B, q, rfl, hm⟩ := hm
  have HMA := Lib.hid hm
  unfold maxLen at mm
  clear hs wf wm hm
  rcases sw_cases xs ms with ⟨h1, h2, h3⟩ | ⟨h1, h4, h2, h3⟩ | ⟨h1, h4, h2⟩
  · have E := Lib.hid h2
    have E2 := Lib.hid (show mvR xs ms = [] by unfold mvR; rw [h2]; rfl)
    clear h2 h3
    go_enter Tryd.func39, Tryd.ntmps39
    go_wp2_with fail
    refine (l01Ok_any _ xs WF.out _ HS.out ml).mono ?_
    rintro e w1 ⟨rfl, g1⟩
    rw [h1]
    go_wp2
    go_ret2
    exact ⟨_, by rw [E.out]; rfl, resB_empty g1 E2.out, g1.alloc g1.size _⟩
  · have E := Lib.hid h2
    have E2 := Lib.hid (show mvR xs ms = [] by unfold mvR; rw [h2]; rfl)
    have h4' : (200 : Int) < (ms.length : Int) := by omega
    clear h2 h3
    go_enter Tryd.func39, Tryd.ntmps39
    go_wp2_with fail
    refine (l01Ok_any _ xs WF.out _ HS.out ml).mono ?_
    rintro e w1 ⟨rfl, g1⟩
    rw [h1]
    go_wp2
    go_ret2
    exact ⟨_, by rw [E.out]; rfl, resB_empty g1 E2.out, g1.alloc g1.size _⟩
  · have E0 := Lib.hid h2
    have h4' : ¬ ((200 : Int) < (ms.length : Int)) := by omega
    obtain ⟨i0, hi0, hz0, hz1, hz2⟩ := info_parts infoBook
    have h60 := okB_60 h1
    clear h2
    go_enter Tryd.func39, Tryd.ntmps39
    go_wp2_with fail
    refine (l01Ok_any _ xs WF.out _ HS.out ml).mono ?_
    rintro e w1 ⟨rfl, g1⟩
    rw [h1]
    have OW := Lib.hid (show (w1.alloc (.cells #[] 65)).ownsRow w.heap.size 65 8 (.slice (some ⟨w1.heap.size, 0, none⟩) 0 0) 0 [] from ⟨rfl, .inr ⟨w1.heap.size, 0, #[], rfl, g1.size, heap_alloc_new w1 _, Nat.le_refl _, Nat.zero_le _, rfl, rfl⟩⟩)
    have gz := Lib.hid (g1.alloc g1.size (.cells #[] 65))
    have hsz := gz.out.size
    have HS1 := Lib.hid (HS.out.below gz.out)
    go_wp2_with (at_builtin; refine wpList_append_own _ rfl (.tmp 16) (.tmp 17) _ rfl w.heap.size 65 i0 (.agg #[.int .i16 0, .int .u8 0, .int .u8 0, .int .u8 0, .int .i16 0, .int .i16 0, .int .i16 0, .int .i16 0]) 8 14 Tryd.underlying29 hi0 hz0 hz1 hz2 rfl (by decide) _ _ _ rfl OW.out ⟨b, o, none⟩ xs.length c (flatB xs) rfl (flatB_length xs) ?c1 (flatB_one xs) ?c3 ?c4 ?c5 ?_)
    case c1 =>
      intro j u hu
      have h0 : 0 < xs.length := by have := (List.getElem?_eq_some_iff.1 hu).1; rw [flatB_length] at this; omega
      obtain ⟨_, hat⟩ := HS1.out.at_some h0
      exact cells_add hat j u hu
    case c3 => (unfold maxLen; omega)
    case c4 => omega
    case c5 => exact hsz
    intro v' w2 hown' hgrow' hne'
    obtain ⟨g, N, rfl⟩ : ∃ g N, v' = .slice (some ⟨g, 0, none⟩) xs.length N := by
      rcases hown'.2 with ⟨h, _⟩ | ⟨g, cap, cur, h, _⟩
      · exact absurd h hne'
      · exact ⟨g, cap, h⟩
    obtain ⟨hgb, hrk, hnN⟩ := rowK_of_own hown' rfl
    have HRK := Lib.hid hrk
    have g2 := Lib.hid (gz.out.grown hgrow' gz.out.size (fun k hk => (OW.out.lt k hk).1))
    clear hown' hgrow' hne' hrk OW
    go_wp2
    go_loopw [6, 7] (fun v_ i_ wr => ∃ k g N : Nat, v_ = .slice (some ⟨g, 0, none⟩) xs.length N ∧ k ≤ ms.length ∧ i_ = .int .i64 (k : Int) ∧ (∀ k', k' < k → canB xs.length (ms.getD k' default) = true) ∧ w.heap.size ≤ g ∧ xs.length ≤ N ∧ RowK wr g (mvTo xs ms k) xs.length N ∧ Below w.heap.size w wr) (fun _ i_ _ => ms.length - (intOf i_).toNat)
    case atStart => exact ⟨0, g, N, rfl, Nat.zero_le _, rfl, fun _ h => absurd h (Nat.not_lt_zero _), hgb, hnN, HRK.out, g2.out⟩
    case round =>
      clear hgb hnN HRK g2
      obtain ⟨k, g, N, rfl, hk, rfl, hcan, hgb, hnN, hrow, hb⟩ := hrel
      have HCN := Lib.hid hcan
      have HR := Lib.hid hrow
      clear hcan hrow
      by_cases hlt : k < ms.length
      · obtain ⟨gm, om, rfl, hgm, hat⟩ := HMA.out (by omega)
        obtain ⟨p0, p1⟩ := hat.below hb hgm k hlt
        have CC := Lib.hid (fun W => l03Can_any xs.length ms[k] (WM.out _ (List.getElem_mem hlt)) W hn)
        have HAT := Lib.hid hat
        clear hat
        cases hc : canB xs.length ms[k]
        · obtain ⟨E1, E2⟩ := mv_bad E0.out hlt hc
          have E1 := Lib.hid E1
          have E2 := Lib.hid E2
          rw [hc] at CC
          clear hc
          go_wp2_with fail
          refine (CC.out _).mono ?_
          rintro e w3 ⟨rfl, g3⟩
          clear p0 p1
          have b3 := Lib.hid (bnext hb g3)
          go_wp2
          go_ret2
          exact ⟨_, by rw [E1.out]; rfl, resB_empty b3.out E2.out, b3.out.alloc b3.out.size _⟩
        · obtain ⟨i, j, ei, ej, hi, hj⟩ := can_some hc
          have HC := Lib.hid hc
          rw [hc, ei, ej] at CC
          have SW := Lib.hid (mvTo_succ (xs := xs) hlt ei ej)
          have HCK := Lib.hid (show canB xs.length (ms.getD k default) = true by rw [mv_getD hlt]; exact hc)
          have EI := Lib.hid ei
          have EJ := Lib.hid ej
          rw [ei] at p0
          rw [ej] at p1
          clear hc ei ej
          have LY := Lib.hid (mvTo_length xs ms k)
          generalize mvTo xs ms k = ys at HR SW LY
          have KK := Lib.hid (fun W (h : BooksAt W g 0 ys) (h' : g < W.heap.size) => show Calls Tryd.prog 33 #[.slice (some ⟨g, 0, none⟩) xs.length N, .agg #[.int .i16 (i : Int), .int .i16 (j : Int)]] W _ from LY.out ▸ l03Moved_any g 0 N ys i j W h h' (by rw [LY.out]; exact hnN) (by rw [LY.out]; exact hn) (by rw [LY.out]; exact hi) (by rw [LY.out]; exact hj) (by omega) (by omega))
          go_wp2_with fail
          refine (CC.out _).mono ?_
          rintro e w3 ⟨rfl, g3⟩
          have b3 := Lib.hid (bnext hb g3)
          have R3 := Lib.hid (HR.out.below g3 HR.out.lt)
          clear p0 p1
          obtain ⟨p0, p1⟩ := HAT.out.below b3.out hgm k hlt
          rw [EI.out] at p0
          rw [EJ.out] at p1
          have AT := Lib.hid (RowK.at_ (show RowK w3 g ys ys.length N by rw [LY.out]; exact R3.out))
          go_wp2_with fail
          refine (KK.out _ AT.out R3.out.lt).mono ?_
          rintro e w4 ⟨g', N', rfl, hr', hg', hN', g4⟩
          have b4 := Lib.hid (bnext b3.out g4)
          have R4 := Lib.hid (show RowK w4 g' (mvTo xs ms (k + 1)) xs.length N' by rw [SW.out]; exact hr')
          have hg2 : w.heap.size ≤ g' := Nat.le_trans b3.out.size hg'
          clear p0 p1 hr' hg'
          go_wp2
          go_roundw
          case rel => exact ⟨k + 1, g', N', rfl, by omega, by go_num, all_succK HCN.out HCK.out, hg2, hN', R4.out, b4.out⟩
          case measure => simp [intOf]; omega
      · obtain rfl : k = ms.length := by omega
        obtain ⟨E1, E2⟩ := mv_good E0.out HCN.out
        have E1 := Lib.hid E1
        have E2 := Lib.hid E2
        go_wp2
        go_ret2
        exact ⟨_, by rw [E1.out]; rfl, by rw [E2.out]; exact resB_row HR.out (mvTo_length _ _ _) hgb hnN, hb⟩
end Go.Proofs.YtkclobdealnkhaaDoor
