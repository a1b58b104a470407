/- Several moves of a list, by the program: a contract. Condition: lists no longer than the law tests. -/
import Derived.Test.YtkclobdealnkhaaDoorMb6
namespace Go.Proofs.YtkclobdealnkhaaDoor
set_option linter.unusedSimpArgs false
set_option linter.unusedVariables false
set_option maxRecDepth 100000
open Go.RowKit Go.Sort

theorem blC_can {ys : List Bk} (m : Mv) (h : okB ys = true) (hc : canB ys.length m = true) : blC ys m.f 1 m.t = 0 := by
  unfold blC
  rw [← can_canK, if_neg (by simp [h]), if_pos hc]
theorem blC_not {ys : List Bk} (m : Mv) (h : okB ys = true) (hc : canB ys.length m = false) : blC ys m.f 1 m.t = 2 := by
  unfold blC
  rw [← can_canK, if_neg (by simp [h]), if_neg (by simp [hc])]
set_option maxHeartbeats 8000000 in
theorem moveAll_any (b o c : Nat) (xs : List Bk) (v : Value) (ms : List Mv) (wf : ∀ b ∈ xs, b.Wf) (wm : ∀ m ∈ ms, m.Wf) (w : World) (hs : SliceOf w (.slice (some ⟨b, o, none⟩) xs.length c) xs) (hm : MovesOf w v ms) (hn : xs.length ≤ 1048576) (ml : xs.length ≤ maxLen) (mm : ms.length ≤ maxLen) :
    Calls Tryd.prog 42 #[.slice (some ⟨b, o, none⟩) xs.length c, v] w fun e w' => ∃ u, e = .returned (.tuple #[u, .int .i64 (swCode xs ms)]) ∧ ResB w' w.heap.size u (mvR xs ms) ∧ Below w.heap.size w w' := by
  have HS := Lib.hid hs
  have WM := Lib.hid wm
  have WF := Lib.hid wf
  obtain ⟨B, q, rfl, hm⟩ := hm
  have HMA := Lib.hid hm
  unfold maxLen at mm
  clear hs wm hm wf
  rcases sw_cases xs ms with ⟨h1, h2, h3⟩ | ⟨h1, h4, h2, h3⟩ | ⟨h1, h4, h2⟩
  · have E := Lib.hid h2
    have E2 := Lib.hid (show mvR xs ms = [] by unfold mvR; rw [h2]; rfl)
    clear h2 h3
    go_enter Tryd.func42, Tryd.ntmps42
    go_wp2_with fail
    refine (validBooks_any _ xs _ HS.out ml).mono ?_
    rintro e w1 ⟨rfl, g1⟩
    rw [h1]
    go_wp2
    go_ret2
    exact ⟨_, by rw [E.out]; rfl, by rw [E2.out]; exact .inl ⟨rfl, rfl⟩, g1⟩
  · have E := Lib.hid h2
    have E2 := Lib.hid (show mvR xs ms = [] by unfold mvR; rw [h2]; rfl)
    have h4' : (200 : Int) < (ms.length : Int) := by omega
    clear h2 h3
    go_enter Tryd.func42, Tryd.ntmps42
    go_wp2_with fail
    refine (validBooks_any _ xs _ HS.out ml).mono ?_
    rintro e w1 ⟨rfl, g1⟩
    rw [h1]
    go_wp2
    go_ret2
    exact ⟨_, by rw [E.out]; rfl, by rw [E2.out]; exact .inl ⟨rfl, rfl⟩, g1⟩
  · have E0 := Lib.hid h2
    have h4' : ¬ ((200 : Int) < (ms.length : Int)) := by omega
    have H1 := Lib.hid h1
    clear h2
    go_enter Tryd.func42, Tryd.ntmps42
    go_wp2_with fail
    refine (validBooks_any _ xs _ HS.out ml).mono ?_
    rintro e w1 ⟨rfl, g1⟩
    rw [h1]
    have HAB := Lib.hid (show 0 < xs.length → BooksAt w1 b o xs from fun h0 => ((HS.out.below g1).at_some h0).2)
    clear h1
    go_wp2_with fail
    refine (cloneBooks_any b o c xs w1 HAB.out hn).mono ?_
    rintro e w2 ⟨g, N, rfl, ho, g2⟩
    obtain ⟨hgb, hrk, hnN⟩ := rowK_of_own ho rfl
    have hgb : w.heap.size ≤ g := by have := g1.size; omega
    have HRK := Lib.hid hrk
    have G2 := Lib.hid (bnext g1 g2)
    clear ho hrk
    go_wp2
    go_loopw [6, 20] (fun v_ i_ wr => ∃ k g N : Nat, v_ = .slice (some ⟨g, 0, none⟩) xs.length N ∧ k ≤ ms.length ∧ i_ = .int .i64 (k : Int) ∧ (∀ k', k' < k → canB xs.length (ms.getD k' default) = true) ∧ w.heap.size ≤ g ∧ xs.length ≤ N ∧ RowK wr g (mvTo xs ms k) xs.length N ∧ Below w.heap.size w wr) (fun _ i_ _ => ms.length - (intOf i_).toNat)
    case atStart => exact ⟨0, g, N, rfl, Nat.zero_le _, rfl, fun _ h => absurd h (Nat.not_lt_zero _), hgb, hnN, HRK.out, G2.out⟩
    case round =>
      clear hgb hnN HRK G2 g2
      obtain ⟨k, g, N, rfl, hk, rfl, hcan, hgb, hnN, hrow, hb⟩ := hrel
      have HCN := Lib.hid hcan
      have HR := Lib.hid hrow
      clear hcan hrow
      by_cases hlt : k < ms.length
      · obtain ⟨gm, om, rfl, hgm, hat⟩ := HMA.out (by omega)
        obtain ⟨p0, p1⟩ := hat.below hb hgm k hlt
        have bx := Lib.hid ((Below.refl wr.heap.size wr).alloc (Nat.le_refl _) (.cells #[.int .i16 ms[k].f, .int .i16 ms[k].t] 26))
        have X5 := Lib.hid (heap_alloc_new wr (.cells #[.int .i16 ms[k].f, .int .i16 ms[k].t] 26))
        have HAT := Lib.hid hat
        have LY := Lib.hid (mvTo_length xs ms k)
        have R5 := Lib.hid (HR.out.below bx.out HR.out.lt)
        have b5 := Lib.hid (bnext hb bx.out)
        have WY := Lib.hid (mvTo_wf WF.out (ms := ms) k)
        have OY := Lib.hid ((okB_perm (mvTo_perm xs ms k)).trans H1.out)
        have SW := Lib.hid (fun (i j : Nat) (ei : ms[k].f = i) (ej : ms[k].t = j) => mvTo_succ (xs := xs) hlt ei ej)
        have HCK := Lib.hid (fun (h : canB xs.length ms[k] = true) => show canB xs.length (ms.getD k default) = true by rw [mv_getD hlt]; exact h)
        have SB := Lib.hid (fun h => mv_bad (k := k) E0.out hlt h)
        have WK := Lib.hid (WM.out _ (List.getElem_mem hlt))
        generalize mvTo xs ms k = ys at HR SW LY R5 WY OY
        have KK := Lib.hid (fun W (h : SliceOf W (.slice (some ⟨g, 0, none⟩) xs.length N) ys) => moveBook_any (.slice (some ⟨g, 0, none⟩) xs.length N) ys ms[k] WK.out WY.out W h (fun A n c h => by injection h with _ _ h; rw [LY.out]; omega) (by rw [LY.out]; exact hn))
        clear hat
        go_upto_region 9 with (fail)
        generalize World.alloc _ _ = W5 at R5 b5 bx X5 ⊢
        clear p0 p1
        have RS := Lib.hid (show SliceOf W5 (.slice (some ⟨g, 0, none⟩) xs.length N) ys from ⟨_, N, by rw [LY.out], fun _ => ⟨g, 0, rfl, R5.out.lt, RowK.at_ (show RowK W5 g ys ys.length N by rw [LY.out]; exact R5.out)⟩⟩)
        have q0 : W5.cell? ⟨wr.heap.size, 0, none⟩ = some (.int .i16 ms[k].f) := cell_of_row W5 _ 0 _ _ _ X5.out
        have q1 : W5.cell? ⟨wr.heap.size, 1, none⟩ = some (.int .i16 ms[k].t) := cell_of_row W5 _ 1 _ _ _ X5.out
        go_wp2_with fail
        refine (KK.out W5 RS.out).mono ?_
        rintro e w6 ⟨u, rfl, hu, g6⟩
        have HU := Lib.hid hu
        have b6 := Lib.hid (bnext b5.out g6)
        clear q0 q1 hu
        cases hc : canB xs.length ms[k]
        · obtain ⟨E1, E2⟩ := SB.out hc
          have E1 := Lib.hid E1
          have E2 := Lib.hid E2
          rw [blC_not ms[k] OY.out (by rw [LY.out]; exact hc)]
          clear hc
          go_wp2
          go_ret2
          exact ⟨_, by rw [E1.out]; rfl, by rw [E2.out]; exact .inl ⟨rfl, rfl⟩, b6.out⟩
        · obtain ⟨i, j, ei, ej, hi, hj⟩ := can_some hc
          have HCK := Lib.hid (HCK.out hc)
          have SW := Lib.hid (SW.out i j ei ej)
          have EC := Lib.hid (blC_can ms[k] OY.out (by rw [LY.out]; exact hc))
          have ER := Lib.hid (show blR ys ms[k].f 1 ms[k].t = mvTo xs ms (k + 1) by unfold blR; rw [if_pos EC.out, SW.out, ei, ej]; rfl)
          rw [EC.out]
          have LZ := Lib.hid (mvTo_length xs ms (k + 1))
          obtain ⟨g', N', rfl, hg', hr', hN'⟩ : ∃ g' N', u = .slice (some ⟨g', 0, none⟩) xs.length N' ∧ W5.heap.size ≤ g' ∧ RowK w6 g' (mvTo xs ms (k + 1)) xs.length N' ∧ xs.length ≤ N' := by
            have h := HU.out
            rw [ER.out] at h
            rcases h with ⟨_, h0⟩ | ⟨g', N', e1, e2, e3, e4⟩
            · exfalso
              have := LZ.out
              rw [h0] at this
              simp at this
              omega
            · rw [LZ.out] at e1 e3 e4
              exact ⟨g', N', e1, e2, e3, e4⟩
          have HR' := Lib.hid hr'
          have hg2 : w.heap.size ≤ g' := Nat.le_trans b5.out.size hg'
          clear hc ei ej hr' hg'
          go_wp2
          go_roundw
          case rel => exact ⟨k + 1, g', N', rfl, by omega, by go_num, all_succK HCN.out HCK.out, hg2, hN', HR'.out, b6.out⟩
          case measure => simp [intOf]; omega
      · obtain rfl : k = ms.length := by omega
        obtain ⟨E1, E2⟩ := mv_good E0.out HCN.out
        have E1 := Lib.hid E1
        have E2 := Lib.hid E2
        go_wp2
        go_ret2
        exact ⟨_, by rw [E1.out]; rfl, by rw [E2.out]; exact resB_row HR.out (mvTo_length _ _ _) hgb hnN, hb⟩
end Go.Proofs.YtkclobdealnkhaaDoor
