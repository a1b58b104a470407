/- Exchanges of books by the program: a contract. Condition: lists no longer than the law tests. -/
import Derived.Test.YtonclaakaaidlaaSwap
import Derived.Test.YtonclaakaaidlaaCaseOk
import Derived.BigRegion
import Derived.RegionTactic
namespace Go.Proofs.Ytonclaakaaidlaa
set_option linter.unusedSimpArgs false
set_option linter.unusedVariables false
set_option maxRecDepth 100000
open Go.RowKit

theorem can_no {n : Nat} {m : Mv} : canB n m = false ↔ inB m.f 0 ((n : Int) - 1) = false ∨ (inB m.f 0 ((n : Int) - 1) = true ∧ inB m.t 0 ((n : Int) - 1) = false) := by
  unfold canB
  cases inB m.f 0 ((n : Int) - 1) <;> cases inB m.t 0 ((n : Int) - 1) <;> simp

set_option maxHeartbeats 8000000 in
theorem swapAll_any (b o c : Nat) (xs : List Bk) (v : Value) (ms : List Mv) (wm : ∀ m ∈ ms, m.Wf) (w : World) (hs : SliceOf w (.slice (some ⟨b, o, none⟩) xs.length c) xs) (hm : MovesOf w v ms) (hn : xs.length ≤ 1048576) (ml : xs.length ≤ maxLen) (mm : ms.length ≤ maxLen) :
    Calls Try.prog 31 #[.slice (some ⟨b, o, none⟩) xs.length c, v] w fun e w' => ∃ u, e = .returned (.tuple #[u, .int .i64 (swCode xs ms)]) ∧ ResB w' w.heap.size u (swR xs ms) ∧ Below w.heap.size w w' := by
  have HS := Lib.hid hs
  have WM := Lib.hid wm
  obtain ⟨B, q, rfl, hm⟩ := hm
  have HMA := Lib.hid hm
  unfold maxLen at mm
  clear hs wm hm
  rcases sw_cases xs ms with ⟨h1, h2, h3⟩ | ⟨h1, h4, h2, h3⟩ | ⟨h1, h4, h2⟩
  · have E := Lib.hid h2
    have E2 := Lib.hid h3
    clear h2 h3
    go_enter Try.func31, Try.ntmps31
    go_wp2_with fail
    refine (validBooks_any _ xs _ HS.out ml).mono ?_
    rintro e w1 ⟨rfl, g1⟩
    rw [h1]
    go_wp2
    go_ret2
    exact ⟨_, by rw [E.out]; rfl, by rw [E2.out]; exact .inl ⟨rfl, rfl⟩, g1⟩
  · have E := Lib.hid h2
    have E2 := Lib.hid h3
    have h4' : (200 : Int) < (ms.length : Int) := by omega
    clear h2 h3
    go_enter Try.func31, Try.ntmps31
    go_wp2_with fail
    refine (validBooks_any _ xs _ HS.out ml).mono ?_
    rintro e w1 ⟨rfl, g1⟩
    rw [h1]
    go_wp2
    go_ret2
    exact ⟨_, by rw [E.out]; rfl, by rw [E2.out]; exact .inl ⟨rfl, rfl⟩, g1⟩
  · have E0 := Lib.hid h2
    have h4' : ¬ ((200 : Int) < (ms.length : Int)) := by omega
    clear h2
    go_enter Try.func31, Try.ntmps31
    go_wp2_with fail
    refine (validBooks_any _ xs _ HS.out ml).mono ?_
    rintro e w1 ⟨rfl, g1⟩
    rw [h1]
    have HAB := Lib.hid (show 0 < xs.length → BooksAt w1 b o xs by
      intro h0
      obtain ⟨A', c', e', hh⟩ := HS.out.below g1
      obtain ⟨g', o', rfl, hg', hat⟩ := hh h0
      injection e' with e1 e2 e3
      injection e1 with e1
      injection e1 with e1 e4 e5
      subst e1 e4
      exact hat)
    go_wp2_with fail
    refine (cloneBooks_any b o c xs _ HAB.out hn).mono ?_
    rintro e w2 ⟨g, N, rfl, ho, g2⟩
    obtain ⟨hgb, hrk, hnN⟩ := rowK_of_own ho rfl
    have hgb : w.heap.size ≤ g := by have := g1.size; omega
    have HRK := Lib.hid hrk
    have G2 := Lib.hid (bnext g1 g2)
    clear ho hrk
    go_wp2
    go_loopw [25] (fun i_ wr => ∃ k : Nat, k ≤ ms.length ∧ i_ = .int .i64 (k : Int) ∧ (∀ k', k' < k → canB xs.length (ms.getD k' default) = true) ∧ RowK wr g (swTo xs ms k) xs.length N ∧ Below w.heap.size w wr) (fun i_ _ => ms.length - (intOf i_).toNat)
    case atStart => exact ⟨0, Nat.zero_le _, rfl, fun _ h => absurd h (Nat.not_lt_zero _), HRK.out, G2.out⟩
    case round =>
      obtain ⟨k, hk, rfl, hcan, hrow, hb⟩ := hrel
      have HCN := Lib.hid hcan
      have HR := Lib.hid hrow
      clear hcan hrow
      by_cases hlt : k < ms.length
      · obtain ⟨gm, om, rfl, hgm, hat⟩ := HMA.out (by omega)
        obtain ⟨p0, p1⟩ := hat.below hb hgm k hlt
        obtain ⟨⟨a1, a2⟩, ⟨b1, b2⟩⟩ := WM.out _ (List.getElem_mem hlt)
        have HAT := Lib.hid hat
        have HB := Lib.hid hb
        have hw1 : IntKind.i64.wrap ((xs.length : Int) - 1) = (xs.length : Int) - 1 := IntWalk.i64_in _ (by omega)
        clear hat
        have bx := Lib.hid ((Below.refl wr.heap.size wr).alloc (Nat.le_refl _) (.cells #[.int .i16 ms[k].f, .int .i16 ms[k].t] 70))
        have CS := Lib.hid (can_no (n := xs.length) (m := ms[k]))
        have CSY := Lib.hid (can_some (n := xs.length) (m := ms[k]))
        have SB := Lib.hid (fun h => sw_bad (k := k) E0.out hlt h)
        have SW := Lib.hid (fun (i j : Nat) (ei : ms[k].f = i) (ej : ms[k].t = j) => show swTo xs ms (k + 1) = swapL (swTo xs ms k) i j by rw [swTo, mv_getD hlt, ei, ej]; rfl)
        have HCK := Lib.hid (fun (h : canB xs.length ms[k] = true) => show canB xs.length (ms.getD k default) = true by rw [mv_getD hlt]; exact h)
        go_wp2
        go_quiet (fail)
        generalize hW : World.drewN _ _ = W5
        have g5 := Lib.hid (show Below wr.heap.size wr W5 by rw [← hW]; exact below_drewN bx.out _)
        clear hW p0 p1
        have b5 := Lib.hid (bnext HB.out g5.out)
        cases hc : canB xs.length ms[k]
        · obtain ⟨E1, E2⟩ := SB.out hc
          have E1 := Lib.hid E1
          have E2 := Lib.hid E2
          rcases CS.out.1 hc with hv | ⟨hv, hv2⟩
          · clear hc
            go_wp2_with (go_at_call 74; refine (withinI_any _ _ _ _).mono ?_; rintro e w' ⟨rfl, rfl⟩)
            go_ret2
            exact ⟨_, by rw [E1.out]; rfl, by rw [E2.out]; exact .inl ⟨rfl, rfl⟩, b5.out⟩
          · clear hc
            go_wp2_with (go_at_call 74; refine (withinI_any _ _ _ _).mono ?_; rintro e w' ⟨rfl, rfl⟩)
            go_ret2
            exact ⟨_, by rw [E1.out]; rfl, by rw [E2.out]; exact .inl ⟨rfl, rfl⟩, b5.out⟩
        · obtain ⟨i, j, ei, ej, hi, hj⟩ := CSY.out hc
          have HC := Lib.hid hc
          have SW := Lib.hid (SW.out i j ei ej)
          have HCK := Lib.hid (HCK.out hc)
          have v1 : inB (i : Int) 0 ((xs.length : Int) - 1) = true := by unfold inB; simp; omega
          have v2 : inB (j : Int) 0 ((xs.length : Int) - 1) = true := by unfold inB; simp; omega
          have LY := Lib.hid (swTo_length xs ms k)
          have R5 := Lib.hid (HR.out.below g5.out HR.out.lt)
          rw [ei, ej]
          clear hc ei ej a1 a2 b1 b2
          generalize swTo xs ms k = ys at HR SW LY R5
          have AT := Lib.hid (RowK.at_ (show RowK W5 g ys ys.length N by rw [LY.out]; exact R5.out))
          have hiy : i < ys.length := by rw [LY.out]; exact hi
          have hjy : j < ys.length := by rw [LY.out]; exact hj
          have HIY := Lib.hid hiy
          have HJY := Lib.hid hjy
          obtain ⟨x0, x1, x2, x3, x4, x5, x6, x7⟩ := booksAt_some AT.out hiy
          obtain ⟨y0, y1, y2, y3, y4, y5, y6, y7⟩ := booksAt_some AT.out hjy
          have SL := Lib.hid (show swapL ys i j = (ys.set i ys[j]).set j ys[i] by unfold swapL; rw [bk_getD hiy, bk_getD hjy] <;> rfl)
          rw [Nat.zero_add] at x0 x1 x2 x3 x4 x5 x6 x7 y0 y1 y2 y3 y4 y5 y6 y7
          have fz := R5.out.frozen
          by_cases hij : i = j
          · subst hij
            generalize ys[i] = bi at x0 x1 x2 x3 x4 x5 x6 x7 SL
            clear y0 y1 y2 y3 y4 y5 y6 y7 hiy hjy
            go_wp2_with (go_at_call 74; refine (withinI_any _ _ _ _).mono ?_; rintro e w' ⟨rfl, rfl⟩)
            go_region
            go_wp2
            go_roundw
            case rel => exact ⟨k + 1, by omega, by go_num, all_succK HCN.out HCK.out, by rw [SW.out, SL.out]; show RowK (World.drew (set8 (set8 W5 g (i * 8) bi) g (i * 8) bi)) g _ _ _; exact rowK_drew (RowK.put (RowK.put (w := W5) R5.out i HIY.out (by omega) bi) i (by rw [List.length_set]; exact HIY.out) (by omega) bi), by show Below _ _ (World.drew (set8 (set8 W5 g (i * 8) bi) g (i * 8) bi)); exact below_drew (set8_below (set8_below b5.out hgb) hgb)⟩
            case measure => simp [intOf]; omega
          · generalize ys[i] = bi at x0 x1 x2 x3 x4 x5 x6 x7 SL
            generalize ys[j] = bj at y0 y1 y2 y3 y4 y5 y6 y7 SL
            clear hiy hjy
            go_wp2_with (go_at_call 74; refine (withinI_any _ _ _ _).mono ?_; rintro e w' ⟨rfl, rfl⟩)
            go_region
            go_wp2
            go_roundw
            case rel => exact ⟨k + 1, by omega, by go_num, all_succK HCN.out HCK.out, by rw [SW.out, SL.out]; show RowK (World.drew (set8 (set8 W5 g (i * 8) bj) g (j * 8) bi)) g _ _ _; exact rowK_drew (RowK.put (RowK.put (w := W5) R5.out i HIY.out (by omega) bj) j (by rw [List.length_set]; exact HJY.out) (by omega) bi), by show Below _ _ (World.drew (set8 (set8 W5 g (i * 8) bj) g (j * 8) bi)); exact below_drew (set8_below (set8_below b5.out hgb) hgb)⟩
            case measure => simp [intOf]; omega
      · obtain rfl : k = ms.length := by omega
        obtain ⟨E1, E2⟩ := sw_good E0.out HCN.out
        have E1 := Lib.hid E1
        have E2 := Lib.hid E2
        go_wp2
        go_ret2
        exact ⟨_, by rw [E1.out]; rfl, by rw [E2.out]; exact .inr ⟨g, N, by rw [swTo_length]; rfl, hgb, by rw [swTo_length]; exact HR.out, by rw [swTo_length]; exact hnN⟩, hb⟩
end Go.Proofs.Ytonclaakaaidlaa
