/- The number of a table by the program's closures: contracts. Condition: a valid case and list. -/
import Derived.Test.YtpamflkefgpdpaaLtP
namespace Go.Proofs.Ytpamflkefgpdpaa
set_option linter.unusedSimpArgs false
set_option linter.unusedVariables false
set_option maxRecDepth 100000
open Go.RowKit

set_option maxHeartbeats 400000 in
theorem lt2_any (A : Option Addr) (n m i p4 : Nat) (w : World) (q4 : w.cell? ⟨p4, 0, none⟩ = some (.slice A n m)) (hn : n ≤ 60) (hi : i ≤ 60) :
    Calls Try.prog 84 #[.int .i64 (i : Int), .pointer (some ⟨p4, 0, none⟩)] w fun e w' => e = .returned (.int .i64 (endI n i)) ∧ Below w.heap.size w w' := by
  go_enter Try.func84, Try.ntmps84
  go_wp2_with fail
  refine (behindAll_any A n m i _ hn hi).mono ?_
  rintro e w1 ⟨rfl, rfl⟩
  go_wp2
  go_ret
  exact ⟨rfl, Below.refl _ _⟩

set_option maxHeartbeats 16000000 in
theorem lt3_any (u : Bool) (c : Cs) (hv : Value) (A : Option Addr) (m : Nat) (xs : List Bk) (s i : Nat) (wc : c.Wf) (wf : ∀ b ∈ xs, b.Wf) (w : World) (p3 p10 p4 p8 p5 g : Nat) (lo : Nat → Nat) (rows : Nat → Option (List Int))
    (hc : CaseAt w p3 c hv) (h1 : caseB c = true) (q10 : w.cell? ⟨p10, 0, none⟩ = some (.int .i64 (s : Int))) (q4 : w.cell? ⟨p4, 0, none⟩ = some (.slice A xs.length m)) (q8 : w.cell? ⟨p8, 0, none⟩ = some (.slice (some ⟨g, 0, none⟩) (c.hs.length + 1) (c.hs.length + 1))) (q5 : w.cell? ⟨p5, 0, none⟩ = some (.int .i64 ((uM u : Nat) : Int)))
    (sl : SliceOf w (.slice A xs.length m) xs) (hm : xs.length ≤ m) (h2 : okB xs = true) (tp : TP w lo g (c.hs.length + 1) (xs.length + 1) rows) (hr : rows (s + 1) = some (numR c xs u (s + 1))) (hs : s < c.hs.length) (hi : i < xs.length + 1) :
    Calls Try.prog 86 #[.int .i64 (i : Int), .pointer (some ⟨p3, 0, none⟩), .pointer (some ⟨p10, 0, none⟩), .pointer (some ⟨p4, 0, none⟩), .pointer (some ⟨p8, 0, none⟩), .pointer (some ⟨p5, 0, none⟩)] w fun e w' => e = .returned (.int .i64 (numV c xs u s i)) ∧ Below w.heap.size w w' := by
  obtain ⟨cl1, cl2⟩ := caseB_lens h1
  have h60 := okB_len h2
  have hin : i ≤ xs.length := by omega
  have hs1 : s + 1 < c.hs.length + 1 := by omega
  obtain ⟨b, t0, tlo, -, tb, tl, tn⟩ := tp.at_ hs1 hr
  have TN := Lib.hid (fun k (h : k < xs.length + 1) => show w.cell? ⟨b, k, none⟩ = some (.int .i64 (numV c xs u (s + 1) k)) by have := (tn k h).1; rw [numR_getD h] at this; exact this)
  have HC := Lib.hid hc.hs
  have SL := Lib.hid sl
  have WC := Lib.hid wc
  have WF := Lib.hid wf
  have K1 := Lib.hid h1
  have K2 := Lib.hid h2
  have STEP := Lib.hid (numV_step (c := c) (xs := xs) (u := u) (s := s) (i := i) hs)
  have NB := Lib.hid (fun k (h : k ≤ xs.length) => numV_bd (c := c) (xs := xs) (u := u) (s := s + 1) (i := k) wc wf h1 h60 (by omega) h)
  have BB := Lib.hid (best_bd (c := c) (xs := xs) (u := u) (s := s) wc wf h1 h60 (by omega) hin)
  have Q10 := Lib.hid q10
  have Q8 := Lib.hid q8
  have Q5 := Lib.hid q5
  have T0 := Lib.hid t0
  have l10 := block_lt_of_cell q10
  have l8 := block_lt_of_cell q8
  have l5 := block_lt_of_cell q5
  have lg := tp.lt
  simp only at l10 l8 l5
  obtain ⟨c0, c1, c2, cz, -⟩ := hc
  clear sl wc wf h1 h2 tp tn hr t0 q8 q5 tl
  go_enter Try.func86, Try.ntmps86
  go_wp2_with fail
  refine (rowsFrom_any c _ A m xs s i WF.out _ HC.out hs K1.out SL.out hm K2.out hin).mono ?_
  rintro e w1 ⟨uu, rfl, ho, g1⟩
  clear c0 c1 c2 q10 q4
  have hcn0 : 0 < cntR c s xs i := (cntR_le hin).1
  have hcnm : i + cntR c s xs i ≤ xs.length + 1 := (cntR_le hin).2
  obtain ⟨N, hN⟩ : ∃ N, N = cntR c s xs i := ⟨_, rfl⟩
  rw [← hN] at ho hcn0 hcnm BB STEP
  have HN := Lib.hid hN
  clear hN
  obtain ⟨gr, capr, rfl⟩ : ∃ gr capr, uu = .slice (some ⟨gr, 0, none⟩) N capr := by
    rcases ho.2 with ⟨_, h⟩ | ⟨g, cap, cur, h, _⟩
    · omega
    · exact ⟨g, cap, h⟩
  have HO := Lib.hid ho
  have hgb : gr < w1.heap.size := (ho.lt gr rfl).2
  have G1 := Lib.hid g1
  clear ho
  go_wp2
  go_loopw [8, 18] (fun b_ d_ wr => ∃ d : Nat, d ≤ N ∧ d_ = .int .i64 (d : Int) ∧ b_ = .int .i64 (bestF (fun k => priceS c s (part xs i k) u) (numV c xs u (s + 1)) i d) ∧ Below w1.heap.size w1 wr) (fun _ d_ _ => N - (intOf d_).toNat)
  case atStart => exact ⟨0, by omega, rfl, rfl, Below.refl _ _⟩
  case round =>
    obtain ⟨d, hd, rfl, rfl, hb⟩ := hrel
    have SB := Lib.hid (show bestF (fun k => priceS c s (part xs i k) u) (numV c xs u (s + 1)) i (d + 1) = if numV c xs u (s + 1) (i + d) ≠ -1 ∧ (bestF (fun k => priceS c s (part xs i k) u) (numV c xs u (s + 1)) i d = -1 ∨ numV c xs u (s + 1) (i + d) + priceS c s (part xs i (i + d)) u < bestF (fun k => priceS c s (part xs i k) u) (numV c xs u (s + 1)) i d) then numV c xs u (s + 1) (i + d) + priceS c s (part xs i (i + d)) u else bestF (fun k => priceS c s (part xs i k) u) (numV c xs u (s + 1)) i d from rfl)
    obtain ⟨bb1, bb2⟩ := BB.out d hd
    by_cases hlt : d < N
    · obtain ⟨k, hk⟩ : ∃ k, k = i + d := ⟨_, rfl⟩
      have hik : i ≤ k := by omega
      have hkn : k ≤ xs.length := by omega
      have HK := Lib.hid hk
      have hfit := fits_within (c := c) (s := s) K1.out hin d (by rw [← HN.out]; exact hlt)
      rw [← hk] at hfit SB
      have pl : (part xs i k).length = k - i := part_length hkn
      have fb := freeS_bd c s (part xs i k) WC.out (part_wf i k WF.out) (by rw [pl]; omega)
      have fe : freeS c s (part xs i k) = freeB c (part xs i k) := by unfold freeS; rw [hfit]; rfl
      rw [fe] at fb
      obtain ⟨fb1, fb2⟩ := fb
      have pb0 := priceS_fit (b := u) hfit
      have pb := (priceS_bd c s (part xs i k) u WC.out (part_wf i k WF.out) (by rw [pl]; omega)).2
      have CP := Lib.hid (meas_price u hfit)
      rw [pl] at CP
      have ho := ownBelow HO.out hb
      have e0 := (ho.cellAt (d * 3 + 0) (by omega)).trans (fromCs_at c A xs i d 0 (by omega) _ (by have := HN.out; omega))
      have e1 := (ho.cellAt (d * 3 + 1) (by omega)).trans (fromCs_at c A xs i d 1 (by omega) _ (by have := HN.out; omega))
      have e2 := (ho.cellAt (d * 3 + 2) (by omega)).trans (fromCs_at c A xs i d 2 (by omega) _ (by have := HN.out; omega))
      rw [← hk] at e0 e1 e2
      simp only [rowCs, List.getElem?_cons_zero, List.getElem?_cons_succ, Nat.add_zero] at e0 e1 e2
      have kd : k - i ≤ 60 := by omega
      obtain ⟨nb1, nb2⟩ := NB.out k hkn
      have tk := TN.out k (by omega)
      have SB2 := Lib.hid SB.out
      clear ho hk fe pl hfit SB
      generalize freeB c (part xs i k) = fr at *
      generalize priceS c s (part xs i k) u = pr at *
      have G2 : Below wr.heap.size wr (wr.alloc (.cells #[.int .i64 (i : Int), .slice (subA A i k) (k - i) (k - i), .int .i64 fr] 118)) := by go_grown
      go_wp2
      have X := heap_alloc_new wr (.cells #[.int .i64 (i : Int), .slice (subA A i k) (k - i) (k - i), .int .i64 fr] 118)
      have hWz : wr.heap.size < (wr.alloc (.cells #[.int .i64 (i : Int), .slice (subA A i k) (k - i) (k - i), .int .i64 fr] 118)).heap.size := by simp
      generalize World.alloc _ _ = W at G2 X hWz ⊢
      have x0 := cell_of_row W _ 0 _ _ _ X
      have x1 := cell_of_row W _ 1 _ _ _ X
      have x2 := cell_of_row W _ 2 _ _ _ X
      simp only [List.getElem?_toArray, List.getElem?_cons_zero, List.getElem?_cons_succ] at x0 x1 x2
      have XH := Lib.hid X
      have hb2 := bnext hb G2
      have bW := Lib.hid hb2
      have bw := bnext G1.out hb2
      have BW0 := Lib.hid bw
      have FR := Lib.hid (show i < i + 1 ∧ -2100000 ≤ fr ∧ fr ≤ 2100000 from ⟨by omega, by omega, by omega⟩)
      have y8 := belowBy_cell (Nat.lt_of_lt_of_le l8 bw.size) ((bw.cell (p := ⟨p8, 0, none⟩) l8).trans Q8.out)
      have y10 := belowBy_cell (Nat.lt_of_lt_of_le l10 bw.size) ((bw.cell (p := ⟨p10, 0, none⟩) l10).trans Q10.out)
      have yt := belowBy_cell (Nat.lt_of_lt_of_le lg bw.size) ((bw.cell (p := ⟨g, s + 1, none⟩) lg).trans T0.out)
      have yk := belowBy_cell (Nat.lt_of_lt_of_le tb bw.size) ((bw.cell (p := ⟨b, k, none⟩) tb).trans tk)
      generalize numV c xs u (s + 1) k = r at *
      generalize bestF (fun k => priceS c s (part xs i k) u) (numV c xs u (s + 1)) i d = be at *
      have x0 := belowBy_cell hWz x0
      have x1 := belowBy_cell hWz x1
      have x2 := belowBy_cell hWz x2
      have CB := Lib.hid (fun W' => behind_any (subA A i k) i k fr W' hik (by omega))
      clear X e0 e1 e2 bw hb2 tk
      refine wp_region_below (by kernel_rfl) (by kernel_rfl) ?_
      iterate 10 (first | go_big_quiet_step ((go_at_call 88; exact calls_below (CB.out _))) | quiet_step ((go_at_call 88; exact calls_below (CB.out _))))
      refine wpQuiet_nil ?_
      rintro wq ⟨⟨_, hq⟩, rfl⟩
      clear x0 x1 x2 y8 y10 yt yk
      have bq := Lib.hid (bnext bW.out hq)
      have X3 := (hq.block wr.heap.size hWz).trans XH.out
      have x0 := cell_of_row wq _ 0 _ _ _ X3
      have x1 := cell_of_row wq _ 1 _ _ _ X3
      have x2 := cell_of_row wq _ 2 _ _ _ X3
      simp only [List.getElem?_toArray, List.getElem?_cons_zero, List.getElem?_cons_succ] at x0 x1 x2
      have y5 := ((bnext G1.out bq.out).cell (p := ⟨p5, 0, none⟩) l5).trans Q5.out
      have CO := Lib.hid (fun W' => CP.out ▸ of_any (uM u) (uM_lt u) (subA A i k) i (k - i) fr W' kd FR.out.2.1 FR.out.2.2)
      have hw1 : IntKind.i64.wrap (r + pr) = r + pr := IntWalk.i64_in _ (by omega)
      have X4 := Lib.hid X3
      clear X3
      by_cases hr : r = -1
      · have d1 : (r != -1) = false := by rw [hr]; rfl
        have SX := Lib.hid (show be = bestF (fun k => priceS c s (part xs i k) u) (numV c xs u (s + 1)) i (d + 1) by rw [SB2.out, if_neg (fun h => h.1 hr)])
        clear hr
        go_wp2
        go_roundw
        case rel => exact ⟨d + 1, by omega, by go_num, by rw [← SX.out], bq.out⟩
        case measure => simp [intOf]; omega
      · have d1 : (r != -1) = true := by rw [bne_iff_ne]; exact hr
        by_cases hz0 : be = -1
        · have d2 : (be == -1) = true := by rw [hz0]; rfl
          have SX := Lib.hid (show r + pr = bestF (fun k => priceS c s (part xs i k) u) (numV c xs u (s + 1)) i (d + 1) by rw [SB2.out, if_pos ⟨hr, .inl hz0⟩])
          clear hr hz0
          go_wp2_with fail
          refine (CO.out _).mono ?_
          rintro e w9 ⟨rfl, g9⟩
          clear x0 x1 x2 y5
          go_wp2
          go_roundw
          case rel => exact ⟨d + 1, by omega, by go_num, by rw [← SX.out], bnext bq.out g9⟩
          case measure => simp [intOf]; omega
        · have d2 : (be == -1) = false := by rw [beq_eq_false_iff_ne]; exact hz0
          go_wp2_with fail
          refine (CO.out _).mono ?_
          rintro e w8 ⟨rfl, g8⟩
          have z8 := Nat.lt_of_lt_of_le hWz hq.size
          have B8 := Lib.hid (bnext bq.out g8)
          clear x0 x1 x2 y5
          by_cases hgt : r + pr < be
          · have SX := Lib.hid (show r + pr = bestF (fun k => priceS c s (part xs i k) u) (numV c xs u (s + 1)) i (d + 1) by rw [SB2.out, if_pos ⟨hr, .inr hgt⟩])
            have X5 := (g8.block wr.heap.size z8).trans X4.out
            have x0 := cell_of_row w8 _ 0 _ _ _ X5
            have x1 := cell_of_row w8 _ 1 _ _ _ X5
            have x2 := cell_of_row w8 _ 2 _ _ _ X5
            simp only [List.getElem?_toArray, List.getElem?_cons_zero, List.getElem?_cons_succ] at x0 x1 x2
            have y5 := ((bnext G1.out B8.out).cell (p := ⟨p5, 0, none⟩) l5).trans Q5.out
            clear X5 hr hz0
            go_wp2_with fail
            refine (CO.out _).mono ?_
            rintro e w9 ⟨rfl, g9⟩
            clear x0 x1 x2 y5
            go_wp2
            go_roundw
            case rel => exact ⟨d + 1, by omega, by go_num, by rw [← SX.out], bnext B8.out g9⟩
            case measure => simp [intOf]; omega
          · have SX := Lib.hid (show be = bestF (fun k => priceS c s (part xs i k) u) (numV c xs u (s + 1)) i (d + 1) by rw [SB2.out, if_neg (fun h => h.2.elim hz0 hgt)])
            clear hr hz0
            go_wp2
            go_roundw
            case rel => exact ⟨d + 1, by omega, by go_num, by rw [← SX.out], B8.out⟩
            case measure => simp [intOf]; omega
    · obtain rfl : d = N := by omega
      go_wp2
      go_ret
      exact ⟨by rw [STEP.out]; rfl, bnext G1.out hb⟩
end Go.Proofs.Ytpamflkefgpdpaa
