/- ShelvesNeeded, by the program: contracts. Condition: numbers within their kinds, slices no longer than can be. -/
import Derived.Test.YtlphpajpjpohmabShvNa
import Derived.StillTailTactics
namespace Go.Proofs.Ytlphpajpjpohmab
set_option linter.unusedSimpArgs false
set_option linter.unusedVariables false
set_option maxRecDepth 100000
open Go.RowKit

set_option maxHeartbeats 3000000 in
theorem filledInTurn_any (v : Value) (ws : List Int) (a : Int) (w : World) (hs : IntsOf .i64 w v ws) (bd : ∀ z ∈ ws, 1 ≤ z ∧ z ≤ 100) (hn : ws.length ≤ 60) (a1 : 1 ≤ a) (a2 : a ≤ 2000) :
    Calls Try.prog 38 #[v, .int .i64 a] w fun e w' => e = .returned (.int .i64 (ndF a ws)) ∧ Below w.heap.size w w' := by
  obtain ⟨A, c, rfl, hat⟩ := hs
  obtain ⟨i0, hi0, hz0, hz1, hz2⟩ := info_parts infoI64G
  have HA := Lib.hid hat
  have BD := Lib.hid bd
  have FB := Lib.hid (ffL_bd a2 bd)
  have FN := Lib.hid (ffL_len a ws)
  have P0 := Lib.hid (show w.ownsRow w.heap.size 2 1 (.slice none 0 0) ((ffL a ws 0).map (fun u => a - u)).length (((ffL a ws 0).map (fun u => a - u)).map (Value.int .i64)) from ⟨rfl, .inl ⟨rfl, rfl⟩⟩)
  clear hat bd
  go_enter Try.func38, Try.ntmps38
  go_wp2
  go_loopw [5, 11] (fun u_ k_ wr => ∃ (uu : Value) (k : Nat), uu = u_ ∧ k ≤ ws.length ∧ k_ = .int .i64 (k : Int) ∧ wr.ownsRow w.heap.size 2 1 uu ((ffL a ws k).map (fun u => a - u)).length (((ffL a ws k).map (fun u => a - u)).map (Value.int .i64)) ∧ Below w.heap.size w wr) (fun _ k_ _ => ws.length - (intOf k_).toNat)
  case atStart => exact ⟨_, 0, rfl, Nat.zero_le _, rfl, P0.out, Below.refl _ _⟩
  case round =>
    obtain ⟨uu, k, rfl, hk, rfl, ho, hb⟩ := hrel
    have OX := Lib.hid ho
    have HX := Lib.hid hb
    have zx := hb.size
    have fn := FN.out k
    have FBK := Lib.hid (FB.out k)
    clear ho hb
    by_cases hlk : k < ws.length
    · obtain ⟨ga, oa, rfl, hga, hc⟩ := HA.out (by omega)
      have c1 := (HX.out.cell (p := ⟨ga, oa + k, none⟩) hga).trans (hc k hlk)
      have FS := Lib.hid (show ffL a ws (k + 1) = ffS a (ffL a ws k) ws[k] by rw [ffL, List.getD_eq_getElem?_getD, List.getElem?_eq_getElem hlk]; rfl)
      obtain ⟨x1, x2⟩ := BD.out _ (List.getElem_mem hlk)
      clear hc
      obtain ⟨x, hx⟩ : ∃ x, ws[k] = x := ⟨_, rfl⟩
      rw [hx] at c1 FS x1 x2
      clear hx
      obtain ⟨us, hus⟩ : ∃ us, ffL a ws k = us := ⟨_, rfl⟩
      rw [hus] at OX FBK fn FS
      have FE := Lib.hid (fix_ff a us x)
      have M := Lib.hid (show (us.map (fun u => a - u)).length = us.length from List.length_map _)
      obtain ⟨fs, hfs⟩ : ∃ fs, us.map (fun u => a - u) = fs := ⟨_, rfl⟩
      rw [hfs] at OX FE M
      have FBF := Lib.hid (show ∀ z ∈ fs, -2000 ≤ z ∧ z ≤ 2000 by
        intro z hz
        rw [← hfs] at hz
        obtain ⟨u, hu, rfl⟩ := List.mem_map.1 hz
        have := FBK.out u hu
        omega)
      have FSJ := Lib.hid (show ∀ (j : Nat) (hj : j < us.length) (hj2 : j < fs.length), us[j] + x ≤ a → ffA a us x = j → (ffS a us x).map (fun u => a - u) = fs.set j (fs[j] - x) by
        intro j hj hj2 h1 h2
        subst hfs
        unfold ffS
        rw [h2, if_pos hj, List.map_set, List.getElem_map, List.getD_eq_getElem?_getD, List.getElem?_eq_getElem hj]
        congr 1
        simp only [Option.getD_some]
        omega)
      have FSN := Lib.hid (show ¬ ffA a us x < us.length → (ffS a us x).map (fun u => a - u) = fs ++ [a - x] by
        intro h
        subst hfs
        unfold ffS
        rw [if_neg h, List.map_append]
        rfl)
      rw [← FS.out] at FSJ FSN
      obtain ⟨Au, cu, rfl⟩ := vlen_own1 OX.out
      clear hus hfs
      obtain ⟨wo, rfl⟩ : ∃ wo : World, wo = wr := ⟨_, rfl⟩
      have G1 := Lib.hid (show Below w.heap.size w (wo.alloc (.cells #[.int .i64 x] 2)) from HX.out.alloc zx _)
      have X1 := Lib.hid (show (wo.alloc (.cells #[.int .i64 x] 2)).cell? ⟨wo.heap.size, 0, none⟩ = some (.int .i64 x) from cell_of_row _ _ 0 _ _ _ (heap_alloc_new wo (.cells #[.int .i64 x] 2)))
      have O1 := Lib.hid (show (wo.alloc (.cells #[.int .i64 x] 2)).ownsRow w.heap.size 2 1 (.slice Au fs.length cu) fs.length (fs.map (Value.int .i64)) from OX.out.alloc _)
      have Y1 := Lib.hid (show wo.heap.size < (wo.alloc (.cells #[.int .i64 x] 2)).heap.size by simp)
      have hn1 : fs.length ≤ 60 := by have := M.out; omega
      have C := Lib.hid (indexFree_any (.slice Au fs.length cu) fs x wo.heap.size _ (ownInts O1.out) hn1 X1.out)
      by_cases hf : ffA a us x < us.length
      · obtain ⟨j, hj⟩ : ∃ j, ffA a us x = j := ⟨_, rfl⟩
        have hd : us[j]'(by omega) + x ≤ a := by
          have h := List.findIdx_getElem (p := fun u => decide (u + x ≤ a)) (xs := us) (w := hf)
          subst hj
          exact of_decide_eq_true h
        rw [if_pos hf, hj] at FE
        rw [hj] at hf
        have hjf : j < fs.length := by have := M.out; omega
        have FJ := Lib.hid (FSJ.out j hf hjf hd hj)
        clear hj hd
        go_wp2_with fail
        generalize hw1 : wo.alloc _ = w1 at G1 X1 O1 Y1 C ⊢
        refine C.out.mono ?_
        rintro e w' ⟨rfl, rfl⟩
        rw [FE.out]
        obtain ⟨gu, cu2, eu, hbu, hgu, hcu, hfu⟩ := own_at2 O1.out (by omega)
        obtain ⟨rfl, rfl⟩ : Au = some ⟨gu, 0, none⟩ ∧ cu = cu2 := by injection eu with q1 q2 q3; exact ⟨q1, q3⟩
        have cj := hcu j hjf
        have fz := hfu j
        have cb := X1.out
        obtain ⟨u1, u2⟩ := FBF.out _ (List.getElem_mem hjf)
        have OP := Lib.hid (own_put (w := w1.drew) (fs[j] - x) (show w1.drew.ownsRow w.heap.size 2 1 (.slice (some ⟨gu, 0, none⟩) fs.length cu) fs.length (fs.map (Value.int .i64)) from O1.out) hjf)
        have HP := Lib.hid (show Below w.heap.size w (w1.drew.setCell ⟨gu, j, none⟩ (.int .i64 (fs[j] - x))) from Below.setCell (p := ⟨gu, j, none⟩) (show Below w.heap.size w w1.drew from below_drewN G1.out 1) hbu _)
        rw [← FJ.out] at OP
        have FEL := Lib.hid (show ((ffL a ws (k + 1)).map (fun u => a - u)).length = fs.length by rw [FJ.out, List.length_set])
        clear hcu eu hw1
        generalize fs[j] = uj at *
        have wr1 : IntKind.i64.wrap (uj - x) = uj - x := IntWalk.i64_in _ (by omega)
        have jf : (j : Int) < (fs.length : Int) := by omega
        have jn : ¬ (j : Int) < 0 := by omega
        go_wp2_with fail
        go_still_tail 7, (by kernel_rfl)
        change wpList _ _ _ _ _ w1.drew
        go_wp2
        go_roundw
        case rel => exact ⟨_, k + 1, rfl, by omega, by go_num, by have h := OP.out; rw [FEL.out] at h ⊢; exact h, HP.out⟩
        case measure => simp [intOf]; omega
      · rw [if_neg hf] at FE
        have FJ := Lib.hid (FSN.out hf)
        clear hf
        have XB := Lib.hid (heap_alloc_new wo (.cells #[.int .i64 x] 2))
        go_wp2_with fail
        generalize hw1 : wo.alloc _ = w1 at G1 X1 O1 Y1 XB C ⊢
        refine C.out.mono ?_
        rintro e w' ⟨rfl, rfl⟩
        rw [FE.out]
        have z1 := G1.out.size
        clear hw1
        go_wp2_with (at_builtin; refine wpList_append_own _ rfl _ _ _ rfl w.heap.size 2 i0 (.int .i64 0) 1 8 Try.underlying35 hi0 hz0 hz1 hz2 rfl (by decide) _ _ _ rfl (O1.out.alloc _) ⟨_, 0, none⟩ 1 1 [.int .i64 a] rfl rfl (cell_one_new _ _ _) (by intro u hu; simp at hu; subst hu; rfl) (by unfold maxLen; omega) (by omega) (by simp; omega) ?_)
        intro v' w4 ho4 hg4 _
        have O4 := Lib.hid (show w4.ownsRow w.heap.size 2 1 v' (fs ++ [a]).length ((fs ++ [a]).map (Value.int .i64)) by rw [List.length_append, List.map_append]; exact ho4)
        have G4 := Lib.hid ((G1.out.alloc z1 _).grown hg4 (by simp; omega) (fun q hq => (O1.out.lt q hq).1))
        have CB := Lib.hid (show w4.cell? ⟨wo.heap.size, 0, none⟩ = some (.int .i64 x) from cell_of_row w4 _ 0 _ _ _ ((hg4.block wo.heap.size (by have := Y1.out; simp; omega) (fun e => by first | (have := (OX.out.lt _ e).2; omega) | (have := (OX.out.lt _ e.symm).2; omega))).trans ((heap_alloc_old w1 _ _ Y1.out).trans XB.out)))
        clear ho4 hg4
        have l4 : (fs ++ [a]).length = fs.length + 1 := by simp
        obtain ⟨gu, cu2, rfl, hbu, hgu, hcu, hfu⟩ := own_at2 O4.out (by omega)
        have cj := hcu fs.length (by omega)
        have fz := hfu fs.length
        rw [List.getElem_append_right (Nat.le_refl _)] at cj
        simp only [Nat.sub_self, List.getElem_cons_zero] at cj
        have cb := CB.out
        have OP := Lib.hid (own_put (w := w4.drew) (i := fs.length) (a - x) (show w4.drew.ownsRow w.heap.size 2 1 (.slice (some ⟨gu, 0, none⟩) (fs ++ [a]).length cu2) (fs ++ [a]).length ((fs ++ [a]).map (Value.int .i64)) from O4.out) (by omega))
        have ES := Lib.hid (show (fs ++ [a]).set fs.length (a - x) = fs ++ [a - x] by rw [List.set_append_right _ _ (Nat.le_refl _), Nat.sub_self]; rfl)
        rw [ES.out, ← FJ.out] at OP
        have FEL := Lib.hid (show ((ffL a ws (k + 1)).map (fun u => a - u)).length = fs.length + 1 by rw [FJ.out]; simp)
        have HP := Lib.hid (show Below w.heap.size w (w4.drew.setCell ⟨gu, fs.length, none⟩ (.int .i64 (a - x))) from Below.setCell (p := ⟨gu, fs.length, none⟩) (show Below w.heap.size w w4.drew from below_drewN G4.out 1) hbu _)
        rw [l4]
        have d5 : (fs.length : Int) < (fs.length : Int) + 1 := by omega
        have wr1 : IntKind.i64.wrap (a - x) = a - x := IntWalk.i64_in _ (by omega)
        clear hcu l4
        go_wp2_with fail
        go_still_tail 7, (by kernel_rfl)
        change wpList _ _ _ _ _ w4.drew
        go_wp2
        go_roundw
        case rel => exact ⟨_, k + 1, rfl, by omega, by go_num, by have h := OP.out; rw [FEL.out] at h ⊢; exact h, HP.out⟩
        case measure => simp [intOf]; omega
    · obtain rfl : k = ws.length := by omega
      have NF := Lib.hid (show ndF a ws = (((ffL a ws ws.length).map (fun u => a - u)).length : Int) by unfold ndF; rw [List.length_map])
      obtain ⟨Au, cu, rfl⟩ := vlen_own1 OX.out
      generalize ((ffL a ws ws.length).map (fun u => a - u)).length = m at NF ⊢
      go_wp2
      go_ret
      exact ⟨by rw [NF.out]; rfl, HX.out⟩
end Go.Proofs.Ytlphpajpjpohmab
