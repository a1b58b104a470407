/- ShelvesNeeded, by the program: contracts. Condition: numbers within their kinds, slices no longer than can be. -/
import Derived.Test.YtlphpajpjpohmabShvNb
namespace Go.Proofs.Ytlphpajpjpohmab
set_option linter.unusedSimpArgs false
set_option linter.unusedVariables false
set_option maxRecDepth 100000
open Go.RowKit


set_option maxHeartbeats 16000000 in
theorem countN_any (p : Pg) (wf : p.Wf) (v v2 : Value) (hs : List Int) (xs : List Bk) (a : Int) (wz : ∀ z ∈ hs, (Lit.int .i64 z).wf = true) (wx : ∀ b ∈ xs, b.Wf) (w : World) (s1 : IntsOf .i64 w v hs) (s2 : SliceOf w v2 xs) (h1 : hs.length ≤ maxLen) (h2 : xs.length ≤ maxLen) :
    Calls Try.prog 37 #[.agg #[.int .i16 p.lo, .int .i16 p.st, .int .i16 p.bo], v, v2, .int .i64 a, .func (.func 38) #[] #[]] w fun e w' => ∃ u, e = .returned (.tuple #[u, .int .i64 (shC p hs xs a)]) ∧ w'.ownsRow w.heap.size 2 1 u (shR (ndF a) p hs xs a).length ((shR (ndF a) p hs xs a).map (Value.int .i64)) ∧ Below w.heap.size w w' := by
  have G0 := Lib.hid (show Below w.heap.size w (w.alloc (.cells #[.int .i16 p.lo, .int .i16 p.st, .int .i16 p.bo] 40)) by go_grown)
  obtain ⟨i0, hi0, hz0, hz1, hz2⟩ := info_parts infoI64G
  have WF := Lib.hid wf
  have WZ := Lib.hid wz
  have WX := Lib.hid wx
  have S1 := Lib.hid (s1.below G0.out)
  have S2 := Lib.hid (s2.below G0.out)
  have z0 := G0.out.size
  have SV := Lib.hid s2
  have NR := Lib.hid (fun (W : World) => show W.ownsRow w.heap.size 2 1 (.slice none 0 0) ([] : List Int).length (([] : List Int).map (Value.int .i64)) from ⟨rfl, .inl ⟨rfl, rfl⟩⟩)
  clear wf wz wx s1 s2
  have E0 := Lib.hid (fun (h : shC p hs xs a ≠ 0) => show shR (ndF a) p hs xs a = [] by unfold shR; rw [if_neg h])
  rcases sh_cases p hs xs a with ⟨h3, h4⟩ | ⟨h3, h5, h4⟩ | ⟨h3, h5, h6, h4⟩ | ⟨h3, h5, h6, h7, h4⟩ | ⟨h3, h5, h6, h7, h4⟩
  · have EL := Lib.hid (E0.out (by rw [h4]; decide))
    have E := Lib.hid h4
    cases k1 : hsB p hs
    · clear h3 h4
      go_enter Try.func37, Try.ntmps37
      go_wp2_with fail
      refine (validHeights_any p WF.out v hs WZ.out _ S1.out h1).mono ?_
      rintro e w1 ⟨rfl, g1⟩
      rw [k1]
      go_wp2
      go_ret2
      exact ⟨_, by rw [E.out]; rfl, by rw [EL.out]; exact NR.out _, bnext G0.out g1⟩
    · have k2 : okB xs = false := by
        unfold gaB at h3
        rw [k1, Bool.true_and] at h3
        exact h3
      clear h3 h4
      go_enter Try.func37, Try.ntmps37
      go_wp2_with fail
      refine (validHeights_any p WF.out v hs WZ.out _ S1.out h1).mono ?_
      rintro e w1 ⟨rfl, g1⟩
      rw [k1]
      go_wp2_with fail
      refine (validBooks_any v2 xs _ (S2.out.below g1) h2).mono ?_
      rintro e w2 ⟨rfl, g2⟩
      rw [k2]
      go_wp2
      go_ret2
      exact ⟨_, by rw [E.out]; rfl, by rw [EL.out]; exact NR.out _, bnext (bnext G0.out g1) g2⟩
  all_goals
    have E := Lib.hid h4
    obtain ⟨k1, k2⟩ := gaB_true h3
    have K2 := Lib.hid k2
    have l6 := (hsB_len k1).2.2
    have l60 := okB_len k2
    try (have EL := Lib.hid (E0.out (by rw [h4]; decide)))
    clear h3 h4
    go_enter Try.func37, Try.ntmps37
    go_wp2_with fail
    refine (validHeights_any p WF.out v hs WZ.out _ S1.out h1).mono ?_
    rintro e w1 ⟨rfl, g1⟩
    rw [k1]
    go_wp2_with fail
    refine (validBooks_any v2 xs _ (S2.out.below g1) h2).mono ?_
    rintro e w2 ⟨rfl, g2⟩
    rw [k2]
    clear k1 k2
    have B2 := Lib.hid (bnext (bnext G0.out g1) g2)
    have S1 := Lib.hid (S1.out.below (bnext g1 g2))
    have S2 := Lib.hid (S2.out.below (bnext g1 g2))
    clear g1 g2
    go_wp2_with fail
    refine (withinS_any _ _ _ _).mono ?_
    rintro e w' ⟨rfl, rfl⟩
    rw [h5]
  · go_wp2
    go_ret2
    exact ⟨_, by rw [E.out]; rfl, by rw [EL.out]; exact NR.out _, B2.out⟩
  all_goals
    have ha : 1 ≤ a ∧ a ≤ 2000 := by unfold inB at h5; simpa using h5
    obtain ⟨a1, a2⟩ := ha
    clear h5
    go_wp2_with fail
    refine (groupsOf_any v v2 hs xs WX.out _ S1.out S2.out l6 l60).mono ?_
    rintro e w3 ⟨u3, z3, rfl, hor, g3⟩
    have B3 := Lib.hid (bnext B2.out g3)
    have S2 := Lib.hid (S2.out.below g3)
    have zz2 := B2.out.size
    have zz3 := g3.size
    clear g3
  · obtain ⟨rfl, rfl⟩ : z3 = 6 ∧ u3 = .slice none 0 0 := by
      rcases hor with ⟨h, _⟩ | ⟨_, h1, h2⟩
      · rw [h6] at h; cases h
      · exact ⟨h1, h2⟩
    clear hor h6
    go_wp2
    go_ret2
    exact ⟨_, by rw [E.out]; rfl, by rw [EL.out]; exact NR.out _, B3.out⟩
  all_goals
    obtain ⟨rfl, rfl, htg⟩ : z3 = 0 ∧ u3 = .slice (some ⟨w2.heap.size, 0, none⟩) hs.length hs.length ∧ TG w3 (w2.heap.size + 1) w2.heap.size hs.length (fun i => grP hs xs i xs.length) := by
      rcases hor with ⟨_, h1, h2, h3⟩ | ⟨h, _⟩
      · exact ⟨h1, h2, h3⟩
      · rw [h6] at h; cases h
    have TT := Lib.hid htg
    clear hor h6 htg
    go_wp2_with fail
    refine (tooWide_any v2 xs a WX.out _ S2.out l60).mono ?_
    rintro e w4 ⟨rfl, g4⟩
    rw [h7]
    have B4 := Lib.hid (bnext B3.out g4)
    have T4 := Lib.hid (TT.out.below g4)
    have z4 := B4.out.size
    clear g4 h7
  · go_wp2
    go_ret2
    exact ⟨_, by rw [E.out]; rfl, by rw [EL.out]; exact NR.out _, B4.out⟩
  · have EL := Lib.hid (show shR (ndF a) p hs xs a = shTo (ndF a) hs xs hs.length by unfold shR; rw [E.out]; rfl)
    have WB := Lib.hid (fun i => wdL_bd (hs := hs) K2.out i)
    have GM := Lib.hid (fun i j hj => grP_mem (hs := hs) (xs := xs) (i := i) xs.length (Nat.le_refl _) j hj)
    have GL := Lib.hid (fun i => grP_len hs xs i xs.length)
    have O0 := Lib.hid (show w4.ownsRow w4.heap.size 2 1 (.slice none 0 0) (shTo (ndF a) hs xs 0).length ((shTo (ndF a) hs xs 0).map (Value.int .i64)) from ⟨rfl, .inl ⟨rfl, rfl⟩⟩)
    obtain ⟨B, d, rfl, hat2⟩ := SV.out
    have H2 := Lib.hid hat2
    have zT : w2.heap.size < w4.heap.size := T4.out.lt
    clear hat2
    go_wp2
    go_loopw [14, 46] (fun u_ i_ wr => ∃ (u : Value) (i : Nat), u = u_ ∧ i ≤ hs.length ∧ i_ = .int .i64 (i : Int) ∧ wr.ownsRow w4.heap.size 2 1 u (shTo (ndF a) hs xs i).length ((shTo (ndF a) hs xs i).map (Value.int .i64)) ∧ Below w4.heap.size w4 wr) (fun _ i_ _ => hs.length - (intOf i_).toNat)
    case atStart => exact ⟨_, 0, rfl, Nat.zero_le _, rfl, O0.out, Below.refl _ _⟩
    case round =>
      obtain ⟨u, i, rfl, hi, rfl, ho, hb⟩ := hrel
      have OW := Lib.hid ho
      have HB := Lib.hid hb
      have zr := hb.size
      have SL := Lib.hid (shTo_length (ndF a) hs xs i)
      clear ho hb
      by_cases hlt : i < hs.length
      · obtain ⟨vg, cv, og⟩ := (T4.out.below HB.out).cell i hlt
        have WBI := Lib.hid (WB.out i)
        have GMI := Lib.hid (GM.out i)
        have GLI := GL.out i
        replace og : wr.ownsRow (w2.heap.size + 1) 2 1 vg (grP hs xs i xs.length).length ((grP hs xs i xs.length).map (Value.int .i64)) := og
        obtain ⟨l, hl⟩ : ∃ l, grP hs xs i xs.length = l := ⟨_, rfl⟩
        have SE := Lib.hid (show shTo (ndF a) hs xs (i + 1) = shTo (ndF a) hs xs i ++ [(ndF a) (wdL xs l)] by rw [shTo, hl])
        rw [hl] at WBI GMI GLI og
        have OG := Lib.hid og
        have WLn := Lib.hid (wdL_length xs l)
        obtain ⟨Ag, cg, rfl⟩ := vlen_own1 og
        obtain ⟨wo, rfl⟩ : ∃ wo : World, wo = wr := ⟨_, rfl⟩
        have P0 := Lib.hid (show wo.ownsRow wo.heap.size 2 1 (.slice none 0 0) ((wdL xs l).take 0).length (((wdL xs l).take 0).map (Value.int .i64)) from ⟨rfl, .inl ⟨rfl, rfl⟩⟩)
        clear hl og
        go_wp2
        go_loopw [17, 52] (fun w_ k_ wx => ∃ (uw : Value) (k : Nat), uw = w_ ∧ k ≤ l.length ∧ k_ = .int .i64 (k : Int) ∧ wx.ownsRow wo.heap.size 2 1 uw ((wdL xs l).take k).length (((wdL xs l).take k).map (Value.int .i64)) ∧ Below wo.heap.size wo wx) (fun _ k_ _ => l.length - (intOf k_).toNat)
        case atStart => exact ⟨_, 0, rfl, Nat.zero_le _, rfl, P0.out, Below.refl _ _⟩
        case round =>
          obtain ⟨uw, k, rfl, hk, rfl, ho, hb⟩ := hrel
          have OX := Lib.hid ho
          have HX := Lib.hid hb
          have zx := hb.size
          have TL0 := Lib.hid (show ((wdL xs l).take k).length = k by rw [List.length_take, WLn.out]; omega)
          clear ho hb
          by_cases hlk : k < l.length
          · obtain ⟨gg, cg2, eg, hgg, hcg⟩ := own_at OG.out (by omega)
            obtain ⟨rfl, rfl⟩ : Ag = some ⟨gg, 0, none⟩ ∧ cg = cg2 := by injection eg with q1 q2 q3; exact ⟨q1, q3⟩
            have c2 := (HX.out.cell (p := ⟨gg, k, none⟩) hgg).trans (hcg k hlk)
            obtain ⟨n', hn', hnl, -⟩ := GMI.out l[k] (List.getElem_mem hlk)
            obtain ⟨gb, ob, rfl, hgb, hcb⟩ := H2.out (by omega)
            have bw := bnext (bnext B4.out HB.out) HX.out
            obtain ⟨p0, p1, p2, p3, p4, p5, p6, p7⟩ := booksAt_some (hcb.below bw hgb) hnl
            have eb : bkA xs l[k] = xs[n'] := by rw [hn']; simp [bkA, List.getD, List.getElem?_eq_getElem hnl]
            have TS := Lib.hid (show (wdL xs l).take (k + 1) = (wdL xs l).take k ++ [xs[n'].wi] by
              rw [List.take_succ_eq_append_getElem (by rw [WLn.out]; exact hlk)]
              congr 2
              simp only [wdL, List.getElem_map]
              rw [eb])
            rw [hn'] at c2
            have nn : (n' : Int) < (xs.length : Int) := by omega
            have kl : (k : Int) < (l.length : Int) := by omega
            have WB1 := Lib.hid (WX.out _ (List.getElem_mem hnl))
            clear hcb hcg hn' eb eg bw
            generalize xs[n'] = b at *
            go_wp2_with fail
            refine (wideKeyP_any b WB1.out _).mono ?_
            rintro e w7 ⟨rfl, g7⟩
            have O7 := Lib.hid (ownBelow OX.out g7)
            have H7 := Lib.hid (bnext HX.out g7)
            have z7 := H7.out.size
            clear g7 c2 p0 p1 p2 p3 p4 p5 p6 p7
            have tl := TL0.out
            go_wp2_with (at_builtin; refine wpList_append_own _ rfl _ _ _ rfl wo.heap.size 2 i0 (.int .i64 0) 1 8 Try.underlying35 hi0 hz0 hz1 hz2 rfl (by decide) _ _ _ rfl (O7.out.alloc _) ⟨_, 0, none⟩ 1 1 [.int .i64 b.wi] rfl rfl (cell_one_new _ _ _) (by intro u hu; simp at hu; subst hu; rfl) (by unfold maxLen; omega) (by omega) (by simp; omega) ?_)
            intro v' w8 ho8 hg8 _
            have O8 := Lib.hid (show w8.ownsRow wo.heap.size 2 1 v' ((wdL xs l).take (k + 1)).length (((wdL xs l).take (k + 1)).map (Value.int .i64)) by rw [TS.out, List.length_append, List.map_append]; first | exact ho8 | (rw [TL0.out, List.map_take]; exact ho8) | (rw [TL0.out]; exact ho8))
            have H8 := Lib.hid ((H7.out.alloc z7 _).grown hg8 (by simp; omega) (fun q hq => (O7.out.lt q hq).1))
            clear ho8 hg8 tl
            go_wp2
            go_roundw
            case rel => exact ⟨_, k + 1, rfl, by omega, by go_num, O8.out, H8.out⟩
            case measure => simp [intOf]; omega
          · obtain rfl : k = l.length := by omega
            have OE := Lib.hid (show wr.ownsRow wo.heap.size 2 1 uw (wdL xs l).length ((wdL xs l).map (Value.int .i64)) by have := OX.out; rwa [List.take_of_length_le (by rw [WLn.out]; exact Nat.le_refl _)] at this)
            have lw : (wdL xs l).length ≤ 60 := by rw [WLn.out]; omega
            have CC := Lib.hid (filledInTurn_any uw (wdL xs l) a wr (ownInts OE.out) WBI.out lw a1 a2)
            have OW7 := Lib.hid (ownBelow OW.out HX.out)
            have H7 := Lib.hid (bnext HB.out HX.out)
            clear lw
            go_wp2_with fail
            refine CC.out.mono ?_
            rintro e w7 ⟨rfl, g7⟩
            obtain ⟨q, hq⟩ : ∃ q, (ndF a) (wdL xs l) = q := ⟨_, rfl⟩
            rw [hq] at SE ⊢
            have O7 := Lib.hid (ownBelow OW7.out g7)
            have H7 := Lib.hid (bnext H7.out g7)
            have z7 := H7.out.size
            have sl := SL.out
            clear hq g7
            go_wp2_with (at_builtin; refine wpList_append_own _ rfl _ _ _ rfl w4.heap.size 2 i0 (.int .i64 0) 1 8 Try.underlying35 hi0 hz0 hz1 hz2 rfl (by decide) _ _ _ rfl (O7.out.alloc _) ⟨_, 0, none⟩ 1 1 [.int .i64 q] rfl rfl (cell_one_new _ _ _) (by intro u hu; simp at hu; subst hu; rfl) (by unfold maxLen; omega) (by omega) (by simp; omega) ?_)
            intro v' w8 ho8 hg8 _
            have O8 := Lib.hid (show w8.ownsRow w4.heap.size 2 1 v' (shTo (ndF a) hs xs (i + 1)).length ((shTo (ndF a) hs xs (i + 1)).map (Value.int .i64)) by rw [SE.out, List.length_append, List.map_append]; first | exact ho8 | (rw [SL.out]; exact ho8))
            have H8 := Lib.hid ((H7.out.alloc z7 _).grown hg8 (by simp; omega) (fun q hq => (O7.out.lt q hq).1))
            clear ho8 hg8 sl
            go_wp2
            go_roundw
            case rel => exact ⟨_, i + 1, rfl, by omega, by go_num, O8.out, H8.out⟩
            case measure => simp [intOf]; omega
      · obtain rfl : i = hs.length := by omega
        go_wp2
        go_ret2
        exact ⟨_, by rw [E.out]; rfl, by rw [EL.out]; exact ownMono OW.out z4, bnext B4.out HB.out⟩

set_option maxHeartbeats 2000000 in
theorem shelvesNeeded_any (p : Pg) (wf : p.Wf) (v v2 : Value) (hs : List Int) (xs : List Bk) (a : Int) (wz : ∀ z ∈ hs, (Lit.int .i64 z).wf = true) (wx : ∀ b ∈ xs, b.Wf) (w : World) (s1 : IntsOf .i64 w v hs) (s2 : SliceOf w v2 xs) (h1 : hs.length ≤ maxLen) (h2 : xs.length ≤ maxLen) :
    Calls Try.prog 17 #[.agg #[.int .i16 p.lo, .int .i16 p.st, .int .i16 p.bo], v, v2, .int .i64 a] w fun e w' => ∃ u, e = .returned (.tuple #[u, .int .i64 (shC p hs xs a)]) ∧ w'.ownsRow w.heap.size 2 1 u (shR (ndF a) p hs xs a).length ((shR (ndF a) p hs xs a).map (Value.int .i64)) ∧ Below w.heap.size w w' := by
  have G0 := Lib.hid (show Below w.heap.size w (w.alloc (.cells #[.int .i16 p.lo, .int .i16 p.st, .int .i16 p.bo] 40)) by go_grown)
  have C := Lib.hid (countN_any p wf v v2 hs xs a wz wx _ (s1.below G0.out) (s2.below G0.out) h1 h2)
  have z0 := G0.out.size
  clear wf wz wx s1 s2
  go_enter Try.func17, Try.ntmps17
  go_wp2_with fail
  refine C.out.mono ?_
  rintro e w1 ⟨u, rfl, ho, g1⟩
  have OW := Lib.hid ho
  obtain ⟨Au, cu, rfl⟩ := vlen_own1 ho
  clear ho C
  go_wp2
  go_ret2
  exact ⟨_, rfl, ownMono OW.out z0, bnext G0.out g1⟩
end Go.Proofs.Ytlphpajpjpohmab
