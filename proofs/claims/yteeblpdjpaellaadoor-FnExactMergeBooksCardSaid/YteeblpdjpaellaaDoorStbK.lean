/- The merge of the library's stable sort, at books, whole: a contract over the comparison's. Condition: at most 1048576 books in a block of their own. -/
import Derived.Test.YteeblpdjpaellaaDoorStbJ
namespace Go.Proofs.YteeblpdjpaellaaDoor
set_option linter.unusedSimpArgs false
set_option linter.unusedVariables false
set_option maxRecDepth 100000
open Go.RowKit Stab

theorem guard_of {x y u v : Nat} (h : x < y ∧ u < v) : x < y ∧ u < v ∧ decide (x < y) = true ∧ decide (u < v) = true := by
  refine ⟨by omega, by omega, ?_, ?_⟩ <;> simp <;> omega
theorem guard_no {x y u v : Nat} (h : ¬ (x < y ∧ u < v)) : (¬ (x < y) ∧ decide (x < y) = false) ∨ (x < y ∧ ¬ (u < v) ∧ decide (x < y) = true ∧ decide (u < v) = false) := by
  by_cases h1 : x < y
  · refine .inr ⟨by omega, by omega, ?_, ?_⟩ <;> simp <;> omega
  · refine .inl ⟨by omega, ?_⟩
    simp; omega
theorem ok_swR {ok : Bk → Prop} {l : List Bk} {n a b : Nat} (hl : l.length = n) (h : ∀ k, k < n → ok (l.getD k default)) : ∀ q, a + q ≤ n → b + q ≤ n → ∀ k, k < n → ok ((swR l a b q).getD k default)
  | 0, _, _ => h
  | q + 1, h1, h2 => by rw [swR]; exact ok_sw (by rw [swR_length]; exact hl) (ok_swR hl h q (by omega) (by omega)) (by omega) (by omega)
theorem ok_rot {ok : Bk → Prop} {n : Nat} : ∀ {l : List Bk}, l.length = n → (∀ k, k < n → ok (l.getD k default)) → ∀ (f m i j : Nat), i ≤ m → m + j ≤ n → i ≤ n → ∀ k, k < n → ok ((rotF f l m i j).getD k default)
  | l, hl, h, 0, m, i, j, _, _, _ => h
  | l, hl, h, f + 1, m, i, j, h1, h2, h3 => by
    rw [rotF]
    split
    · exact ok_swR hl h i (by omega) (by omega)
    · split
      · exact ok_rot (by rw [swR_length]; exact hl) (ok_swR hl h j (by omega) (by omega)) f m (i - j) j (by omega) h2 (by omega)
      · exact ok_rot (by rw [swR_length]; exact hl) (ok_swR hl h i (by omega) (by omega)) f m i (j - i) h1 (by omega) h3

set_option maxHeartbeats 16000000 in
theorem sym_any (g n cap bx : Nat) (ok : Bk → Prop) (cf : Bk → Bk → Int) (w0 : World) (hc : CmpI g bx w0 ok cf) (hn : n ≤ 1048576) : ∀ (fu a m b : Nat) (l : List Bk) (w : World), b - a ≤ fu → a < m → m < b → b ≤ n → RowO cap ok w g n l → w0.grownBy w (some g) →
    Calls Tryd.prog 90 #[.slice (some ⟨g, 0, none⟩) n cap, .int .i64 (a : Int), .int .i64 (m : Int), .int .i64 (b : Int), .func (.func 68) #[] #[.pointer (some ⟨bx, 0, none⟩)]] w fun e w' => e = .returned (.tuple #[]) ∧ RowO cap ok w' g n (symF (ltC cf) fu l a m b) ∧ w.grownBy w' (some g) := by
  intro fu
  induction fu with
  | zero => intro a m b l w hf ha hm hb _ _; omega
  | succ fu ih =>
    intro a m b l w hf ha hm hb h h0
    have IHR := Lib.hid ih
    clear ih
    have HR := Lib.hid h
    have H0 := Lib.hid h0
    have HC := Lib.hid hc
    clear h h0 hc
    have HT := Lib.hid (show ∃ T, symF (ltC cf) (fu + 1) l a m b = T from ⟨_, rfl⟩)
    obtain ⟨T, hT⟩ := HT.out
    rw [hT]
    have HT := Lib.hid hT
    clear hT
    have an : a < n := by omega
    have mn : m < n := by omega
    by_cases h1 : m - a = 1
    · have hma : m = a + 1 := by omega
      have w1 : (m : Int) - (a : Int) = 1 := by omega
      obtain ⟨P, hP⟩ : ∃ P : Nat → Bool, P = fun h => ltC cf (l.getD h default) (l.getD a default) := ⟨_, rfl⟩
      have HPV := Lib.hid (show ∀ h, P h = decide (cf (l.getD h default) (l.getD a default) < 0) by rw [hP]; intro h; rfl)
      have HS := Lib.hid (show ∃ r, bsF P (b - m + 1) m b = r from ⟨_, rfl⟩)
      obtain ⟨r, hS⟩ := HS.out
      have E := Lib.hid (show upF l a (r - 1 - a) = T by rw [← HT.out, symF, if_pos h1, ← hP, hS])
      clear hP
      have HS := Lib.hid hS
      have HMA := Lib.hid hma
      clear hS h1 hma
      go_enter Tryd.func90, Tryd.ntmps90
      go_wp2
      go_loopw [10, 11] (fun i_ j_ wr => ∃ (i j q : Nat), i_ = .int .i64 (i : Int) ∧ j_ = .int .i64 (j : Int) ∧ m ≤ i ∧ i ≤ j ∧ j ≤ b ∧ j - i < q ∧ bsF P q i j = r ∧ RowO cap ok wr g n l ∧ w.grownBy wr (some g)) (fun i_ j_ _ => (intOf j_).toNat - (intOf i_).toNat)
      case atStart => exact ⟨m, b, b - m + 1, rfl, rfl, Nat.le_refl _, by omega, Nat.le_refl _, by omega, HS.out, HR.out, World.grownBy.refl w _⟩
      case round =>
        obtain ⟨i, j, q, rfl, rfl, hmi, hij, hjb, hq, hS, hr, hg⟩ := hrel
        obtain ⟨q', rfl⟩ : ∃ q', q = q' + 1 := ⟨q - 1, by omega⟩
        have HG := Lib.hid hg
        have HW := Lib.hid hr
        have HS := Lib.hid hS
        clear hg hr hS
        by_cases hlt : i < j
        · have hlt' : (i : Int) < (j : Int) := by omega
          obtain ⟨h, hh⟩ : ∃ h : Nat, h = (i + j) / 2 := ⟨_, rfl⟩
          have w2 : ((i : Int) + (j : Int)) / 2 = (h : Int) := by omega
          have hhn : h < n := by omega
          have hih : i ≤ h := by omega
          have hhj : h < j := by omega
          obtain ⟨c1_0, c1_1, c1_2, c1_3, c1_4, c1_5, c1_6, c1_7⟩ := HW.out.1.cells h hhn
          obtain ⟨c2_0, c2_1, c2_2, c2_3, c2_4, c2_5, c2_6, c2_7⟩ := HW.out.1.cells a an
          have o1 := HW.out.2 h hhn
          have o2 := HW.out.2 a an
          have ES := Lib.hid (show (if P h = true then bsF P q' (h + 1) j else bsF P q' i h) = r by rw [← HS.out, bsF, if_pos hlt, ← hh])
          have CC := Lib.hid (fun W hW => HC.out W (H0.out.trans (HG.out.trans hW)) _ _ o1 o2)
          have zg := HW.out.1.lt
          have d1_0 := belowBy_cell zg c1_0
          have d1_1 := belowBy_cell zg c1_1
          have d1_2 := belowBy_cell zg c1_2
          have d1_3 := belowBy_cell zg c1_3
          have d1_4 := belowBy_cell zg c1_4
          have d1_5 := belowBy_cell zg c1_5
          have d1_6 := belowBy_cell zg c1_6
          have d1_7 := belowBy_cell zg c1_7
          have d2_0 := belowBy_cell zg c2_0
          have d2_1 := belowBy_cell zg c2_1
          have d2_2 := belowBy_cell zg c2_2
          have d2_3 := belowBy_cell zg c2_3
          have d2_4 := belowBy_cell zg c2_4
          have d2_5 := belowBy_cell zg c2_5
          have d2_6 := belowBy_cell zg c2_6
          have d2_7 := belowBy_cell zg c2_7
          have HV := Lib.hid (HPV.out h)
          generalize l.getD h default = y at c1_0 c1_1 c1_2 c1_3 c1_4 c1_5 c1_6 c1_7 o1 d1_0 d1_1 d1_2 d1_3 d1_4 d1_5 d1_6 d1_7 HV CC
          generalize l.getD a default = x at c2_0 c2_1 c2_2 c2_3 c2_4 c2_5 c2_6 c2_7 o2 d2_0 d2_1 d2_2 d2_3 d2_4 d2_5 d2_6 d2_7 HV CC
          clear c1_0 c1_1 c1_2 c1_3 c1_4 c1_5 c1_6 c1_7 c2_0 c2_1 c2_2 c2_3 c2_4 c2_5 c2_6 c2_7 o1 o2 hh
          by_cases hcf : cf y x < 0
          · have hd2 : decide (cf y x < 0) = true := by simpa using hcf
            have E2 := Lib.hid ((if_pos (HV.out.trans hd2)).symm.trans ES.out)
            go_wp2
            refine wp_region_below (by kernel_rfl) (by kernel_rfl) ?_
            repeat (go_big_quiet_step ((go_at_call 68; exact calls_below (CC.out _ (gbelow (BelowBy.h _))))))
            refine wpQuiet_nil ?_
            rintro wq ⟨⟨_, hqw⟩, rfl⟩
            clear d1_0 d1_1 d1_2 d1_3 d1_4 d1_5 d1_6 d1_7 d2_0 d2_1 d2_2 d2_3 d2_4 d2_5 d2_6 d2_7
            have HG2 := Lib.hid (HG.out.trans (gbelow (row := some g) hqw))
            have HW2 := Lib.hid (show RowO cap ok wq g n l from ⟨HW.out.1.below hqw, HW.out.2⟩)
            go_wp2
            go_roundw
            case rel => exact ⟨h + 1, j, q', by go_num, rfl, by omega, by omega, hjb, by omega, E2.out, HW2.out, HG2.out⟩
            case measure => simp [intOf]; omega
          · have hd2 : decide (cf y x < 0) = false := by simpa using hcf
            have E2 := Lib.hid ((if_neg (by rw [HV.out, hd2]; decide)).symm.trans ES.out)
            go_wp2
            refine wp_region_below (by kernel_rfl) (by kernel_rfl) ?_
            repeat (go_big_quiet_step ((go_at_call 68; exact calls_below (CC.out _ (gbelow (BelowBy.h _))))))
            refine wpQuiet_nil ?_
            rintro wq ⟨⟨_, hqw⟩, rfl⟩
            clear d1_0 d1_1 d1_2 d1_3 d1_4 d1_5 d1_6 d1_7 d2_0 d2_1 d2_2 d2_3 d2_4 d2_5 d2_6 d2_7
            have HG2 := Lib.hid (HG.out.trans (gbelow (row := some g) hqw))
            have HW2 := Lib.hid (show RowO cap ok wq g n l from ⟨HW.out.1.below hqw, HW.out.2⟩)
            go_wp2
            go_roundw
            case rel => exact ⟨i, h, q', rfl, rfl, hmi, by omega, by omega, by omega, E2.out, HW2.out, HG2.out⟩
            case measure => simp [intOf]; omega
        · have hlt' : ¬ ((i : Int) < (j : Int)) := by omega
          have hr : i = r := by rw [← HS.out, bsF, if_neg hlt]
          subst hr
          go_wp2
          clear hlt hlt'
          go_loopw [13] (fun k_ ws => ∃ (k d : Nat), k_ = .int .i64 (k : Int) ∧ k = a + d ∧ d ≤ i - 1 - a ∧ RowO cap ok ws g n (upF l a d) ∧ w.grownBy ws (some g)) (fun k_ _ => i - 1 - (intOf k_).toNat)
          case atStart => exact ⟨a, 0, rfl, rfl, Nat.zero_le _, HW.out, HG.out⟩
          case round =>
            obtain ⟨k, d, rfl, hk, hd, hr, hg⟩ := hrel
            have HG := Lib.hid hg
            have HW := Lib.hid hr
            have HK := Lib.hid hk
            clear hg hr
            by_cases hlt : k < i - 1
            · have hlt' : (k : Int) < (i : Int) - 1 := by omega
              obtain ⟨p, hp⟩ : ∃ p : Nat, p = k + 1 := ⟨_, rfl⟩
              have w2 : (k : Int) + 1 = (p : Int) := by omega
              have hkn : k < n := by omega
              have hpn : p < n := by omega
              have hkp : ¬ k = p := by omega
              have hd2 : d + 1 ≤ i - 1 - a := by omega
              have ES := Lib.hid (show upF l a (d + 1) = Stab.sw (upF l a d) k p by rw [upF, hp, hk])
              have HP := Lib.hid (show p = a + (d + 1) by omega)
              clear hk hd hp
              generalize upF l a d = l' at HW ES
              obtain ⟨c1_0, c1_1, c1_2, c1_3, c1_4, c1_5, c1_6, c1_7⟩ := HW.out.1.cells k hkn
              obtain ⟨c2_0, c2_1, c2_2, c2_3, c2_4, c2_5, c2_6, c2_7⟩ := HW.out.1.cells p hpn
              have fz := HW.out.1.frozen
              have SW := Lib.hid (HW.out.1.sw k p hkn hpn)
              have OS := Lib.hid (ok_sw HW.out.1.1 HW.out.2 hkn hpn)
              generalize l'.getD k default = x at c1_0 c1_1 c1_2 c1_3 c1_4 c1_5 c1_6 c1_7 SW
              generalize l'.getD p default = y at c2_0 c2_1 c2_2 c2_3 c2_4 c2_5 c2_6 c2_7 SW
              go_wp2
              go_region
              go_wp2
              go_roundw
              case rel => exact ⟨p, d + 1, rfl, HP.out, hd2, by rw [ES.out]; show RowO cap ok (World.drew (set8 (set8 wr g (k * 8) y) g (p * 8) x)) g n _; exact ⟨SW.out, OS.out⟩, by show World.grownBy _ (World.drew (set8 (set8 wr g (k * 8) y) g (p * 8) x)) _; exact gdrew (gset8 (gset8 HG.out _ _) _ _)⟩
              case measure => simp [intOf]; omega
            · have hlt' : ¬ ((k : Int) < (i : Int) - 1) := by omega
              obtain rfl : d = i - 1 - a := by omega
              have E3 := E.out
              clear hk hd
              go_wp2
              go_returns
              exact ⟨rfl, by rw [← E3]; exact HW.out, HG.out⟩
    · obtain ⟨u, hu⟩ : ∃ u : Nat, u = m - a := ⟨_, rfl⟩
      have w1 : (m : Int) - (a : Int) = (u : Int) := by omega
      have d1 : ((u : Int) == 1) = false := by rw [beq_eq_false_iff_ne]; omega
      by_cases h2 : b - m = 1
      · have w3 : (b : Int) - (m : Int) = 1 := by omega
        obtain ⟨P, hP⟩ : ∃ P : Nat → Bool, P = fun h => !(ltC cf (l.getD m default) (l.getD h default)) := ⟨_, rfl⟩
        have HPV := Lib.hid (show ∀ h, P h = !(decide (cf (l.getD m default) (l.getD h default) < 0)) by rw [hP]; intro h; rfl)
        have HS := Lib.hid (show ∃ r, bsF P (m - a + 1) a m = r from ⟨_, rfl⟩)
        obtain ⟨r, hS⟩ := HS.out
        have E := Lib.hid (show downF l m (m - r) = T by rw [← HT.out, symF, if_neg h1, if_pos h2, ← hP, hS])
        clear hP
        have HS := Lib.hid hS
        clear hS h1 h2 hu
        go_enter Tryd.func90, Tryd.ntmps90
        go_wp2
        go_loopw [14, 15] (fun i_ j_ wr => ∃ (i j q : Nat), i_ = .int .i64 (i : Int) ∧ j_ = .int .i64 (j : Int) ∧ a ≤ i ∧ i ≤ j ∧ j ≤ m ∧ j - i < q ∧ bsF P q i j = r ∧ RowO cap ok wr g n l ∧ w.grownBy wr (some g)) (fun i_ j_ _ => (intOf j_).toNat - (intOf i_).toNat)
        case atStart => exact ⟨a, m, m - a + 1, rfl, rfl, Nat.le_refl _, by omega, Nat.le_refl _, by omega, HS.out, HR.out, World.grownBy.refl w _⟩
        case round =>
          obtain ⟨i, j, q, rfl, rfl, hmi, hij, hjb, hq, hS, hr, hg⟩ := hrel
          obtain ⟨q', rfl⟩ : ∃ q', q = q' + 1 := ⟨q - 1, by omega⟩
          have HG := Lib.hid hg
          have HW := Lib.hid hr
          have HS := Lib.hid hS
          clear hg hr hS
          by_cases hlt : i < j
          · have hlt' : (i : Int) < (j : Int) := by omega
            obtain ⟨h, hh⟩ : ∃ h : Nat, h = (i + j) / 2 := ⟨_, rfl⟩
            have w2 : ((i : Int) + (j : Int)) / 2 = (h : Int) := by omega
            have hhn : h < n := by omega
            have hih : i ≤ h := by omega
            have hhj : h < j := by omega
            obtain ⟨c1_0, c1_1, c1_2, c1_3, c1_4, c1_5, c1_6, c1_7⟩ := HW.out.1.cells m mn
            obtain ⟨c2_0, c2_1, c2_2, c2_3, c2_4, c2_5, c2_6, c2_7⟩ := HW.out.1.cells h hhn
            have o1 := HW.out.2 m mn
            have o2 := HW.out.2 h hhn
            have ES := Lib.hid (show (if P h = true then bsF P q' (h + 1) j else bsF P q' i h) = r by rw [← HS.out, bsF, if_pos hlt, ← hh])
            have CC := Lib.hid (fun W hW => HC.out W (H0.out.trans (HG.out.trans hW)) _ _ o1 o2)
            have zg := HW.out.1.lt
            have d2_0 := belowBy_cell zg c1_0
            have d2_1 := belowBy_cell zg c1_1
            have d2_2 := belowBy_cell zg c1_2
            have d2_3 := belowBy_cell zg c1_3
            have d2_4 := belowBy_cell zg c1_4
            have d2_5 := belowBy_cell zg c1_5
            have d2_6 := belowBy_cell zg c1_6
            have d2_7 := belowBy_cell zg c1_7
            have d3_0 := belowBy_cell zg c2_0
            have d3_1 := belowBy_cell zg c2_1
            have d3_2 := belowBy_cell zg c2_2
            have d3_3 := belowBy_cell zg c2_3
            have d3_4 := belowBy_cell zg c2_4
            have d3_5 := belowBy_cell zg c2_5
            have d3_6 := belowBy_cell zg c2_6
            have d3_7 := belowBy_cell zg c2_7
            have HV := Lib.hid (HPV.out h)
            generalize l.getD m default = y at c1_0 c1_1 c1_2 c1_3 c1_4 c1_5 c1_6 c1_7 o1 d2_0 d2_1 d2_2 d2_3 d2_4 d2_5 d2_6 d2_7 HV CC
            generalize l.getD h default = x at c2_0 c2_1 c2_2 c2_3 c2_4 c2_5 c2_6 c2_7 o2 d3_0 d3_1 d3_2 d3_3 d3_4 d3_5 d3_6 d3_7 HV CC
            clear c1_0 c1_1 c1_2 c1_3 c1_4 c1_5 c1_6 c1_7 c2_0 c2_1 c2_2 c2_3 c2_4 c2_5 c2_6 c2_7 o1 o2 hh
            by_cases hcf : cf y x < 0
            · have hd2 : decide (cf y x < 0) = true := by simpa using hcf
              have E2 := Lib.hid ((if_neg (by rw [HV.out, hd2]; decide)).symm.trans ES.out)
              go_wp2
              refine wp_region_below (by kernel_rfl) (by kernel_rfl) ?_
              repeat (go_big_quiet_step ((go_at_call 68; exact calls_below (CC.out _ (gbelow (BelowBy.h _))))))
              refine wpQuiet_nil ?_
              rintro wq ⟨⟨_, hqw⟩, rfl⟩
              clear d2_0 d2_1 d2_2 d2_3 d2_4 d2_5 d2_6 d2_7 d3_0 d3_1 d3_2 d3_3 d3_4 d3_5 d3_6 d3_7
              have HG2 := Lib.hid (HG.out.trans (gbelow (row := some g) hqw))
              have HW2 := Lib.hid (show RowO cap ok wq g n l from ⟨HW.out.1.below hqw, HW.out.2⟩)
              go_wp2
              go_roundw
              case rel => exact ⟨i, h, q', rfl, rfl, hmi, by omega, by omega, by omega, E2.out, HW2.out, HG2.out⟩
              case measure => simp [intOf]; omega
            · have hd2 : decide (cf y x < 0) = false := by simpa using hcf
              have E2 := Lib.hid ((if_pos (by rw [HV.out, hd2]; rfl)).symm.trans ES.out)
              go_wp2
              refine wp_region_below (by kernel_rfl) (by kernel_rfl) ?_
              repeat (go_big_quiet_step ((go_at_call 68; exact calls_below (CC.out _ (gbelow (BelowBy.h _))))))
              refine wpQuiet_nil ?_
              rintro wq ⟨⟨_, hqw⟩, rfl⟩
              clear d2_0 d2_1 d2_2 d2_3 d2_4 d2_5 d2_6 d2_7 d3_0 d3_1 d3_2 d3_3 d3_4 d3_5 d3_6 d3_7
              have HG2 := Lib.hid (HG.out.trans (gbelow (row := some g) hqw))
              have HW2 := Lib.hid (show RowO cap ok wq g n l from ⟨HW.out.1.below hqw, HW.out.2⟩)
              go_wp2
              go_roundw
              case rel => exact ⟨h + 1, j, q', by go_num, rfl, by omega, by omega, hjb, by omega, E2.out, HW2.out, HG2.out⟩
              case measure => simp [intOf]; omega
          · have hlt' : ¬ ((i : Int) < (j : Int)) := by omega
            have hr : i = r := by rw [← HS.out, bsF, if_neg hlt]
            subst hr
            go_wp2
            clear hlt hlt'
            go_loopw [17] (fun k_ ws => ∃ (k d : Nat), k_ = .int .i64 (k : Int) ∧ k = m - d ∧ d ≤ m - i ∧ RowO cap ok ws g n (downF l m d) ∧ w.grownBy ws (some g)) (fun k_ _ => (intOf k_).toNat)
            case atStart => exact ⟨m, 0, rfl, rfl, Nat.zero_le _, HW.out, HG.out⟩
            case round =>
              obtain ⟨k, d, rfl, hk, hd, hr, hg⟩ := hrel
              have HG := Lib.hid hg
              have HW := Lib.hid hr
              have HK := Lib.hid hk
              clear hg hr
              by_cases hlt : i < k
              · have hlt' : (i : Int) < (k : Int) := by omega
                obtain ⟨p, hp⟩ : ∃ p : Nat, p = k - 1 := ⟨_, rfl⟩
                have w2 : (k : Int) - 1 = (p : Int) := by omega
                have hkn : k < n := by omega
                have hpn : p < n := by omega
                have hkp : ¬ k = p := by omega
                have hd2 : d + 1 ≤ m - i := by omega
                have ES := Lib.hid (show downF l m (d + 1) = Stab.sw (downF l m d) k p by rw [downF, hp, hk])
                have HP := Lib.hid (show p = m - (d + 1) ∧ p < k by omega)
                clear hk hd hp
                generalize downF l m d = l' at HW ES
                obtain ⟨c1_0, c1_1, c1_2, c1_3, c1_4, c1_5, c1_6, c1_7⟩ := HW.out.1.cells k hkn
                obtain ⟨c2_0, c2_1, c2_2, c2_3, c2_4, c2_5, c2_6, c2_7⟩ := HW.out.1.cells p hpn
                have fz := HW.out.1.frozen
                have SW := Lib.hid (HW.out.1.sw k p hkn hpn)
                have OS := Lib.hid (ok_sw HW.out.1.1 HW.out.2 hkn hpn)
                generalize l'.getD k default = x at c1_0 c1_1 c1_2 c1_3 c1_4 c1_5 c1_6 c1_7 SW
                generalize l'.getD p default = y at c2_0 c2_1 c2_2 c2_3 c2_4 c2_5 c2_6 c2_7 SW
                go_wp2
                go_region
                go_wp2
                go_roundw
                case rel => exact ⟨p, d + 1, rfl, HP.out.1, hd2, by rw [ES.out]; show RowO cap ok (World.drew (set8 (set8 wr g (k * 8) y) g (p * 8) x)) g n _; exact ⟨SW.out, OS.out⟩, by show World.grownBy _ (World.drew (set8 (set8 wr g (k * 8) y) g (p * 8) x)) _; exact gdrew (gset8 (gset8 HG.out _ _) _ _)⟩
                case measure => have := HP.out; simp [intOf]; omega
              · have hlt' : ¬ ((i : Int) < (k : Int)) := by omega
                obtain rfl : d = m - i := by omega
                have E3 := E.out
                clear hk hd
                go_wp2
                go_returns
                exact ⟨rfl, by rw [← E3]; exact HW.out, HG.out⟩
      · obtain ⟨v, hv⟩ : ∃ v : Nat, v = b - m := ⟨_, rfl⟩
        have w3 : (b : Int) - (m : Int) = (v : Int) := by omega
        have d2 : ((v : Int) == 1) = false := by rw [beq_eq_false_iff_ne]; omega
        obtain ⟨mid, hmid⟩ : ∃ mid : Nat, mid = (a + b) / 2 := ⟨_, rfl⟩
        have wm : ((a : Int) + (b : Int)) / 2 = (mid : Int) := by omega
        have m1 : a + 1 ≤ mid := by omega
        have m2 : mid + 1 ≤ b := by omega
        have m4 : a + b ≤ 2 * mid + 1 := by omega
        have m5 : 2 * mid ≤ a + b := by omega
        have EQ := HT.out
        rw [symF, if_neg h1, if_neg h2] at EQ
        simp only [← hmid] at EQ
        clear hmid hu hv h1 h2
        obtain ⟨nn, hnn⟩ : ∃ nn : Nat, nn = mid + m := ⟨_, rfl⟩
        have wn : (mid : Int) + (m : Int) = (nn : Int) := by omega
        obtain ⟨pp, hpp⟩ : ∃ pp : Nat, pp = nn - 1 := ⟨_, rfl⟩
        have wp : (nn : Int) - 1 = (pp : Int) := by omega
        rw [← hnn] at EQ
        rw [← hpp] at EQ
        by_cases hm : mid < m
        · skip
          simp only [if_pos hm] at EQ
          have hm' : (mid : Int) < (m : Int) := by omega
          obtain ⟨s0, hs0⟩ : ∃ s0 : Nat, s0 = nn - b := ⟨_, rfl⟩
          have ws : (nn : Int) - (b : Int) = (s0 : Int) := by omega
          rw [← hs0] at EQ
          obtain ⟨P, hP⟩ : ∃ P : Nat → Bool, P = fun c => !(ltC cf (l.getD (pp - c) default) (l.getD c default)) := ⟨_, rfl⟩
          have HPV := Lib.hid (show ∀ c, P c = !(decide (cf (l.getD (pp - c) default) (l.getD c default) < 0)) by rw [hP]; intro c; rfl)
          rw [← hP] at EQ
          obtain ⟨s, hs⟩ : ∃ s : Nat, s = bsF P (mid - s0 + 1) s0 mid := ⟨_, rfl⟩
          rw [← hs] at EQ
          obtain ⟨e, he⟩ : ∃ e : Nat, e = nn - s := ⟨_, rfl⟩
          rw [← he] at EQ
          have EQ := Lib.hid EQ
          have HSS := Lib.hid hs
          have HEE := Lib.hid he
          have q1 : s0 ≤ mid := by omega
          have q2 : nn ≤ b + s0 := by omega
          have HQ := Lib.hid (show pp + 1 = mid + m ∧ nn = mid + m by omega)
          clear hP hs he hnn hpp hs0
          go_enter Tryd.func90, Tryd.ntmps90
          go_wp2
          go_loopw [20, 21] (fun i_ j_ wr => ∃ (i j q : Nat), i_ = .int .i64 (i : Int) ∧ j_ = .int .i64 (j : Int) ∧ s0 ≤ i ∧ i ≤ j ∧ j ≤ mid ∧ j - i < q ∧ bsF P q i j = s ∧ RowO cap ok wr g n l ∧ w.grownBy wr (some g)) (fun i_ j_ _ => (intOf j_).toNat - (intOf i_).toNat)
          case atStart => exact ⟨s0, mid, mid - s0 + 1, rfl, rfl, Nat.le_refl _, q1, Nat.le_refl _, by omega, HSS.out.symm, HR.out, World.grownBy.refl w _⟩
          case round =>
            obtain ⟨i, j, q, rfl, rfl, hmi, hij, hjb, hq, hS, hr, hg⟩ := hrel
            obtain ⟨q', rfl⟩ : ∃ q', q = q' + 1 := ⟨q - 1, by omega⟩
            have HG := Lib.hid hg
            have HW := Lib.hid hr
            have HS := Lib.hid hS
            clear hg hr hS
            by_cases hlt : i < j
            · have hlt' : (i : Int) < (j : Int) := by omega
              obtain ⟨h, hh⟩ : ∃ h : Nat, h = (i + j) / 2 := ⟨_, rfl⟩
              have w2 : ((i : Int) + (j : Int)) / 2 = (h : Int) := by omega
              have hih : i ≤ h := by omega
              have hhj : h < j := by omega
              obtain ⟨t, ht⟩ : ∃ t : Nat, t = pp - h := ⟨_, rfl⟩
              have w4 : (pp : Int) - (h : Int) = (t : Int) := by have := HQ.out; omega
              have hhn : h < n := by omega
              have htn : t < n := by have := HQ.out; omega
              obtain ⟨c1_0, c1_1, c1_2, c1_3, c1_4, c1_5, c1_6, c1_7⟩ := HW.out.1.cells t htn
              obtain ⟨c2_0, c2_1, c2_2, c2_3, c2_4, c2_5, c2_6, c2_7⟩ := HW.out.1.cells h hhn
              have o1 := HW.out.2 t htn
              have o2 := HW.out.2 h hhn
              have ES := Lib.hid (show (if P h = true then bsF P q' (h + 1) j else bsF P q' i h) = s by rw [← HS.out, bsF, if_pos hlt, ← hh])
              have CC := Lib.hid (fun W hW => HC.out W (H0.out.trans (HG.out.trans hW)) _ _ o1 o2)
              have zg := HW.out.1.lt
              have d3_0 := belowBy_cell zg c1_0
              have d3_1 := belowBy_cell zg c1_1
              have d3_2 := belowBy_cell zg c1_2
              have d3_3 := belowBy_cell zg c1_3
              have d3_4 := belowBy_cell zg c1_4
              have d3_5 := belowBy_cell zg c1_5
              have d3_6 := belowBy_cell zg c1_6
              have d3_7 := belowBy_cell zg c1_7
              have d4_0 := belowBy_cell zg c2_0
              have d4_1 := belowBy_cell zg c2_1
              have d4_2 := belowBy_cell zg c2_2
              have d4_3 := belowBy_cell zg c2_3
              have d4_4 := belowBy_cell zg c2_4
              have d4_5 := belowBy_cell zg c2_5
              have d4_6 := belowBy_cell zg c2_6
              have d4_7 := belowBy_cell zg c2_7
              have HV := HPV.out h
              rw [← ht] at HV
              have HV := Lib.hid HV
              generalize l.getD t default = y at c1_0 c1_1 c1_2 c1_3 c1_4 c1_5 c1_6 c1_7 o1 d3_0 d3_1 d3_2 d3_3 d3_4 d3_5 d3_6 d3_7 HV CC
              generalize l.getD h default = x at c2_0 c2_1 c2_2 c2_3 c2_4 c2_5 c2_6 c2_7 o2 d4_0 d4_1 d4_2 d4_3 d4_4 d4_5 d4_6 d4_7 HV CC
              clear c1_0 c1_1 c1_2 c1_3 c1_4 c1_5 c1_6 c1_7 c2_0 c2_1 c2_2 c2_3 c2_4 c2_5 c2_6 c2_7 o1 o2 hh ht
              by_cases hcf : cf y x < 0
              · have hd2 : decide (cf y x < 0) = true := by simpa using hcf
                have E2 := Lib.hid ((if_neg (by rw [HV.out, hd2]; decide)).symm.trans ES.out)
                go_wp2
                refine wp_region_below (by kernel_rfl) (by kernel_rfl) ?_
                repeat (go_big_quiet_step ((go_at_call 68; exact calls_below (CC.out _ (gbelow (BelowBy.h _))))))
                refine wpQuiet_nil ?_
                rintro wq ⟨⟨_, hqw⟩, rfl⟩
                clear d3_0 d3_1 d3_2 d3_3 d3_4 d3_5 d3_6 d3_7 d4_0 d4_1 d4_2 d4_3 d4_4 d4_5 d4_6 d4_7
                have HG2 := Lib.hid (HG.out.trans (gbelow (row := some g) hqw))
                have HW2 := Lib.hid (show RowO cap ok wq g n l from ⟨HW.out.1.below hqw, HW.out.2⟩)
                go_wp2
                go_roundw
                case rel => exact ⟨i, h, q', rfl, rfl, hmi, by omega, by omega, by omega, E2.out, HW2.out, HG2.out⟩
                case measure => simp [intOf]; omega
              · have hd2 : decide (cf y x < 0) = false := by simpa using hcf
                have E2 := Lib.hid ((if_pos (by rw [HV.out, hd2]; rfl)).symm.trans ES.out)
                go_wp2
                refine wp_region_below (by kernel_rfl) (by kernel_rfl) ?_
                repeat (go_big_quiet_step ((go_at_call 68; exact calls_below (CC.out _ (gbelow (BelowBy.h _))))))
                refine wpQuiet_nil ?_
                rintro wq ⟨⟨_, hqw⟩, rfl⟩
                clear d3_0 d3_1 d3_2 d3_3 d3_4 d3_5 d3_6 d3_7 d4_0 d4_1 d4_2 d4_3 d4_4 d4_5 d4_6 d4_7
                have HG2 := Lib.hid (HG.out.trans (gbelow (row := some g) hqw))
                have HW2 := Lib.hid (show RowO cap ok wq g n l from ⟨HW.out.1.below hqw, HW.out.2⟩)
                go_wp2
                go_roundw
                case rel => exact ⟨h + 1, j, q', by go_num, rfl, by omega, by omega, hjb, by omega, E2.out, HW2.out, HG2.out⟩
                case measure => simp [intOf]; omega
            · have hlt' : ¬ ((i : Int) < (j : Int)) := by omega
              have hr : s = i := by rw [← HS.out, bsF, if_neg hlt]
              have we : (nn : Int) - (s : Int) = (e : Int) := by have := HEE.out; omega
              have q4 : s0 ≤ s := by omega
              have q5 : s ≤ mid := by omega
              have q6 := Lib.hid (show e + s = mid + m by have := HEE.out; have := HQ.out; omega)
              subst hr
              clear hlt

              by_cases hr : s < m ∧ m < e
              · by_cases ht : a < s ∧ s < mid
                · by_cases hw : mid < e ∧ e < b
                  · skip
                    have E9 := EQ.out
                    rw [if_pos hr] at E9
                    rw [if_pos ht] at E9
                    rw [if_pos hw] at E9
                    have CR := Lib.hid (rotate_any g n cap s m e (.func (.func 68) #[] #[.pointer (some ⟨bx, 0, none⟩)]) l wr HW.out.1 hr.1 hr.2 (by have := q6.out; have := HQ.out; omega) hn)
                    have OKR := Lib.hid (ok_rot HW.out.1.1 HW.out.2 (e - s) m (m - s) (e - m) (by omega) (by have := q6.out; have := HQ.out; omega) (by omega))
                    have E9 := Lib.hid E9
                    have BD := Lib.hid (show e ≤ b ∧ mid - a ≤ fu ∧ b - mid ≤ fu by have := q6.out; have := HQ.out; omega)
                    have ghr := guard_of (x := s) (y := m) (u := m) (v := e) hr
                    have ght := guard_of (x := a) (y := s) (u := s) (v := mid) ht
                    have ghw := guard_of (x := mid) (y := e) (u := e) (v := b) hw
                    clear hr ht hw
                    obtain ⟨ghr1, ghr2, ghr3, ghr4⟩ := ghr
                    obtain ⟨ght1, ght2, ght3, ght4⟩ := ght
                    obtain ⟨ghw1, ghw2, ghw3, ghw4⟩ := ghw
                    go_wp2_with fail
                    refine (CR.out).mono ?_
                    rintro ee wa ⟨rfl, ha1, ka1⟩
                    have HA := Lib.hid (show RowO cap ok wa g n (rotF (e - s) l m (m - s) (e - m)) from ⟨ha1, OKR.out⟩)
                    have KA := Lib.hid (HG.out.trans ka1)
                    clear ha1 ka1
                    have IH1 := Lib.hid (IHR.out a s mid _ wa BD.out.2.1 (by omega) (by omega) (by omega) HA.out (H0.out.trans KA.out))
                    go_wp2_with fail
                    refine (IH1.out).mono ?_
                    rintro ee wb ⟨rfl, ha2, ka2⟩
                    have HB := Lib.hid ha2
                    have KB := Lib.hid (KA.out.trans ka2)
                    clear ha2 ka2
                    have IH2 := Lib.hid (IHR.out mid e b _ wb BD.out.2.2 (by omega) (by omega) hb HB.out (H0.out.trans KB.out))
                    go_wp2_with fail
                    refine (IH2.out).mono ?_
                    rintro ee wc ⟨rfl, ha3, ka3⟩
                    have HD := Lib.hid ha3
                    have KD := Lib.hid (KB.out.trans ka3)
                    clear ha3 ka3
                    go_wp2
                    go_returns
                    exact ⟨rfl, by rw [← E9.out]; exact HD.out, KD.out⟩
                  · skip
                    have E9 := EQ.out
                    rw [if_pos hr] at E9
                    rw [if_pos ht] at E9
                    rw [if_neg hw] at E9
                    have CR := Lib.hid (rotate_any g n cap s m e (.func (.func 68) #[] #[.pointer (some ⟨bx, 0, none⟩)]) l wr HW.out.1 hr.1 hr.2 (by have := q6.out; have := HQ.out; omega) hn)
                    have OKR := Lib.hid (ok_rot HW.out.1.1 HW.out.2 (e - s) m (m - s) (e - m) (by omega) (by have := q6.out; have := HQ.out; omega) (by omega))
                    have E9 := Lib.hid E9
                    have BD := Lib.hid (show e ≤ b ∧ mid - a ≤ fu ∧ b - mid ≤ fu by have := q6.out; have := HQ.out; omega)
                    have ghr := guard_of (x := s) (y := m) (u := m) (v := e) hr
                    have ght := guard_of (x := a) (y := s) (u := s) (v := mid) ht
                    have ghw := guard_no (x := mid) (y := e) (u := e) (v := b) hw
                    clear hr ht hw
                    obtain ⟨ghr1, ghr2, ghr3, ghr4⟩ := ghr
                    obtain ⟨ght1, ght2, ght3, ght4⟩ := ght
                    rcases ghw with ⟨ghw1, ghw2⟩ | ⟨ghw1, ghw2, ghw3, ghw4⟩
                    all_goals
                      go_wp2_with fail
                      refine (CR.out).mono ?_
                      rintro ee wa ⟨rfl, ha1, ka1⟩
                      have HA := Lib.hid (show RowO cap ok wa g n (rotF (e - s) l m (m - s) (e - m)) from ⟨ha1, OKR.out⟩)
                      have KA := Lib.hid (HG.out.trans ka1)
                      clear ha1 ka1
                      have IH1 := Lib.hid (IHR.out a s mid _ wa BD.out.2.1 (by omega) (by omega) (by omega) HA.out (H0.out.trans KA.out))
                      go_wp2_with fail
                      refine (IH1.out).mono ?_
                      rintro ee wb ⟨rfl, ha2, ka2⟩
                      have HB := Lib.hid ha2
                      have KB := Lib.hid (KA.out.trans ka2)
                      clear ha2 ka2
                      go_wp2
                      go_returns
                      exact ⟨rfl, by rw [← E9.out]; exact HB.out, KB.out⟩
                · by_cases hw : mid < e ∧ e < b
                  · skip
                    have E9 := EQ.out
                    rw [if_pos hr] at E9
                    rw [if_neg ht] at E9
                    rw [if_pos hw] at E9
                    have CR := Lib.hid (rotate_any g n cap s m e (.func (.func 68) #[] #[.pointer (some ⟨bx, 0, none⟩)]) l wr HW.out.1 hr.1 hr.2 (by have := q6.out; have := HQ.out; omega) hn)
                    have OKR := Lib.hid (ok_rot HW.out.1.1 HW.out.2 (e - s) m (m - s) (e - m) (by omega) (by have := q6.out; have := HQ.out; omega) (by omega))
                    have E9 := Lib.hid E9
                    have BD := Lib.hid (show e ≤ b ∧ mid - a ≤ fu ∧ b - mid ≤ fu by have := q6.out; have := HQ.out; omega)
                    have ghr := guard_of (x := s) (y := m) (u := m) (v := e) hr
                    have ght := guard_no (x := a) (y := s) (u := s) (v := mid) ht
                    have ghw := guard_of (x := mid) (y := e) (u := e) (v := b) hw
                    clear hr ht hw
                    obtain ⟨ghr1, ghr2, ghr3, ghr4⟩ := ghr
                    obtain ⟨ghw1, ghw2, ghw3, ghw4⟩ := ghw
                    rcases ght with ⟨ght1, ght2⟩ | ⟨ght1, ght2, ght3, ght4⟩
                    all_goals
                      go_wp2_with fail
                      refine (CR.out).mono ?_
                      rintro ee wa ⟨rfl, ha1, ka1⟩
                      have HA := Lib.hid (show RowO cap ok wa g n (rotF (e - s) l m (m - s) (e - m)) from ⟨ha1, OKR.out⟩)
                      have KA := Lib.hid (HG.out.trans ka1)
                      clear ha1 ka1
                      have IH2 := Lib.hid (IHR.out mid e b _ wa BD.out.2.2 (by omega) (by omega) hb HA.out (H0.out.trans KA.out))
                      go_wp2_with fail
                      refine (IH2.out).mono ?_
                      rintro ee wc ⟨rfl, ha3, ka3⟩
                      have HD := Lib.hid ha3
                      have KD := Lib.hid (KA.out.trans ka3)
                      clear ha3 ka3
                      go_wp2
                      go_returns
                      exact ⟨rfl, by rw [← E9.out]; exact HD.out, KD.out⟩
                  · skip
                    have E9 := EQ.out
                    rw [if_pos hr] at E9
                    rw [if_neg ht] at E9
                    rw [if_neg hw] at E9
                    have CR := Lib.hid (rotate_any g n cap s m e (.func (.func 68) #[] #[.pointer (some ⟨bx, 0, none⟩)]) l wr HW.out.1 hr.1 hr.2 (by have := q6.out; have := HQ.out; omega) hn)
                    have OKR := Lib.hid (ok_rot HW.out.1.1 HW.out.2 (e - s) m (m - s) (e - m) (by omega) (by have := q6.out; have := HQ.out; omega) (by omega))
                    have E9 := Lib.hid E9
                    have BD := Lib.hid (show e ≤ b ∧ mid - a ≤ fu ∧ b - mid ≤ fu by have := q6.out; have := HQ.out; omega)
                    have ghr := guard_of (x := s) (y := m) (u := m) (v := e) hr
                    have ght := guard_no (x := a) (y := s) (u := s) (v := mid) ht
                    have ghw := guard_no (x := mid) (y := e) (u := e) (v := b) hw
                    clear hr ht hw
                    obtain ⟨ghr1, ghr2, ghr3, ghr4⟩ := ghr
                    rcases ght with ⟨ght1, ght2⟩ | ⟨ght1, ght2, ght3, ght4⟩
                    all_goals
                      rcases ghw with ⟨ghw1, ghw2⟩ | ⟨ghw1, ghw2, ghw3, ghw4⟩
                      all_goals
                        go_wp2_with fail
                        refine (CR.out).mono ?_
                        rintro ee wa ⟨rfl, ha1, ka1⟩
                        have HA := Lib.hid (show RowO cap ok wa g n (rotF (e - s) l m (m - s) (e - m)) from ⟨ha1, OKR.out⟩)
                        have KA := Lib.hid (HG.out.trans ka1)
                        clear ha1 ka1
                        go_wp2
                        go_returns
                        exact ⟨rfl, by rw [← E9.out]; exact HA.out, KA.out⟩
              · by_cases ht : a < s ∧ s < mid
                · by_cases hw : mid < e ∧ e < b
                  · skip
                    have E9 := EQ.out
                    rw [if_neg hr] at E9
                    rw [if_pos ht] at E9
                    rw [if_pos hw] at E9
                    have E9 := Lib.hid E9
                    have BD := Lib.hid (show e ≤ b ∧ mid - a ≤ fu ∧ b - mid ≤ fu by have := q6.out; have := HQ.out; omega)
                    have ghr := guard_no (x := s) (y := m) (u := m) (v := e) hr
                    have ght := guard_of (x := a) (y := s) (u := s) (v := mid) ht
                    have ghw := guard_of (x := mid) (y := e) (u := e) (v := b) hw
                    clear hr ht hw
                    obtain ⟨ght1, ght2, ght3, ght4⟩ := ght
                    obtain ⟨ghw1, ghw2, ghw3, ghw4⟩ := ghw
                    rcases ghr with ⟨ghr1, ghr2⟩ | ⟨ghr1, ghr2, ghr3, ghr4⟩
                    all_goals
                      have IH1 := Lib.hid (IHR.out a s mid _ wr BD.out.2.1 (by omega) (by omega) (by omega) HW.out (H0.out.trans HG.out))
                      go_wp2_with fail
                      refine (IH1.out).mono ?_
                      rintro ee wb ⟨rfl, ha2, ka2⟩
                      have HB := Lib.hid ha2
                      have KB := Lib.hid (HG.out.trans ka2)
                      clear ha2 ka2
                      have IH2 := Lib.hid (IHR.out mid e b _ wb BD.out.2.2 (by omega) (by omega) hb HB.out (H0.out.trans KB.out))
                      go_wp2_with fail
                      refine (IH2.out).mono ?_
                      rintro ee wc ⟨rfl, ha3, ka3⟩
                      have HD := Lib.hid ha3
                      have KD := Lib.hid (KB.out.trans ka3)
                      clear ha3 ka3
                      go_wp2
                      go_returns
                      exact ⟨rfl, by rw [← E9.out]; exact HD.out, KD.out⟩
                  · skip
                    have E9 := EQ.out
                    rw [if_neg hr] at E9
                    rw [if_pos ht] at E9
                    rw [if_neg hw] at E9
                    have E9 := Lib.hid E9
                    have BD := Lib.hid (show e ≤ b ∧ mid - a ≤ fu ∧ b - mid ≤ fu by have := q6.out; have := HQ.out; omega)
                    have ghr := guard_no (x := s) (y := m) (u := m) (v := e) hr
                    have ght := guard_of (x := a) (y := s) (u := s) (v := mid) ht
                    have ghw := guard_no (x := mid) (y := e) (u := e) (v := b) hw
                    clear hr ht hw
                    obtain ⟨ght1, ght2, ght3, ght4⟩ := ght
                    rcases ghr with ⟨ghr1, ghr2⟩ | ⟨ghr1, ghr2, ghr3, ghr4⟩
                    all_goals
                      rcases ghw with ⟨ghw1, ghw2⟩ | ⟨ghw1, ghw2, ghw3, ghw4⟩
                      all_goals
                        have IH1 := Lib.hid (IHR.out a s mid _ wr BD.out.2.1 (by omega) (by omega) (by omega) HW.out (H0.out.trans HG.out))
                        go_wp2_with fail
                        refine (IH1.out).mono ?_
                        rintro ee wb ⟨rfl, ha2, ka2⟩
                        have HB := Lib.hid ha2
                        have KB := Lib.hid (HG.out.trans ka2)
                        clear ha2 ka2
                        go_wp2
                        go_returns
                        exact ⟨rfl, by rw [← E9.out]; exact HB.out, KB.out⟩
                · by_cases hw : mid < e ∧ e < b
                  · skip
                    have E9 := EQ.out
                    rw [if_neg hr] at E9
                    rw [if_neg ht] at E9
                    rw [if_pos hw] at E9
                    have E9 := Lib.hid E9
                    have BD := Lib.hid (show e ≤ b ∧ mid - a ≤ fu ∧ b - mid ≤ fu by have := q6.out; have := HQ.out; omega)
                    have ghr := guard_no (x := s) (y := m) (u := m) (v := e) hr
                    have ght := guard_no (x := a) (y := s) (u := s) (v := mid) ht
                    have ghw := guard_of (x := mid) (y := e) (u := e) (v := b) hw
                    clear hr ht hw
                    obtain ⟨ghw1, ghw2, ghw3, ghw4⟩ := ghw
                    rcases ghr with ⟨ghr1, ghr2⟩ | ⟨ghr1, ghr2, ghr3, ghr4⟩
                    all_goals
                      rcases ght with ⟨ght1, ght2⟩ | ⟨ght1, ght2, ght3, ght4⟩
                      all_goals
                        have IH2 := Lib.hid (IHR.out mid e b _ wr BD.out.2.2 (by omega) (by omega) hb HW.out (H0.out.trans HG.out))
                        go_wp2_with fail
                        refine (IH2.out).mono ?_
                        rintro ee wc ⟨rfl, ha3, ka3⟩
                        have HD := Lib.hid ha3
                        have KD := Lib.hid (HG.out.trans ka3)
                        clear ha3 ka3
                        go_wp2
                        go_returns
                        exact ⟨rfl, by rw [← E9.out]; exact HD.out, KD.out⟩
                  · skip
                    have E9 := EQ.out
                    rw [if_neg hr] at E9
                    rw [if_neg ht] at E9
                    rw [if_neg hw] at E9
                    have E9 := Lib.hid E9
                    have BD := Lib.hid (show e ≤ b ∧ mid - a ≤ fu ∧ b - mid ≤ fu by have := q6.out; have := HQ.out; omega)
                    have ghr := guard_no (x := s) (y := m) (u := m) (v := e) hr
                    have ght := guard_no (x := a) (y := s) (u := s) (v := mid) ht
                    have ghw := guard_no (x := mid) (y := e) (u := e) (v := b) hw
                    clear hr ht hw
                    rcases ghr with ⟨ghr1, ghr2⟩ | ⟨ghr1, ghr2, ghr3, ghr4⟩
                    all_goals
                      rcases ght with ⟨ght1, ght2⟩ | ⟨ght1, ght2, ght3, ght4⟩
                      all_goals
                        rcases ghw with ⟨ghw1, ghw2⟩ | ⟨ghw1, ghw2, ghw3, ghw4⟩
                        all_goals
                          go_wp2
                          go_returns
                          exact ⟨rfl, by rw [← E9.out]; exact HW.out, HG.out⟩
        · skip
          simp only [if_neg hm] at EQ
          have hm' : ¬ ((mid : Int) < (m : Int)) := by omega
          obtain ⟨P, hP⟩ : ∃ P : Nat → Bool, P = fun c => !(ltC cf (l.getD (pp - c) default) (l.getD c default)) := ⟨_, rfl⟩
          have HPV := Lib.hid (show ∀ c, P c = !(decide (cf (l.getD (pp - c) default) (l.getD c default) < 0)) by rw [hP]; intro c; rfl)
          rw [← hP] at EQ
          obtain ⟨s, hs⟩ : ∃ s : Nat, s = bsF P (m - a + 1) a m := ⟨_, rfl⟩
          rw [← hs] at EQ
          obtain ⟨e, he⟩ : ∃ e : Nat, e = nn - s := ⟨_, rfl⟩
          rw [← he] at EQ
          have EQ := Lib.hid EQ
          have HSS := Lib.hid hs
          have HEE := Lib.hid he
          have q1 : a ≤ m := by omega
          have q2 : nn ≤ b + a := by omega
          have HQ := Lib.hid (show pp + 1 = mid + m ∧ nn = mid + m by omega)
          clear hP hs he hnn hpp
          go_enter Tryd.func90, Tryd.ntmps90
          go_wp2
          go_loopw [20, 21] (fun i_ j_ wr => ∃ (i j q : Nat), i_ = .int .i64 (i : Int) ∧ j_ = .int .i64 (j : Int) ∧ a ≤ i ∧ i ≤ j ∧ j ≤ m ∧ j - i < q ∧ bsF P q i j = s ∧ RowO cap ok wr g n l ∧ w.grownBy wr (some g)) (fun i_ j_ _ => (intOf j_).toNat - (intOf i_).toNat)
          case atStart => exact ⟨a, m, m - a + 1, rfl, rfl, Nat.le_refl _, q1, Nat.le_refl _, by omega, HSS.out.symm, HR.out, World.grownBy.refl w _⟩
          case round =>
            obtain ⟨i, j, q, rfl, rfl, hmi, hij, hjb, hq, hS, hr, hg⟩ := hrel
            obtain ⟨q', rfl⟩ : ∃ q', q = q' + 1 := ⟨q - 1, by omega⟩
            have HG := Lib.hid hg
            have HW := Lib.hid hr
            have HS := Lib.hid hS
            clear hg hr hS
            by_cases hlt : i < j
            · have hlt' : (i : Int) < (j : Int) := by omega
              obtain ⟨h, hh⟩ : ∃ h : Nat, h = (i + j) / 2 := ⟨_, rfl⟩
              have w2 : ((i : Int) + (j : Int)) / 2 = (h : Int) := by omega
              have hih : i ≤ h := by omega
              have hhj : h < j := by omega
              obtain ⟨t, ht⟩ : ∃ t : Nat, t = pp - h := ⟨_, rfl⟩
              have w4 : (pp : Int) - (h : Int) = (t : Int) := by have := HQ.out; omega
              have hhn : h < n := by omega
              have htn : t < n := by have := HQ.out; omega
              obtain ⟨c1_0, c1_1, c1_2, c1_3, c1_4, c1_5, c1_6, c1_7⟩ := HW.out.1.cells t htn
              obtain ⟨c2_0, c2_1, c2_2, c2_3, c2_4, c2_5, c2_6, c2_7⟩ := HW.out.1.cells h hhn
              have o1 := HW.out.2 t htn
              have o2 := HW.out.2 h hhn
              have ES := Lib.hid (show (if P h = true then bsF P q' (h + 1) j else bsF P q' i h) = s by rw [← HS.out, bsF, if_pos hlt, ← hh])
              have CC := Lib.hid (fun W hW => HC.out W (H0.out.trans (HG.out.trans hW)) _ _ o1 o2)
              have zg := HW.out.1.lt
              have d3_0 := belowBy_cell zg c1_0
              have d3_1 := belowBy_cell zg c1_1
              have d3_2 := belowBy_cell zg c1_2
              have d3_3 := belowBy_cell zg c1_3
              have d3_4 := belowBy_cell zg c1_4
              have d3_5 := belowBy_cell zg c1_5
              have d3_6 := belowBy_cell zg c1_6
              have d3_7 := belowBy_cell zg c1_7
              have d4_0 := belowBy_cell zg c2_0
              have d4_1 := belowBy_cell zg c2_1
              have d4_2 := belowBy_cell zg c2_2
              have d4_3 := belowBy_cell zg c2_3
              have d4_4 := belowBy_cell zg c2_4
              have d4_5 := belowBy_cell zg c2_5
              have d4_6 := belowBy_cell zg c2_6
              have d4_7 := belowBy_cell zg c2_7
              have HV := HPV.out h
              rw [← ht] at HV
              have HV := Lib.hid HV
              generalize l.getD t default = y at c1_0 c1_1 c1_2 c1_3 c1_4 c1_5 c1_6 c1_7 o1 d3_0 d3_1 d3_2 d3_3 d3_4 d3_5 d3_6 d3_7 HV CC
              generalize l.getD h default = x at c2_0 c2_1 c2_2 c2_3 c2_4 c2_5 c2_6 c2_7 o2 d4_0 d4_1 d4_2 d4_3 d4_4 d4_5 d4_6 d4_7 HV CC
              clear c1_0 c1_1 c1_2 c1_3 c1_4 c1_5 c1_6 c1_7 c2_0 c2_1 c2_2 c2_3 c2_4 c2_5 c2_6 c2_7 o1 o2 hh ht
              by_cases hcf : cf y x < 0
              · have hd2 : decide (cf y x < 0) = true := by simpa using hcf
                have E2 := Lib.hid ((if_neg (by rw [HV.out, hd2]; decide)).symm.trans ES.out)
                go_wp2
                refine wp_region_below (by kernel_rfl) (by kernel_rfl) ?_
                repeat (go_big_quiet_step ((go_at_call 68; exact calls_below (CC.out _ (gbelow (BelowBy.h _))))))
                refine wpQuiet_nil ?_
                rintro wq ⟨⟨_, hqw⟩, rfl⟩
                clear d3_0 d3_1 d3_2 d3_3 d3_4 d3_5 d3_6 d3_7 d4_0 d4_1 d4_2 d4_3 d4_4 d4_5 d4_6 d4_7
                have HG2 := Lib.hid (HG.out.trans (gbelow (row := some g) hqw))
                have HW2 := Lib.hid (show RowO cap ok wq g n l from ⟨HW.out.1.below hqw, HW.out.2⟩)
                go_wp2
                go_roundw
                case rel => exact ⟨i, h, q', rfl, rfl, hmi, by omega, by omega, by omega, E2.out, HW2.out, HG2.out⟩
                case measure => simp [intOf]; omega
              · have hd2 : decide (cf y x < 0) = false := by simpa using hcf
                have E2 := Lib.hid ((if_pos (by rw [HV.out, hd2]; rfl)).symm.trans ES.out)
                go_wp2
                refine wp_region_below (by kernel_rfl) (by kernel_rfl) ?_
                repeat (go_big_quiet_step ((go_at_call 68; exact calls_below (CC.out _ (gbelow (BelowBy.h _))))))
                refine wpQuiet_nil ?_
                rintro wq ⟨⟨_, hqw⟩, rfl⟩
                clear d3_0 d3_1 d3_2 d3_3 d3_4 d3_5 d3_6 d3_7 d4_0 d4_1 d4_2 d4_3 d4_4 d4_5 d4_6 d4_7
                have HG2 := Lib.hid (HG.out.trans (gbelow (row := some g) hqw))
                have HW2 := Lib.hid (show RowO cap ok wq g n l from ⟨HW.out.1.below hqw, HW.out.2⟩)
                go_wp2
                go_roundw
                case rel => exact ⟨h + 1, j, q', by go_num, rfl, by omega, by omega, hjb, by omega, E2.out, HW2.out, HG2.out⟩
                case measure => simp [intOf]; omega
            · have hlt' : ¬ ((i : Int) < (j : Int)) := by omega
              have hr : s = i := by rw [← HS.out, bsF, if_neg hlt]
              have we : (nn : Int) - (s : Int) = (e : Int) := by have := HEE.out; omega
              have q4 : a ≤ s := by omega
              have q5 : s ≤ m := by omega
              have q6 := Lib.hid (show e + s = mid + m by have := HEE.out; have := HQ.out; omega)
              subst hr
              clear hlt

              by_cases hr : s < m ∧ m < e
              · by_cases ht : a < s ∧ s < mid
                · by_cases hw : mid < e ∧ e < b
                  · skip
                    have E9 := EQ.out
                    rw [if_pos hr] at E9
                    rw [if_pos ht] at E9
                    rw [if_pos hw] at E9
                    have CR := Lib.hid (rotate_any g n cap s m e (.func (.func 68) #[] #[.pointer (some ⟨bx, 0, none⟩)]) l wr HW.out.1 hr.1 hr.2 (by have := q6.out; have := HQ.out; omega) hn)
                    have OKR := Lib.hid (ok_rot HW.out.1.1 HW.out.2 (e - s) m (m - s) (e - m) (by omega) (by have := q6.out; have := HQ.out; omega) (by omega))
                    have E9 := Lib.hid E9
                    have BD := Lib.hid (show e ≤ b ∧ mid - a ≤ fu ∧ b - mid ≤ fu by have := q6.out; have := HQ.out; omega)
                    have ghr := guard_of (x := s) (y := m) (u := m) (v := e) hr
                    have ght := guard_of (x := a) (y := s) (u := s) (v := mid) ht
                    have ghw := guard_of (x := mid) (y := e) (u := e) (v := b) hw
                    clear hr ht hw
                    obtain ⟨ghr1, ghr2, ghr3, ghr4⟩ := ghr
                    obtain ⟨ght1, ght2, ght3, ght4⟩ := ght
                    obtain ⟨ghw1, ghw2, ghw3, ghw4⟩ := ghw
                    go_wp2_with fail
                    refine (CR.out).mono ?_
                    rintro ee wa ⟨rfl, ha1, ka1⟩
                    have HA := Lib.hid (show RowO cap ok wa g n (rotF (e - s) l m (m - s) (e - m)) from ⟨ha1, OKR.out⟩)
                    have KA := Lib.hid (HG.out.trans ka1)
                    clear ha1 ka1
                    have IH1 := Lib.hid (IHR.out a s mid _ wa BD.out.2.1 (by omega) (by omega) (by omega) HA.out (H0.out.trans KA.out))
                    go_wp2_with fail
                    refine (IH1.out).mono ?_
                    rintro ee wb ⟨rfl, ha2, ka2⟩
                    have HB := Lib.hid ha2
                    have KB := Lib.hid (KA.out.trans ka2)
                    clear ha2 ka2
                    have IH2 := Lib.hid (IHR.out mid e b _ wb BD.out.2.2 (by omega) (by omega) hb HB.out (H0.out.trans KB.out))
                    go_wp2_with fail
                    refine (IH2.out).mono ?_
                    rintro ee wc ⟨rfl, ha3, ka3⟩
                    have HD := Lib.hid ha3
                    have KD := Lib.hid (KB.out.trans ka3)
                    clear ha3 ka3
                    go_wp2
                    go_returns
                    exact ⟨rfl, by rw [← E9.out]; exact HD.out, KD.out⟩
                  · skip
                    have E9 := EQ.out
                    rw [if_pos hr] at E9
                    rw [if_pos ht] at E9
                    rw [if_neg hw] at E9
                    have CR := Lib.hid (rotate_any g n cap s m e (.func (.func 68) #[] #[.pointer (some ⟨bx, 0, none⟩)]) l wr HW.out.1 hr.1 hr.2 (by have := q6.out; have := HQ.out; omega) hn)
                    have OKR := Lib.hid (ok_rot HW.out.1.1 HW.out.2 (e - s) m (m - s) (e - m) (by omega) (by have := q6.out; have := HQ.out; omega) (by omega))
                    have E9 := Lib.hid E9
                    have BD := Lib.hid (show e ≤ b ∧ mid - a ≤ fu ∧ b - mid ≤ fu by have := q6.out; have := HQ.out; omega)
                    have ghr := guard_of (x := s) (y := m) (u := m) (v := e) hr
                    have ght := guard_of (x := a) (y := s) (u := s) (v := mid) ht
                    have ghw := guard_no (x := mid) (y := e) (u := e) (v := b) hw
                    clear hr ht hw
                    obtain ⟨ghr1, ghr2, ghr3, ghr4⟩ := ghr
                    obtain ⟨ght1, ght2, ght3, ght4⟩ := ght
                    rcases ghw with ⟨ghw1, ghw2⟩ | ⟨ghw1, ghw2, ghw3, ghw4⟩
                    all_goals
                      go_wp2_with fail
                      refine (CR.out).mono ?_
                      rintro ee wa ⟨rfl, ha1, ka1⟩
                      have HA := Lib.hid (show RowO cap ok wa g n (rotF (e - s) l m (m - s) (e - m)) from ⟨ha1, OKR.out⟩)
                      have KA := Lib.hid (HG.out.trans ka1)
                      clear ha1 ka1
                      have IH1 := Lib.hid (IHR.out a s mid _ wa BD.out.2.1 (by omega) (by omega) (by omega) HA.out (H0.out.trans KA.out))
                      go_wp2_with fail
                      refine (IH1.out).mono ?_
                      rintro ee wb ⟨rfl, ha2, ka2⟩
                      have HB := Lib.hid ha2
                      have KB := Lib.hid (KA.out.trans ka2)
                      clear ha2 ka2
                      go_wp2
                      go_returns
                      exact ⟨rfl, by rw [← E9.out]; exact HB.out, KB.out⟩
                · by_cases hw : mid < e ∧ e < b
                  · skip
                    have E9 := EQ.out
                    rw [if_pos hr] at E9
                    rw [if_neg ht] at E9
                    rw [if_pos hw] at E9
                    have CR := Lib.hid (rotate_any g n cap s m e (.func (.func 68) #[] #[.pointer (some ⟨bx, 0, none⟩)]) l wr HW.out.1 hr.1 hr.2 (by have := q6.out; have := HQ.out; omega) hn)
                    have OKR := Lib.hid (ok_rot HW.out.1.1 HW.out.2 (e - s) m (m - s) (e - m) (by omega) (by have := q6.out; have := HQ.out; omega) (by omega))
                    have E9 := Lib.hid E9
                    have BD := Lib.hid (show e ≤ b ∧ mid - a ≤ fu ∧ b - mid ≤ fu by have := q6.out; have := HQ.out; omega)
                    have ghr := guard_of (x := s) (y := m) (u := m) (v := e) hr
                    have ght := guard_no (x := a) (y := s) (u := s) (v := mid) ht
                    have ghw := guard_of (x := mid) (y := e) (u := e) (v := b) hw
                    clear hr ht hw
                    obtain ⟨ghr1, ghr2, ghr3, ghr4⟩ := ghr
                    obtain ⟨ghw1, ghw2, ghw3, ghw4⟩ := ghw
                    rcases ght with ⟨ght1, ght2⟩ | ⟨ght1, ght2, ght3, ght4⟩
                    all_goals
                      go_wp2_with fail
                      refine (CR.out).mono ?_
                      rintro ee wa ⟨rfl, ha1, ka1⟩
                      have HA := Lib.hid (show RowO cap ok wa g n (rotF (e - s) l m (m - s) (e - m)) from ⟨ha1, OKR.out⟩)
                      have KA := Lib.hid (HG.out.trans ka1)
                      clear ha1 ka1
                      have IH2 := Lib.hid (IHR.out mid e b _ wa BD.out.2.2 (by omega) (by omega) hb HA.out (H0.out.trans KA.out))
                      go_wp2_with fail
                      refine (IH2.out).mono ?_
                      rintro ee wc ⟨rfl, ha3, ka3⟩
                      have HD := Lib.hid ha3
                      have KD := Lib.hid (KA.out.trans ka3)
                      clear ha3 ka3
                      go_wp2
                      go_returns
                      exact ⟨rfl, by rw [← E9.out]; exact HD.out, KD.out⟩
                  · skip
                    have E9 := EQ.out
                    rw [if_pos hr] at E9
                    rw [if_neg ht] at E9
                    rw [if_neg hw] at E9
                    have CR := Lib.hid (rotate_any g n cap s m e (.func (.func 68) #[] #[.pointer (some ⟨bx, 0, none⟩)]) l wr HW.out.1 hr.1 hr.2 (by have := q6.out; have := HQ.out; omega) hn)
                    have OKR := Lib.hid (ok_rot HW.out.1.1 HW.out.2 (e - s) m (m - s) (e - m) (by omega) (by have := q6.out; have := HQ.out; omega) (by omega))
                    have E9 := Lib.hid E9
                    have BD := Lib.hid (show e ≤ b ∧ mid - a ≤ fu ∧ b - mid ≤ fu by have := q6.out; have := HQ.out; omega)
                    have ghr := guard_of (x := s) (y := m) (u := m) (v := e) hr
                    have ght := guard_no (x := a) (y := s) (u := s) (v := mid) ht
                    have ghw := guard_no (x := mid) (y := e) (u := e) (v := b) hw
                    clear hr ht hw
                    obtain ⟨ghr1, ghr2, ghr3, ghr4⟩ := ghr
                    rcases ght with ⟨ght1, ght2⟩ | ⟨ght1, ght2, ght3, ght4⟩
                    all_goals
                      rcases ghw with ⟨ghw1, ghw2⟩ | ⟨ghw1, ghw2, ghw3, ghw4⟩
                      all_goals
                        go_wp2_with fail
                        refine (CR.out).mono ?_
                        rintro ee wa ⟨rfl, ha1, ka1⟩
                        have HA := Lib.hid (show RowO cap ok wa g n (rotF (e - s) l m (m - s) (e - m)) from ⟨ha1, OKR.out⟩)
                        have KA := Lib.hid (HG.out.trans ka1)
                        clear ha1 ka1
                        go_wp2
                        go_returns
                        exact ⟨rfl, by rw [← E9.out]; exact HA.out, KA.out⟩
              · by_cases ht : a < s ∧ s < mid
                · by_cases hw : mid < e ∧ e < b
                  · skip
                    have E9 := EQ.out
                    rw [if_neg hr] at E9
                    rw [if_pos ht] at E9
                    rw [if_pos hw] at E9
                    have E9 := Lib.hid E9
                    have BD := Lib.hid (show e ≤ b ∧ mid - a ≤ fu ∧ b - mid ≤ fu by have := q6.out; have := HQ.out; omega)
                    have ghr := guard_no (x := s) (y := m) (u := m) (v := e) hr
                    have ght := guard_of (x := a) (y := s) (u := s) (v := mid) ht
                    have ghw := guard_of (x := mid) (y := e) (u := e) (v := b) hw
                    clear hr ht hw
                    obtain ⟨ght1, ght2, ght3, ght4⟩ := ght
                    obtain ⟨ghw1, ghw2, ghw3, ghw4⟩ := ghw
                    rcases ghr with ⟨ghr1, ghr2⟩ | ⟨ghr1, ghr2, ghr3, ghr4⟩
                    all_goals
                      have IH1 := Lib.hid (IHR.out a s mid _ wr BD.out.2.1 (by omega) (by omega) (by omega) HW.out (H0.out.trans HG.out))
                      go_wp2_with fail
                      refine (IH1.out).mono ?_
                      rintro ee wb ⟨rfl, ha2, ka2⟩
                      have HB := Lib.hid ha2
                      have KB := Lib.hid (HG.out.trans ka2)
                      clear ha2 ka2
                      have IH2 := Lib.hid (IHR.out mid e b _ wb BD.out.2.2 (by omega) (by omega) hb HB.out (H0.out.trans KB.out))
                      go_wp2_with fail
                      refine (IH2.out).mono ?_
                      rintro ee wc ⟨rfl, ha3, ka3⟩
                      have HD := Lib.hid ha3
                      have KD := Lib.hid (KB.out.trans ka3)
                      clear ha3 ka3
                      go_wp2
                      go_returns
                      exact ⟨rfl, by rw [← E9.out]; exact HD.out, KD.out⟩
                  · skip
                    have E9 := EQ.out
                    rw [if_neg hr] at E9
                    rw [if_pos ht] at E9
                    rw [if_neg hw] at E9
                    have E9 := Lib.hid E9
                    have BD := Lib.hid (show e ≤ b ∧ mid - a ≤ fu ∧ b - mid ≤ fu by have := q6.out; have := HQ.out; omega)
                    have ghr := guard_no (x := s) (y := m) (u := m) (v := e) hr
                    have ght := guard_of (x := a) (y := s) (u := s) (v := mid) ht
                    have ghw := guard_no (x := mid) (y := e) (u := e) (v := b) hw
                    clear hr ht hw
                    obtain ⟨ght1, ght2, ght3, ght4⟩ := ght
                    rcases ghr with ⟨ghr1, ghr2⟩ | ⟨ghr1, ghr2, ghr3, ghr4⟩
                    all_goals
                      rcases ghw with ⟨ghw1, ghw2⟩ | ⟨ghw1, ghw2, ghw3, ghw4⟩
                      all_goals
                        have IH1 := Lib.hid (IHR.out a s mid _ wr BD.out.2.1 (by omega) (by omega) (by omega) HW.out (H0.out.trans HG.out))
                        go_wp2_with fail
                        refine (IH1.out).mono ?_
                        rintro ee wb ⟨rfl, ha2, ka2⟩
                        have HB := Lib.hid ha2
                        have KB := Lib.hid (HG.out.trans ka2)
                        clear ha2 ka2
                        go_wp2
                        go_returns
                        exact ⟨rfl, by rw [← E9.out]; exact HB.out, KB.out⟩
                · by_cases hw : mid < e ∧ e < b
                  · skip
                    have E9 := EQ.out
                    rw [if_neg hr] at E9
                    rw [if_neg ht] at E9
                    rw [if_pos hw] at E9
                    have E9 := Lib.hid E9
                    have BD := Lib.hid (show e ≤ b ∧ mid - a ≤ fu ∧ b - mid ≤ fu by have := q6.out; have := HQ.out; omega)
                    have ghr := guard_no (x := s) (y := m) (u := m) (v := e) hr
                    have ght := guard_no (x := a) (y := s) (u := s) (v := mid) ht
                    have ghw := guard_of (x := mid) (y := e) (u := e) (v := b) hw
                    clear hr ht hw
                    obtain ⟨ghw1, ghw2, ghw3, ghw4⟩ := ghw
                    rcases ghr with ⟨ghr1, ghr2⟩ | ⟨ghr1, ghr2, ghr3, ghr4⟩
                    all_goals
                      rcases ght with ⟨ght1, ght2⟩ | ⟨ght1, ght2, ght3, ght4⟩
                      all_goals
                        have IH2 := Lib.hid (IHR.out mid e b _ wr BD.out.2.2 (by omega) (by omega) hb HW.out (H0.out.trans HG.out))
                        go_wp2_with fail
                        refine (IH2.out).mono ?_
                        rintro ee wc ⟨rfl, ha3, ka3⟩
                        have HD := Lib.hid ha3
                        have KD := Lib.hid (HG.out.trans ka3)
                        clear ha3 ka3
                        go_wp2
                        go_returns
                        exact ⟨rfl, by rw [← E9.out]; exact HD.out, KD.out⟩
                  · skip
                    have E9 := EQ.out
                    rw [if_neg hr] at E9
                    rw [if_neg ht] at E9
                    rw [if_neg hw] at E9
                    have E9 := Lib.hid E9
                    have BD := Lib.hid (show e ≤ b ∧ mid - a ≤ fu ∧ b - mid ≤ fu by have := q6.out; have := HQ.out; omega)
                    have ghr := guard_no (x := s) (y := m) (u := m) (v := e) hr
                    have ght := guard_no (x := a) (y := s) (u := s) (v := mid) ht
                    have ghw := guard_no (x := mid) (y := e) (u := e) (v := b) hw
                    clear hr ht hw
                    rcases ghr with ⟨ghr1, ghr2⟩ | ⟨ghr1, ghr2, ghr3, ghr4⟩
                    all_goals
                      rcases ght with ⟨ght1, ght2⟩ | ⟨ght1, ght2, ght3, ght4⟩
                      all_goals
                        rcases ghw with ⟨ghw1, ghw2⟩ | ⟨ghw1, ghw2, ghw3, ghw4⟩
                        all_goals
                          go_wp2
                          go_returns
                          exact ⟨rfl, by rw [← E9.out]; exact HW.out, HG.out⟩
end Go.Proofs.YteeblpdjpaellaaDoor
