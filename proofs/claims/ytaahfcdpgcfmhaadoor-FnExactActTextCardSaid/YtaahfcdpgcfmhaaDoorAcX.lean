/- The text of an act, by the model and by the program, put together: contracts. Condition: the table of powers of ten is as laid; the act is as told. -/
import Derived.Test.YtaahfcdpgcfmhaaDoorAcT
namespace Go.Proofs.YtaahfcdpgcfmhaaDoor
set_option linter.unusedSimpArgs false
set_option linter.unusedVariables false
set_option maxRecDepth 100000
open Go.RowKit

theorem bcellA {W w1 : World} (hb : Below W.heap.size W w1) : ∀ b o, b < W.heap.size → w1.cell? ⟨b, o, none⟩ = W.cell? ⟨b, o, none⟩ := fun b o h => hb.cell (p := ⟨b, o, none⟩) h
set_option maxHeartbeats 8000000 in
theorem l06Text_step (k : Nat) (hk : k ≤ 5) (wo bo : Int) (ho : 0 ≤ wo ∧ wo ≤ 49) (hb : 0 ≤ bo ∧ bo ≤ 59) (w : World) :
    Calls Tryd.prog 111 #[.agg #[.int .i8 (k : Int), .int .i8 wo, .int .i8 bo]] w fun e w' => e = .returned (.string (strOf (actT ⟨(k : Int), wo, bo⟩))) ∧ Below w.heap.size w w' := by
  obtain ⟨o1, o2⟩ := ho
  obtain ⟨b1, b2⟩ := hb
  have G0 := Lib.hid (show Below w.heap.size w (w.alloc (.cells #[.int .i8 (k : Int), .int .i8 wo, .int .i8 bo] 89)) from (Below.refl _ _).alloc (Nat.le_refl _) _)
  have BX := Lib.hid (heap_alloc_new w (.cells #[.int .i8 (k : Int), .int .i8 wo, .int .i8 bo] 89))
  have DO := Lib.hid (fun W => dec_any o1 (by omega) W)
  have DB := Lib.hid (fun W => dec_any b1 (by omega) W)
  have WA := Lib.hid (fun W => l06Words_any W)
  have k0 : (0 : Int) ≤ (k : Int) := by omega
  have k6 : (k : Int) < 6 := by omega
  have kn : k < 6 := by omega
  have ET := Lib.hid (show actT ⟨(k : Int), wo, bo⟩ = wordT k ++ (if (k : Int) = 5 then [] else [32] ++ (dec wo ++ ([32] ++ dec bo))) by unfold actT; simp)
  have lw := wordT_len k
  go_enter Tryd.func111, Tryd.ntmps111
  go_upto_region 1 with (fail)
  generalize World.alloc _ _ = W0 at G0 BX ⊢
  have hg := (Array.getElem?_eq_some_iff.1 BX.out).1
  have q0 := cell_of_row W0 _ 0 _ _ _ BX.out
  have q1 := cell_of_row W0 _ 1 _ _ _ BX.out
  have q2 := cell_of_row W0 _ 2 _ _ _ BX.out
  simp only [List.getElem?_toArray, List.getElem?_cons_zero, List.getElem?_cons_succ] at q0 q1 q2
  go_cut [3] from 4 to 8 (fun s3 wx => s3 = .string (strOf (wordT k)) ∧ Below W0.heap.size W0 wx)
  case first =>
    go_region_law ((go_simp; go_at_call 150; refine (WA.out _).mono ?_; rintro e w1 ⟨gw, rfl, hW, g1⟩; have hc1 := (Below.cell g1 (p := ⟨w.heap.size, 0, none⟩) hg).trans q0; have hcw := hW.c k kn))
    all_goals
      go_wp2_with fail
      go_meet
      first
        | exact ⟨rfl, (Below.refl _ _).drew.trans g1⟩
        | exact ⟨rfl, g1⟩
  case rest =>
  obtain ⟨rfl, hcut⟩ := hcut
  have G1 := Lib.hid (bnext G0.out hcut)
  have B1 := Lib.hid ((hcut.block _ hg).trans BX.out)
  clear q0 q1 q2 hcut
  have hg1 := (Array.getElem?_eq_some_iff.1 B1.out).1
  have q0 := cell_of_row wc _ 0 _ _ _ B1.out
  have q1 := cell_of_row wc _ 1 _ _ _ B1.out
  have q2 := cell_of_row wc _ 2 _ _ _ B1.out
  simp only [List.getElem?_toArray, List.getElem?_cons_zero, List.getElem?_cons_succ] at q0 q1 q2
  by_cases h5 : (k : Int) = 5
  · have E := Lib.hid (show wordT k = actT ⟨(k : Int), wo, bo⟩ by rw [ET.out, if_pos h5, List.append_nil])
    have h5b : ((k : Int) == 5) = true := by simpa using h5
    clear ET h5
    go_wp2
    go_ret
    exact ⟨by rw [E.out]; rfl, G1.out⟩
  · have h5b : ((k : Int) == 5) = false := by simpa using h5
    have s0 := strOf_size (wordT k)
    have s1 := strOf_size (dec wo)
    have s2 := strOf_size (dec bo)
    have d1 := dec_len (z := wo) (by omega)
    have d2 := dec_len (z := bo) (by omega)
    have E := Lib.hid (show strOf (wordT k) ++ ⟨#[32]⟩ ++ strOf (dec wo) ++ ⟨#[32]⟩ ++ strOf (dec bo) = strOf (actT ⟨(k : Int), wo, bo⟩) by
      rw [ET.out, if_neg h5, show (⟨#[32]⟩ : ByteArray) = strOf [32] from rfl]
      simp only [strOf_cat, List.append_assoc])
    have a1 : ¬ (9223372036854775807 < (strOf (wordT k)).size + 1) := by omega
    have a2 : ¬ (9223372036854775807 < (strOf (wordT k)).size + 1 + (strOf (dec wo)).size) := by omega
    have a3 : ¬ (9223372036854775807 < (strOf (wordT k)).size + 1 + (strOf (dec wo)).size + 1) := by omega
    have a4 : ¬ (9223372036854775807 < (strOf (wordT k)).size + 1 + (strOf (dec wo)).size + 1 + (strOf (dec bo)).size) := by omega
    generalize strOf (wordT k) = S0 at *
    generalize strOf (dec wo) = S1 at *
    generalize strOf (dec bo) = S2 at *
    have p1 := belowBy_cell hg1 q1
    have p2 := belowBy_cell hg1 q2
    clear ET h5 s0 s1 s2 d1 d2 lw
    go_wp2
    refine wp_region_below (by kernel_rfl) (by kernel_rfl) ?_
    iterate 14 (first | go_big_quiet_step ((go_at_call 129; with_reducible first | exact calls_below (DO.out _) | exact calls_below (DB.out _))) | quiet_step ((go_at_call 129; with_reducible first | exact calls_below (DO.out _) | exact calls_below (DB.out _))))
    refine wpQuiet_nil ?_
    rintro w3 ⟨⟨_, hq⟩, rfl⟩
    clear p1 p2 a1 a2 a3 a4 q0 q1 q2
    go_wp2
    go_ret
    exact ⟨by rw [← E.out]; rfl, bnext G1.out hq⟩
theorem tAct : (89 : Nat) ≠ 5 := by decide
set_option maxHeartbeats 8000000 in
theorem appendAct_step (k : Nat) (hk : k ≤ 5) (wo bo : Int) (ho : 0 ≤ wo ∧ wo ≤ 49) (hb : 0 ≤ bo ∧ bo ≤ 59) (B : Nat) (L : List UInt8) (v : Value) (w : World) (ht : Txt w B v L) (hB : B ≤ w.heap.size) (hlim : L.length ≤ 100000000) (htab : Tab B w) :
    Calls Tryd.prog 113 #[v, .agg #[.int .i8 (k : Int), .int .i8 wo, .int .i8 bo]] w fun e w' => ∃ v', e = .returned v' ∧ Txt w' B v' (L ++ actT ⟨(k : Int), wo, bo⟩) ∧ Kp B w w' := by
  obtain ⟨i0, hi0, hz0, hz1, hz2⟩ := info_parts infoByteT
  obtain ⟨o1, o2⟩ := ho
  obtain ⟨b1, b2⟩ := hb
  have GX := Lib.hid (show Kp B w (w.alloc (.cells #[.int .i8 (k : Int), .int .i8 wo, .int .i8 bo] 89)) from (Kp.refl B w).alloc hB _)
  have BX := Lib.hid (heap_alloc_new w (.cells #[.int .i8 (k : Int), .int .i8 wo, .int .i8 bo] 89))
  have TX := Lib.hid (show Txt (w.alloc (.cells #[.int .i8 (k : Int), .int .i8 wo, .int .i8 bo] 89)) B v L from ht.below ((Below.refl _ _).alloc (Nat.le_refl _) _))
  have ZX := Lib.hid (show B ≤ (w.alloc (.cells #[.int .i8 (k : Int), .int .i8 wo, .int .i8 bo] 89)).heap.size by simp; omega)
  have HT := Lib.hid htab
  have WA := Lib.hid (fun W => actWords_any W)
  have k0 : (0 : Int) ≤ (k : Int) := by omega
  have k6 : (k : Int) < 6 := by omega
  have kn : k < 6 := by omega
  have ET := Lib.hid (show actT ⟨(k : Int), wo, bo⟩ = wordT k ++ (if (k : Int) = 5 then [] else [32] ++ (dec wo ++ ([32] ++ dec bo))) by unfold actT; simp)
  have lw := wordT_len k
  have lws := strOf_size (wordT k)
  have d1 := dec_len (z := wo) (by omega)
  clear ht htab
  go_enter Tryd.func113, Tryd.ntmps113
  go_upto_region 1 with (fail)
  generalize World.alloc _ _ = W0 at GX BX TX ZX ⊢
  have hg := (Array.getElem?_eq_some_iff.1 BX.out).1
  have q0 := cell_of_row W0 _ 0 _ _ _ BX.out
  simp only [List.getElem?_toArray, List.getElem?_cons_zero, List.getElem?_cons_succ] at q0
  go_cut [0] from 5 to 11 (fun s0 wx => Txt wx B s0 (L ++ wordT k) ∧ Kp B W0 wx)
  case first =>
    go_region_law (first
      | (refine step_append_txt (by rfl) (.tmp 5) (.tmp 10) _ _ (by rfl) B 5 i0 Tryd.underlying121 Tryd.underlying9 hi0 hz0 hz1 hz2 v L.length (Lib.byteCells L) (by rfl) (by first | exact T1.out | exact T1d.out) (strOf (wordT k)) (by rfl) (by unfold maxLen; omega) (by omega) (by first | exact K1.out.b.size | (have := ZX.out; have := K1.out.size; omega)) ?_; intro v5 w5 hown5 hgrow5; have T5 := Lib.hid (show Txt w5 B v5 (L ++ wordT k) from Txt.of hown5 (by rw [lws, List.length_append]) (by rw [Lib.byteCells_append]; rfl)); have K5 := Lib.hid (K1.out.grown T1.out (by first | exact hgrow5) (by have := ZX.out; have := K1.out.size; omega)); clear hown5 hgrow5)
      | (go_simp; go_at_call 153; refine (WA.out _).mono ?_; rintro e w1 ⟨gw, rfl, hW, g1⟩; have hc1 := (Below.cell g1 (p := ⟨w.heap.size, 0, none⟩) hg).trans q0; have hcw := hW.c k kn; have K1 := Lib.hid (show Kp B W0 w1 by first | exact (Kp.refl B W0).below ZX.out g1 | exact (Kp.refl B W0).drew.below ZX.out g1); have T1 := Lib.hid (show Txt w1 B v L by first | exact TX.out.below g1 | exact Txt.below (show Txt W0.drew B v L from TX.out) g1); have T1d := Lib.hid (show Txt w1.drew B v L from T1.out)))
    all_goals
      go_wp2_with fail
      go_meet
      exact ⟨T5.out, K5.out⟩
  case rest =>
  obtain ⟨wb, rfl⟩ : ∃ x, x = wc := ⟨_, rfl⟩
  obtain ⟨ht1, hk1⟩ := hcut
  have G1 := Lib.hid (GX.out.trans hk1)
  have B1 := Lib.hid (hk1.box BX.out tAct)
  have T1 := Lib.hid ht1
  have z1 := hk1.size
  have z0 := ZX.out
  have zB : B ≤ wb.heap.size := by omega
  clear q0 ht1 hk1
  have hg1 := (Array.getElem?_eq_some_iff.1 B1.out).1
  have q0 := cell_of_row wb _ 0 _ _ _ B1.out
  have q1 := cell_of_row wb _ 1 _ _ _ B1.out
  simp only [List.getElem?_toArray, List.getElem?_cons_zero, List.getElem?_cons_succ] at q0 q1
  by_cases h5 : (k : Int) = 5
  · have E := Lib.hid (show L ++ wordT k = L ++ actT ⟨(k : Int), wo, bo⟩ by rw [ET.out, if_pos h5, List.append_nil])
    have h5b : ((k : Int) == 5) = true := by simpa using h5
    clear ET h5
    go_wp2
    go_ret
    exact ⟨_, rfl, by rw [← E.out]; exact T1.out, G1.out⟩
  · have h5b : ((k : Int) == 5) = false := by simpa using h5
    have E := Lib.hid (show L ++ wordT k ++ [32] ++ (dec wo ++ [32]) ++ (dec bo ++ []) = L ++ actT ⟨(k : Int), wo, bo⟩ by
      rw [ET.out, if_neg h5]
      simp only [List.append_assoc, List.append_nil])
    have lM : (L ++ wordT k).length ≤ 100000006 := by rw [List.length_append]; omega
    generalize L ++ wordT k = M at T1 E lM ⊢
    have wz : IntKind.i64.wrap wo = wo := IntWalk.i64_in _ (by omega)
    have wzb : IntKind.i64.wrap bo = bo := IntWalk.i64_in _ (by omega)
    have TA := Lib.hid (show Txt (wb.alloc (.cells #[.int .u8 32] 5)) B u0 M from T1.out.below ((Below.refl _ _).alloc (Nat.le_refl _) _))
    have qa : (wb.alloc (.cells #[.int .u8 32] 5)).cell? ⟨w.heap.size, 1, none⟩ = some (.int .i8 wo) := (Below.cell ((Below.refl wb.heap.size wb).alloc (Nat.le_refl _) _) (p := ⟨w.heap.size, 1, none⟩) hg1).trans q1
    have KA := Lib.hid (show Kp B wb (wb.alloc (.cells #[.int .u8 32] 5)) from (Kp.refl B wb).alloc zB _)
    have zA : B ≤ (wb.alloc (.cells #[.int .u8 32] 5)).heap.size := by simp; omega
    have TAd := Lib.hid (show Txt (wb.alloc (.cells #[.int .u8 32] 5)).drew B u0 M from TA.out)
    have CA := Lib.hid (cellOne wb (.int .u8 32) 5)
    have CAd := Lib.hid (show ∀ (j : Nat) (x : Value), [Value.int .u8 32][j]? = some x → (wb.alloc (.cells #[.int .u8 32] 5)).drew.cell? (Addr.add ⟨wb.heap.size, 0, none⟩ j) = some x from CA.out)
    clear ET h5
    go_upto_region 4 with (fail)
    go_cut [0] from 16 to 22 (fun s0 wx => Txt wx B s0 (M ++ [32] ++ (dec wo ++ [32])) ∧ Kp B wb wx)
    case first =>
      go_region_law (first
        | (refine step_append_lies _ (by rfl) (.tmp 16) (.tmp 17) _ (by rfl) B 5 i0 (.int .u8 0) 1 1 Tryd.underlying121 hi0 hz0 hz1 hz2 rfl (by decide) u0 M.length (Lib.byteCells M) (by rfl) (by first | exact TA.out | exact TAd.out) ⟨wb.heap.size, 0, none⟩ 1 1 [.int .u8 32] (by rfl) rfl (by first | exact CA.out | exact CAd.out) (by intro u hu; simp at hu; subst hu; rfl) (by decide) (by unfold maxLen; omega) (by omega) zA _ rfl ?_; intro g5 c5 w5 hown5 hgrow5 _ _; have T5 := Lib.hid (show Txt w5 B (.slice (some ⟨g5, 0, none⟩) (M.length + 1) c5) (M ++ [32]) from Txt.of hown5 (by simp only [List.length_append, List.length_cons, List.length_nil]) (by rw [Lib.byteCells_append _ [32]]; rfl)); have K5 := Lib.hid (show Kp B wb w5 by first | exact KA.out.grown TA.out hgrow5 zA | exact KA.out.drew.grown TAd.out hgrow5 zA); have z5 := K5.out.size; have c5 := cell_of_row w5 _ 1 _ _ _ (K5.out.box B1.out tAct); simp only [List.getElem?_toArray, List.getElem?_cons_zero, List.getElem?_cons_succ] at c5; clear hown5 hgrow5)
        | (go_simp; go_at_call 89; refine (number_txt B wo o1 (by omega) [32] (M ++ [32]) _ _ (by first | exact T5.out) (by first | omega | exact Nat.le_trans zB z5) (by simp only [List.length_append, List.length_cons, List.length_nil]; omega) (HT.out.on (by first | exact (G1.out.trans K5.out).b | exact (G1.out.trans K5.out).drew.b))).mono ?_; rintro e w6 ⟨v6, rfl, ht6, hk6⟩; have T6 := Lib.hid ht6; have K6 := Lib.hid (show Kp B wb w6 by first | exact K5.out.trans hk6 | exact K5.out.drew.trans hk6); clear ht6 hk6))
      all_goals
        go_wp2_with fail
        go_meet
        exact ⟨T6.out, K6.out⟩
    case rest =>
    obtain ⟨ht2, hk2⟩ := hcut
    have T2 := Lib.hid ht2
    have G2 := Lib.hid (G1.out.trans hk2)
    have B2 := Lib.hid (hk2.box B1.out tAct)
    have z2 := hk2.size
    have zB2 : B ≤ wc.heap.size := by omega
    clear ht2 hk2 q0 q1 qa
    have q2 := cell_of_row wc _ 2 _ _ _ B2.out
    simp only [List.getElem?_toArray, List.getElem?_cons_zero, List.getElem?_cons_succ] at q2
    go_wp2_with fail
    refine (number_txt B bo b1 (by omega) [] (M ++ [32] ++ (dec wo ++ [32])) _ _ T2.out zB2 (by simp only [List.length_append, List.length_cons, List.length_nil]; omega) (HT.out.on G2.out.b)).mono ?_
    rintro e w7 ⟨v7, rfl, ht7, hk7⟩
    have T7 := Lib.hid (show Txt w7 B v7 (L ++ actT ⟨(k : Int), wo, bo⟩) by rw [← E.out]; exact ht7)
    have G7 := Lib.hid (G2.out.trans hk7)
    clear ht7 hk7
    go_wp2
    go_ret
    exact ⟨_, rfl, T7.out, G7.out⟩
theorem ac_nat {a : Ac} (h : actB a = true) : ∃ k : Nat, k ≤ 5 ∧ a = ⟨(k : Int), a.wo, a.bo⟩ := by
  obtain ⟨h1, _, _⟩ := actB_bd h
  refine ⟨a.wt.toNat, by omega, ?_⟩
  obtain ⟨x, y, z⟩ := a
  congr 1
  show x = _
  have h2 : 0 ≤ x := h1.1
  simp only
  omega
theorem l06Text_any (a : Ac) (h : actB a = true) (w : World) :
    Calls Tryd.prog 111 #[.agg #[.int .i8 a.wt, .int .i8 a.wo, .int .i8 a.bo]] w fun e w' => e = .returned (.string (strOf (actT a))) ∧ Below w.heap.size w w' := by
  obtain ⟨k, hk, e⟩ := ac_nat h
  obtain ⟨_, h2, h3⟩ := actB_bd h
  have := l06Text_step k hk a.wo a.bo h2 h3 w
  rw [← e] at this
  rwa [show (k : Int) = a.wt by rw [e]] at this
theorem appendAct_any (a : Ac) (h : actB a = true) (B : Nat) (L : List UInt8) (v : Value) (w : World) (ht : Txt w B v L) (hB : B ≤ w.heap.size) (hlim : L.length ≤ 100000000) (htab : Tab B w) :
    Calls Tryd.prog 113 #[v, .agg #[.int .i8 a.wt, .int .i8 a.wo, .int .i8 a.bo]] w fun e w' => ∃ v', e = .returned v' ∧ Txt w' B v' (L ++ actT a) ∧ Kp B w w' := by
  obtain ⟨k, hk, e⟩ := ac_nat h
  obtain ⟨_, h2, h3⟩ := actB_bd h
  have := appendAct_step k hk a.wo a.bo h2 h3 B L v w ht hB hlim htab
  rw [← e] at this
  rwa [show (k : Int) = a.wt by rw [e]] at this
set_option maxHeartbeats 2000000 in
theorem specActText_any (a : Ac) (wa : a.Wf) (w : World) :
    Calls Tryd.prog 53 #[.agg #[.int .i8 a.wt, .int .i8 a.wo, .int .i8 a.bo]] w fun e w' => e = .returned (.string (actS a)) ∧ Below w.heap.size w w' := by
  have G0 := Lib.hid (show Below w.heap.size w (w.alloc (.cells #[.int .i8 a.wt, .int .i8 a.wo, .int .i8 a.bo] 89)) from (Below.refl _ _).alloc (Nat.le_refl _) _)
  have BX := Lib.hid (heap_alloc_new w (.cells #[.int .i8 a.wt, .int .i8 a.wo, .int .i8 a.bo] 89))
  have OK := Lib.hid (fun W => l06Act_any a wa W)
  have LT := Lib.hid (fun h W => l06Text_any a h W)
  go_enter Tryd.func53, Tryd.ntmps53
  go_upto_region 1 with (fail)
  generalize World.alloc _ _ = W0 at G0 BX ⊢
  have q0 := cell_of_row W0 _ 0 _ _ _ BX.out
  have q1 := cell_of_row W0 _ 1 _ _ _ BX.out
  have q2 := cell_of_row W0 _ 2 _ _ _ BX.out
  simp only [List.getElem?_toArray, List.getElem?_cons_zero, List.getElem?_cons_succ] at q0 q1 q2
  go_wp2_with fail
  refine (OK.out _).mono ?_
  rintro e w1 ⟨rfl, h1⟩
  have G1 := Lib.hid (bnext G0.out h1)
  have B1 := Lib.hid ((h1.block _ (Array.getElem?_eq_some_iff.1 BX.out).1).trans BX.out)
  clear q0 q1 q2 h1
  have q0 := cell_of_row w1 _ 0 _ _ _ B1.out
  have q1 := cell_of_row w1 _ 1 _ _ _ B1.out
  have q2 := cell_of_row w1 _ 2 _ _ _ B1.out
  simp only [List.getElem?_toArray, List.getElem?_cons_zero, List.getElem?_cons_succ] at q0 q1 q2
  cases hk : actB a
  · have E := Lib.hid (show actS a = ⟨#[]⟩ by unfold actS; rw [hk]; rfl)
    go_wp2
    go_ret
    exact ⟨by rw [E.out]; rfl, G1.out⟩
  · have E := Lib.hid (show actS a = strOf (actT a) by unfold actS; rw [hk]; rfl)
    go_wp2_with fail
    refine (LT.out hk _).mono ?_
    rintro e w2 ⟨rfl, h2⟩
    go_wp2
    go_ret
    exact ⟨by rw [E.out]; rfl, bnext G1.out h2⟩
set_option maxHeartbeats 2000000 in
theorem actText_any (a : Ac) (wa : a.Wf) (w : World) (htab : Tab w.heap.size w) :
    Calls Tryd.prog 55 #[.agg #[.int .i8 a.wt, .int .i8 a.wo, .int .i8 a.bo]] w fun e w' => e = .returned (.string (actS a)) ∧ Below w.heap.size w w' := by
  have G0 := Lib.hid (show Below w.heap.size w (w.alloc (.cells #[.int .i8 a.wt, .int .i8 a.wo, .int .i8 a.bo] 89)) from (Below.refl _ _).alloc (Nat.le_refl _) _)
  have BX := Lib.hid (heap_alloc_new w (.cells #[.int .i8 a.wt, .int .i8 a.wo, .int .i8 a.bo] 89))
  have OK := Lib.hid (fun W => isAct_any a wa W)
  have AB := Lib.hid (fun (hk : actB a = true) W hB ht => appendAct_any a hk w.heap.size [] (.slice none 0 0) W (Txt.nil W _) hB (Nat.zero_le _) ht)
  have HT := Lib.hid htab
  clear htab
  go_enter Tryd.func55, Tryd.ntmps55
  go_upto_region 1 with (fail)
  generalize World.alloc _ _ = W0 at G0 BX ⊢
  have q0 := cell_of_row W0 _ 0 _ _ _ BX.out
  have q1 := cell_of_row W0 _ 1 _ _ _ BX.out
  have q2 := cell_of_row W0 _ 2 _ _ _ BX.out
  simp only [List.getElem?_toArray, List.getElem?_cons_zero, List.getElem?_cons_succ] at q0 q1 q2
  go_wp2_with fail
  refine (OK.out _).mono ?_
  rintro e w1 ⟨rfl, h1⟩
  have G1 := Lib.hid (bnext G0.out h1)
  have B1 := Lib.hid ((h1.block _ (Array.getElem?_eq_some_iff.1 BX.out).1).trans BX.out)
  clear q0 q1 q2 h1
  have q0 := cell_of_row w1 _ 0 _ _ _ B1.out
  have q1 := cell_of_row w1 _ 1 _ _ _ B1.out
  have q2 := cell_of_row w1 _ 2 _ _ _ B1.out
  simp only [List.getElem?_toArray, List.getElem?_cons_zero, List.getElem?_cons_succ] at q0 q1 q2
  cases hk : actB a
  · have E := Lib.hid (show actS a = ⟨#[]⟩ by unfold actS; rw [hk]; rfl)
    go_wp2
    go_ret
    exact ⟨by rw [E.out]; rfl, G1.out⟩
  · have E := Lib.hid (show actS a = strOf (actT a) by unfold actS; rw [hk]; rfl)
    have AK := Lib.hid (AB.out hk w1 G1.out.size (HT.out.on G1.out))
    go_wp2_with fail
    refine AK.out.mono ?_
    rintro e w2 ⟨v2, rfl, ht2, hk2⟩
    have DC := ht2.string
    rw [List.nil_append] at DC
    go_wp2
    go_ret
    exact ⟨by rw [E.out]; rfl, G1.out.trans hk2.b⟩
end Go.Proofs.YtaahfcdpgcfmhaaDoor
