/- ReadHeights, by the model: a contract. Condition: a text no longer than told. -/
import Derived.Test.YtkcoakhfckipdaaDoorRdI
namespace Go.Proofs.YtkcoakhfckipdaaDoor
set_option linter.unusedSimpArgs false
set_option linter.unusedVariables false
set_option maxRecDepth 100000
open Go.RowKit

theorem elemI64L : Tryd.prog.underlying 35 = some (.slice (Tryd.prog.elem 35)) := by kernel_rfl
theorem sizeI64L (w : World) : (sizeOf (Tryd.prog.elem 35)).run Tryd.prog w = .ok 1 w := by kernel_rfl
theorem run_from3 (g n c m : Nat) (hi : 3 < n) (hm : n = m + 3) (hc : n ≤ c) (w : World) :
    (Instr.slice 35 (.slice (some ⟨g, 0, none⟩) n c) (some (.int .i64 3)) none none).run Tryd.prog w = .ok (.slice (some ⟨g, 3, none⟩) m (c - 3)) w := by
  rw [run_slice_l w _ _ _ _ elemI64L _ _ (by omega) (by omega), sizeI64L]
  have e : n - 3 = m := by omega
  have e2 : ¬ c = 3 := by omega
  simp [Result.andThen, sliced, e, e2, Addr.add]
set_option maxHeartbeats 8000000 in
theorem specReadHeights_any (T : ByteArray) (hT : T.size ≤ 1048576) (w : World) :
    Calls Tryd.prog 43 #[.string T] w fun e w' => ∃ u, e = .returned (.tuple #[.agg #[.int .i16 (rhP T.data.toList).lo, .int .i16 (rhP T.data.toList).st, .int .i16 (rhP T.data.toList).bo], u, .int .i64 (rhC T.data.toList)]) ∧ IntsOf .i64 w' u (rhZ T.data.toList) ∧ Below w.heap.size w w' := by
  obtain ⟨i0, hi0, hz0, hz1, hz2⟩ := info_parts infoI64
  have b0 := (Below.refl w.heap.size w).alloc (Nat.le_refl _) (.cells #[.int .i16 0, .int .i16 0, .int .i16 0] 64)
  have B0 := Lib.hid b0
  have R0 := Lib.hid (PB.new w 0 0 0)
  generalize hW0 : w.alloc (.cells #[.int .i16 0, .int .i16 0, .int .i16 0] 64) = W0 at B0 R0
  have HW0 := Lib.hid hW0
  have SPL := Lib.hid (l01Split_any T hT 32 W0)
  clear hW0 b0
  go_enter Tryd.func43, Tryd.ntmps43
  go_wp2_with fail
  rw [HW0.out]
  refine SPL.out.mono ?_
  rintro e w1 ⟨u, rfl, ho1, h1⟩
  obtain ⟨ws, ews⟩ : ∃ ws, ws = splitL 32 T.data.toList := ⟨_, rfl⟩
  rw [← ews] at ho1
  have WS := Lib.hid ews
  have SO := Lib.hid (ownStrs ho1 rfl)
  have R1 := Lib.hid (R0.out.later h1)
  have B1 := Lib.hid (bnext B0.out h1)
  have hlen : ws.length ≤ 1048577 := by rw [ews]; exact Nat.le_trans (splitL_len 32 _) (by rw [Array.length_toList]; exact Nat.succ_le_succ hT)
  have hwl : ∀ v ∈ ws, v.length ≤ 1048576 := fun v hv => by rw [ews] at hv; exact Nat.le_trans (split_word_len 32 _ v hv) (by rw [Array.length_toList]; exact hT)
  have HWL := Lib.hid hwl
  have z1 := B1.out.size
  have zr := R1.out.lt
  obtain ⟨As, cs, es, hsa⟩ := SO.out
  subst es
  have HSA := Lib.hid hsa
  have B2 := Lib.hid (show Below w.heap.size w (w1.alloc (.cells #[] 2)) from B1.out.alloc z1 _)
  have b12 := Lib.hid (show Below w1.heap.size w1 (w1.alloc (.cells #[] 2)) from (Below.refl _ _).alloc (Nat.le_refl _) _)
  have O2 := Lib.hid (show (w1.alloc (.cells #[] 2)).ownsRow w1.heap.size 2 1 (.slice (some ⟨w1.heap.size, 0, none⟩) 0 0) 0 (([] : List Int).map (Value.int .i64)) from ⟨rfl, .inr ⟨w1.heap.size, 0, _, rfl, Nat.le_refl _, heap_alloc_new w1 _, Nat.le_refl _, by decide, rfl, rfl⟩⟩)
  clear ho1 h1 ews hwl hsa
  go_wp2
  generalize World.alloc _ _ = w2 at B2 b12 O2 ⊢
  go_loopw [6, 7] (fun o i wr => ∃ (zs : List Int), zs.length ≤ ws.length ∧ i = .int .i64 (zs.length : Int) ∧ ws.take zs.length = zs.map dec ∧ AllIn 1000 zs ∧ wr.ownsRow w1.heap.size 2 1 o zs.length (zs.map (Value.int .i64)) ∧ Below w1.heap.size w1 wr) (fun _ i _ => ws.length - (intOf i).toNat)
  case atStart => exact ⟨[], Nat.zero_le _, rfl, rfl, fun _ h => (by simp at h), O2.out, b12.out⟩
  case round =>
    obtain ⟨zs, hk, rfl, htk, hnn, ho, hb⟩ := hrel
    have TK := Lib.hid htk
    have NN := Lib.hid hnn
    have OW := Lib.hid ho
    have HB := Lib.hid hb
    have zb := hb.size
    have HR := Lib.hid (R1.out.later hb)
    clear htk hnn ho hb
    by_cases hlt : zs.length < ws.length
    · obtain ⟨ga, oa, rfl, hga, hat⟩ := HSA.out (by omega)
      have p0 := hat.below HB.out hga zs.length hlt
      have sl : (strOf ws[zs.length]).data.toList = ws[zs.length] := by simp [strOf]
      have NU := Lib.hid (l01Number_any (strOf ws[zs.length]) (by rw [strOf_size]; exact HWL.out _ (List.getElem_mem hlt)) wr)
      rw [sl] at NU
      unfold strV at p0
      clear hat sl
      generalize hX : ws[zs.length] = X at *
      go_wp2_with fail
      refine NU.out.mono ?_
      rintro e w' ⟨n, ok, rfl, hn, rfl⟩
      have HX := Lib.hid hX
      have HN := Lib.hid hn
      clear hn hX
      cases ok
      · have NO := Lib.hid (rh_no (L := T.data.toList) (fun p zs' e => by
          have hs := (WS.out.trans e.split)
          have hl : zs.length < ([p.lo, p.st, p.bo] ++ zs').length := by have := congrArg List.length hs; rw [List.length_map] at this; omega
          have e3 : X = dec ([p.lo, p.st, p.bo] ++ zs')[zs.length] := by rw [← HX.out]; simp only [hs, List.getElem_map]
          have hz2 := e.all.1 _ (List.getElem_mem hl)
          rcases HN.out with ⟨h, _⟩ | ⟨_, _, h⟩
          · cases h
          · have := h _ hz2.1 e3
            rw [e3] at this
            have := dec_short (z := ([p.lo, p.st, p.bo] ++ zs')[zs.length]) (by omega)
            omega))
        have RX := HR.out
        have a0 := RX.c0; have a1 := RX.c1; have a2 := RX.c2
        have fz := RX.fz
        have BX := Lib.hid (B1.out.trans (HB.out.mono z1))
        have zr2 := RX.lt
        have RS := ((RX.set0 0).set1 0).set2 0
        have BY := Lib.hid (((BX.out.setCell (p := ⟨w.heap.size, 0, none⟩) (Nat.le_refl _) (.int .i16 0)).setCell (p := ⟨w.heap.size, 1, none⟩) (Nat.le_refl _) (.int .i16 0)).setCell (p := ⟨w.heap.size, 2, none⟩) (Nat.le_refl _) (.int .i16 0))
        have RL := RS.later ((Below.refl _ _).alloc (Nat.le_refl _) (.cells #[] 2))
        have QQ := Lib.hid RL
        clear RX RS RL
        go_wp2
        have q0 := QQ.out.c0; have q1 := QQ.out.c1; have q2 := QQ.out.c2
        refine bodyPost_ret (v := .tuple #[.agg #[.int .i16 0, .int .i16 0, .int .i16 0], .slice (some ⟨wr.heap.size, 0, none⟩) 0 0, .int .i64 5]) (by simp [results, Tryd.results43, go_sem, q0, q1, q2]) rfl ⟨_, by rw [NO.out.1, NO.out.2.2]; rfl, by rw [NO.out.2.1]; exact ⟨_, 0, rfl, fun h => absurd h (by simp)⟩, ?_⟩
        exact BY.out.alloc BY.out.size _
      · have n0 := HN.out
        by_cases hbig : 1000 < n
        · have gb : decide (1000 < n) = true := decide_eq_true hbig
          clear n0
          have NO := Lib.hid (rh_no (L := T.data.toList) (fun p zs' e => by
            have hs := (WS.out.trans e.split)
            have hl : zs.length < ([p.lo, p.st, p.bo] ++ zs').length := by have := congrArg List.length hs; rw [List.length_map] at this; omega
            have e3 : X = dec ([p.lo, p.st, p.bo] ++ zs')[zs.length] := by rw [← HX.out]; simp only [hs, List.getElem_map]
            have hz2 := e.all.1 _ (List.getElem_mem hl)
            rcases HN.out with ⟨_, h1, h2, _⟩ | ⟨h, _⟩
            · have := dec_inj h1 hz2.1 (h2.symm.trans e3)
              omega
            · cases h))
          have RX := HR.out
          have a0 := RX.c0; have a1 := RX.c1; have a2 := RX.c2
          have fz := RX.fz
          have BX := Lib.hid (B1.out.trans (HB.out.mono z1))
          have zr2 := RX.lt
          have RS := ((RX.set0 0).set1 0).set2 0
          have BY := Lib.hid (((BX.out.setCell (p := ⟨w.heap.size, 0, none⟩) (Nat.le_refl _) (.int .i16 0)).setCell (p := ⟨w.heap.size, 1, none⟩) (Nat.le_refl _) (.int .i16 0)).setCell (p := ⟨w.heap.size, 2, none⟩) (Nat.le_refl _) (.int .i16 0))
          have RL := RS.later ((Below.refl _ _).alloc (Nat.le_refl _) (.cells #[] 2))
          have QQ := Lib.hid RL
          clear RX RS RL
          go_wp2
          have q0 := QQ.out.c0; have q1 := QQ.out.c1; have q2 := QQ.out.c2
          refine bodyPost_ret (v := .tuple #[.agg #[.int .i16 0, .int .i16 0, .int .i16 0], .slice (some ⟨wr.heap.size, 0, none⟩) 0 0, .int .i64 5]) (by simp [results, Tryd.results43, go_sem, q0, q1, q2]) rfl ⟨_, by rw [NO.out.1, NO.out.2.2]; rfl, by rw [NO.out.2.1]; exact ⟨_, 0, rfl, fun h => absurd h (by simp)⟩, ?_⟩
          exact BY.out.alloc BY.out.size _
        have gb : decide (1000 < n) = false := decide_eq_false hbig
        clear n0
        have OX := Lib.hid (show (wr.alloc (.cells #[.int .i64 n] 2)).ownsRow w1.heap.size 2 1 u6 zs.length (zs.map (Value.int .i64)) from OW.out.alloc _)
        go_wp2_with (at_builtin; refine wpList_append_own _ rfl (.tmp 36) (.tmp 38) _ rfl w1.heap.size 2 i0 (.int .i64 0) 1 8 Tryd.underlying35 hi0 hz0 hz1 hz2 rfl (by decide) _ _ _ rfl OX.out ⟨wr.heap.size, 0, none⟩ 1 1 [.int .i64 n] rfl rfl (cellNew1 wr _ _) ?d2a ?d3a ?d4a ?d5a ?_)
        case d2a => (intro u hu; simp at hu; subst hu; rfl)
        case d3a => (unfold maxLen; omega)
        case d4a => omega
        case d5a => (simp; omega)
        intro v3 w3 hown3 hgrow3 _
        have O3 := Lib.hid (show w3.ownsRow w1.heap.size 2 1 v3 (zs ++ [n]).length ((zs ++ [n]).map (Value.int .i64)) by
          rw [List.length_append, List.length_singleton, List.map_append]
          exact hown3)
        have G3 := Lib.hid ((HB.out.alloc zb (.cells #[.int .i64 n] 2)).grown hgrow3 (by simp; omega) (fun k hk => (OX.out.lt k hk).1))
        have hnd : (0 ≤ n ∧ n ≤ 1000) ∧ X = dec n := by
          rcases HN.out with ⟨_, h1, h2, _⟩ | ⟨h, _⟩
          · exact ⟨⟨h1, by omega⟩, h2⟩
          · cases h
        have TK2 := Lib.hid (show ws.take (zs ++ [n]).length = (zs ++ [n]).map dec by
          rw [List.length_append, List.length_singleton, List.take_add_one, List.getElem?_eq_getElem hlt, HX.out, TK.out, List.map_append, hnd.2]
          rfl)
        have NN2 := Lib.hid (show AllIn 1000 (zs ++ [n]) from fun z hz => by
          rcases List.mem_append.1 hz with h | h
          · exact NN.out z h
          · rw [List.mem_singleton] at h; rw [h]; exact hnd.1)
        clear hown3 hgrow3 p0 hnd
        go_wp2
        exact ⟨⟨zs ++ [n], by rw [List.length_append, List.length_singleton]; omega, by rw [List.length_append, List.length_singleton]; simp, TK2.out, NN2.out, O3.out, G3.out⟩, by simp only [intOf]; omega⟩
    · have ek : zs.length = ws.length := by omega
      have EW := Lib.hid (show splitL 32 T.data.toList = zs.map dec by rw [← WS.out, ← TK.out, ek, List.take_length])
      have BX := Lib.hid (B1.out.trans (HB.out.mono z1))
      by_cases h4 : zs.length < 4
      · have g4 : decide ((zs.length : Int) < 4) = true := decide_eq_true (by omega)
        have g5 : (ws.length : Int) < 4 := by omega
        have NO := Lib.hid (rh_no (L := T.data.toList) (fun p zs' e => by
          have hs := congrArg List.length (EW.out.symm.trans e.split)
          have hl := e.all.2
          simp only [List.length_map, List.length_append, List.length_cons, List.length_nil] at hs
          omega))
        obtain ⟨A6, cap6, e6⟩ := own_sl OW.out
        subst e6
        clear h4
        have RX := HR.out
        have a0 := RX.c0; have a1 := RX.c1; have a2 := RX.c2
        have fz := RX.fz
        have zr2 := RX.lt
        have RS := ((RX.set0 0).set1 0).set2 0
        have BY := Lib.hid (((BX.out.setCell (p := ⟨w.heap.size, 0, none⟩) (Nat.le_refl _) (.int .i16 0)).setCell (p := ⟨w.heap.size, 1, none⟩) (Nat.le_refl _) (.int .i16 0)).setCell (p := ⟨w.heap.size, 2, none⟩) (Nat.le_refl _) (.int .i16 0))
        have RL := RS.later ((Below.refl _ _).alloc (Nat.le_refl _) (.cells #[] 2))
        have QQ := Lib.hid RL
        clear RX RS RL
        go_wp2
        have q0 := QQ.out.c0; have q1 := QQ.out.c1; have q2 := QQ.out.c2
        refine bodyPost_ret (v := .tuple #[.agg #[.int .i16 0, .int .i16 0, .int .i16 0], .slice (some ⟨wr.heap.size, 0, none⟩) 0 0, .int .i64 5]) (by simp [results, Tryd.results43, go_sem, q0, q1, q2]) rfl ⟨_, by rw [NO.out.1, NO.out.2.2]; rfl, by rw [NO.out.2.1]; exact ⟨_, 0, rfl, fun h => absurd h (by simp)⟩, ?_⟩
        exact BY.out.alloc BY.out.size _
      · have g5 : ¬ ((ws.length : Int) < 4) := by omega
        have g4 : decide ((zs.length : Int) < 4) = false := decide_eq_false (by omega)
        obtain ⟨m, hm⟩ : ∃ m, zs.length = m + 3 := ⟨zs.length - 3, by omega⟩
        obtain ⟨a, b, c, t, ez⟩ : ∃ a b c t, zs = a :: b :: c :: t := by
          match zs, hm with
          | a :: b :: c :: t, _ => exact ⟨a, b, c, t, rfl⟩
        have ht : t.length = m := by
          have h := hm
          rw [ez] at h
          simp only [List.length_cons] at h
          omega
        have EZ := Lib.hid ez
        have HT := Lib.hid ht
        rcases OW.out.2 with ⟨_, h⟩ | ⟨ga, cap, cur, e6, hgB, hgc, hnc, _, _, _⟩
        · omega
        subst e6
        have hga : ga < wr.heap.size := (Array.getElem?_eq_some_iff.1 hgc).1
        have HC := Lib.hid (show ∀ (j : Nat) (hj : j < zs.length), wr.cell? ⟨ga, j, none⟩ = (zs.map (Value.int .i64))[j]? from fun j hj => OW.out.cellAt j (by omega))
        have i0 := HC.out 0 (by omega)
        have i1 := HC.out 1 (by omega)
        have i2 := HC.out 2 (by omega)
        simp only [ez, List.map_cons, List.getElem?_cons_zero, List.getElem?_cons_succ] at i0 i1 i2
        have AB := NN.out
        have ba : 0 ≤ a ∧ a ≤ 1000 := AB a (by rw [ez]; simp)
        have bb : 0 ≤ b ∧ b ≤ 1000 := AB b (by rw [ez]; simp)
        have bc : 0 ≤ c ∧ c ≤ 1000 := AB c (by rw [ez]; simp)
        have w0 : IntKind.i16.wrap a = a := IntWalk.i16_in _ (by omega)
        have w1' : IntKind.i16.wrap b = b := IntWalk.i16_in _ (by omega)
        have w2' : IntKind.i16.wrap c = c := IntWalk.i16_in _ (by omega)
        have BA := Lib.hid (And.intro ba (And.intro bb bc))
        have l0 : (0 : Int) < (zs.length : Int) := by omega
        have l1 : (1 : Int) < (zs.length : Int) := by omega
        have l2 : (2 : Int) < (zs.length : Int) := by omega
        have NC := Lib.hid (show ¬ cap = 3 by omega)
        have EK := Lib.hid ek
        have H4 := Lib.hid (show 3 < ws.length by omega)
        clear ez ht AB ba bb bc hgc h4
        go_wp2
        clear g4 g5 ek
        go_region
        all_goals
          have px := PB.new wr a b c
          have bw : Below wr.heap.size wr (wr.alloc (.cells #[.int .i16 a, .int .i16 b, .int .i16 c] 64)).drew := ((Below.refl _ _).alloc (Nat.le_refl _) _).drew
          replace px : PB (wr.alloc (.cells #[.int .i16 a, .int .i16 b, .int .i16 c] 64)).drew wr.heap.size a b c := px
          generalize (wr.alloc (.cells #[.int .i16 a, .int .i16 b, .int .i16 c] 64)).drew = W2 at px bw ⊢
          have PX := Lib.hid px
          have BW := Lib.hid bw
          have nm : ws.length = m + 3 := by rw [← EK.out]; exact hm
          have nc : ¬ cap = 3 := NC.out
          have K2 := Lib.hid (show IntsAt .i64 W2 ga 3 t from fun i hi => (bw.cell (p := ⟨ga, 3 + i, none⟩) hga).trans ((HC.out (3 + i) (by rw [EZ.out]; simp only [List.length_cons]; omega)).trans (by rw [EZ.out, show 3 + i = i + 1 + 1 + 1 by omega]; simp [hi])))
          have g2 : ga < W2.heap.size := Nat.lt_of_lt_of_le hga bw.size
          have ST := Lib.hid (show IntsOf .i64 W2 (.slice (some ⟨ga, 3, none⟩) m (cap - 3)) t from ⟨_, _, by rw [HT.out], fun _ => ⟨ga, 3, rfl, g2, K2.out⟩⟩)
          have LO := Lib.hid (fun W (hb : Below W2.heap.size W2 W) => l04Ok_any ⟨a, b, c⟩ ⟨by show -32768 ≤ a ∧ a ≤ 32767; have := BA.out; omega, by show -32768 ≤ b ∧ b ≤ 32767; have := BA.out; omega, by show -32768 ≤ c ∧ c ≤ 32767; have := BA.out; omega⟩ (.slice (some ⟨ga, 3, none⟩) m (cap - 3)) t (wf_all (fun z hz => NN.out z (by rw [EZ.out]; simp [hz]))) W (ST.out.below hb) (by rw [HT.out]; unfold maxLen; omega))
          have p0 := belowBy_cell px.lt px.c0
          have p1 := belowBy_cell px.lt px.c1
          have p2 := belowBy_cell px.lt px.c2
          clear i0 i1 i2 px bw
          go_wp2
          refine wp_region_below (by kernel_rfl) (by kernel_rfl) ?_
          iterate 5 (first | go_big_quiet_step ((go_at_call 73; with_reducible exact calls_below (LO.out _ (BelowBy.h _)))) | quiet_step ((go_at_call 73; with_reducible exact calls_below (LO.out _ (BelowBy.h _)))))
          refine wpQuiet_nil ?_
          rintro w3 ⟨⟨_, hq⟩, rfl⟩
          have B3 := Lib.hid (bnext (bnext BX.out BW.out) hq)
          have R3 := Lib.hid ((HR.out.later BW.out).later hq)
          have P3 := Lib.hid (PX.out.later hq)
          have K3 := Lib.hid (show IntsAt .i64 w3 ga 3 t from fun i hi => (hq.cell (p := ⟨ga, 3 + i, none⟩) g2).trans (K2.out i hi))
          have g3 : ga < w3.heap.size := Nat.lt_of_lt_of_le g2 hq.size
          have EL := Lib.hid (show T.data.toList = joinL 32 (([a, b, c] ++ t).map dec) by
            have h := join_split 32 T.data.toList
            rw [EW.out, EZ.out] at h
            exact h.symm)
          clear p0 p1 p2 hq
          cases hk : hsB ⟨a, b, c⟩ t
          · have NO := Lib.hid (rh_no (htP_other EL.out (fun z hz => by have := NN.out z (by rw [EZ.out]; exact hz); omega) hk))
            clear hk
            have RX := R3.out
            have a0 := RX.c0; have a1 := RX.c1; have a2 := RX.c2
            have fz := RX.fz
            have zr2 := RX.lt
            have RS := ((RX.set0 0).set1 0).set2 0
            have BY := Lib.hid (((B3.out.setCell (p := ⟨w.heap.size, 0, none⟩) (Nat.le_refl _) (.int .i16 0)).setCell (p := ⟨w.heap.size, 1, none⟩) (Nat.le_refl _) (.int .i16 0)).setCell (p := ⟨w.heap.size, 2, none⟩) (Nat.le_refl _) (.int .i16 0))
            have RL := RS.later ((Below.refl _ _).alloc (Nat.le_refl _) (.cells #[] 2))
            have QQ := Lib.hid RL
            clear RX RS RL
            go_wp2
            have q0 := QQ.out.c0; have q1 := QQ.out.c1; have q2 := QQ.out.c2
            refine bodyPost_ret (v := .tuple #[.agg #[.int .i16 0, .int .i16 0, .int .i16 0], .slice (some ⟨w3.heap.size, 0, none⟩) 0 0, .int .i64 5]) (by simp [results, Tryd.results43, go_sem, q0, q1, q2]) rfl ⟨_, by rw [NO.out.1, NO.out.2.2]; rfl, by rw [NO.out.2.1]; exact ⟨_, 0, rfl, fun h => absurd h (by simp)⟩, ?_⟩
            exact BY.out.alloc BY.out.size _
          · have YE := Lib.hid (rh_yes (L := T.data.toList) (p := ⟨a, b, c⟩) ⟨hk, EL.out⟩)
            have c0 := P3.out.c0
            have c1 := P3.out.c1
            have c2 := P3.out.c2
            have a0 := R3.out.c0; have a1 := R3.out.c1; have a2 := R3.out.c2
            have fz := R3.out.fz
            clear hk
            go_wp2
            go_region
            all_goals
              have PR := (((R3.out.set0 a).set1 b).set2 c)
              have q0 := PR.c0
              have q1 := PR.c1
              have q2 := PR.c2
              have G4 := (((Gr.refl w.heap.size w3).set 0 (.int .i16 a)).set 1 (.int .i16 b)).set 2 (.int .i16 c)
              have B4 := ((B3.out.setCell (p := ⟨w.heap.size, 0, none⟩) (Nat.le_refl _) (.int .i16 a)).setCell (p := ⟨w.heap.size, 1, none⟩) (Nat.le_refl _) (.int .i16 b)).setCell (p := ⟨w.heap.size, 2, none⟩) (Nat.le_refl _) (.int .i16 c)
              clear PR
              generalize ((w3.setCell ⟨w.heap.size, 0, none⟩ (.int .i16 a)).setCell ⟨w.heap.size, 1, none⟩ (.int .i16 b)).setCell ⟨w.heap.size, 2, none⟩ (.int .i16 c) = W4 at q0 q1 q2 G4 B4 ⊢
              have X4 := Lib.hid (And.intro G4 B4)
              clear G4 B4
              have q0 : W4.drew.cell? ⟨w.heap.size, 0, none⟩ = some (.int .i16 a) := q0
              have q1 : W4.drew.cell? ⟨w.heap.size, 1, none⟩ = some (.int .i16 b) := q1
              have q2 : W4.drew.cell? ⟨w.heap.size, 2, none⟩ = some (.int .i16 c) := q2
              go_wp2
              refine bodyPost_ret (v := .tuple #[.agg #[.int .i16 a, .int .i16 b, .int .i16 c], .slice (some ⟨ga, 3, none⟩) m (cap - 3), .int .i64 0]) (by simp [results, Tryd.results43, go_sem, q0, q1, q2]) rfl ⟨_, by rw [YE.out.1, YE.out.2.2], ?_, X4.out.2.drew⟩
              rw [YE.out.2.1]
              have hne : ga ≠ w.heap.size := by omega
              exact ⟨_, _, by rw [HT.out], fun _ => ⟨ga, 3, rfl, Nat.lt_of_lt_of_le g3 X4.out.1.size, fun i hi => (World.cell?_of_block (X4.out.1.block ga g3 (fun e => hne (by injection e)))).trans (K3.out i hi)⟩⟩
end Go.Proofs.YtkcoakhfckipdaaDoor
