/- ReadMoves, by the model: a contract. Condition: a text no longer than told. -/
import Derived.Test.YtkojnepgeegalaaDoorRdV1
namespace Go.Proofs.YtkojnepgeegalaaDoor
set_option linter.unusedSimpArgs false
set_option linter.unusedVariables false
set_option maxRecDepth 100000
open Go.RowKit

theorem own_apart {w : World} {B B' n n' s s' : Nat} {t t' : TypeId} (hne : t ≠ t') {v v' : Value} {xs xs' : List Value} (h : w.ownsRow B t s v n xs) (h' : w.ownsRow B' t' s' v' n' xs') : ∀ k, v.ownBlock = some k → v'.ownBlock ≠ some k := by
  intro k hk hk'
  rcases h.2 with ⟨rfl, _⟩ | ⟨g, cap, cur, rfl, _, hg, _⟩
  · cases hk
  · rcases h'.2 with ⟨rfl, _⟩ | ⟨g', cap', cur', rfl, _, hg', _⟩
    · cases hk'
    · injection hk with e
      injection hk' with e'
      subst e
      subst e'
      rw [hg] at hg'
      injection hg' with e
      injection e with _ e2 _
      exact hne e2
theorem tyMvStr : (83 : TypeId) ≠ 9 := by decide
theorem mv_word {L : List UInt8} {ws : List (List UInt8)} {k : Nat} (hL : L ≠ []) (hW : ws = splitL 32 L) (hk : k < ws.length) {X : List UInt8} (hX : ws[k] = X) {ms : List (Nat × Nat)} (h : MvP L ms) : ∃ m, MvOk m ∧ X = mvN m := by
  have e := hW.trans (h.split hL)
  have hl : k < ms.length := by have := congrArg List.length e; rw [List.length_map] at this; omega
  refine ⟨ms[k], h.ok _ (List.getElem_mem hl), ?_⟩
  rw [← hX]
  simp only [e, List.getElem_map]
theorem num_fail2 {p : List UInt8} {n : Int} {ok : Bool} (h : NumS p n ok) (hf : ok = false ∨ 99 < n) : ∀ z : Int, 0 ≤ z → z ≤ 99 → p ≠ dec z := fun z h0 h1 e => by
  rcases h with ⟨k1, k2, k3, _⟩ | ⟨_, _, k3⟩
  · rcases hf with k | k
    · rw [k1] at k; cases k
    · have := dec_inj k2 h0 (k3.symm.trans e)
      omega
  · have := k3 z h0 e
    rw [e] at this
    have := dec_short (z := z) (by omega)
    omega
set_option maxHeartbeats 8000000 in
theorem specReadMoves_any (T : ByteArray) (hT : T.size ≤ 1048576) (w : World) :
    Calls Tryd.prog 18 #[.string T] w fun e w' => ∃ u, e = .returned (.tuple #[u, .int .i64 (rmC T.data.toList)]) ∧ w'.ownsRow w.heap.size 83 2 u (rmZ T.data.toList).length (mvC (rmZ T.data.toList)) ∧ Below w.heap.size w w' := by
  obtain ⟨i0, hi0, hz0, hz1, hz2⟩ := info_parts infoMv
  have B0 := Lib.hid (show Below w.heap.size w (w.alloc (.cells #[] 83)) from (Below.refl _ _).alloc (Nat.le_refl _) _)
  have O0 := Lib.hid (show (w.alloc (.cells #[] 83)).ownsRow w.heap.size 83 2 (.slice (some ⟨w.heap.size, 0, none⟩) 0 0) 0 (mvC []) from ⟨rfl, .inr ⟨w.heap.size, 0, _, rfl, Nat.le_refl _, heap_alloc_new w _, Nat.le_refl _, by decide, rfl, rfl⟩⟩)
  by_cases hz : T.size = 0
  · have e : T = ⟨#[]⟩ := by
      apply ByteArray.ext
      exact Array.eq_empty_of_size_eq_zero hz
    subst e
    have YE := Lib.hid (rm_yes (L := (⟨#[]⟩ : ByteArray).data.toList) (ms := []) ⟨fun _ h => by simp at h, by simp, rfl⟩)
    go_enter Tryd.func18, Tryd.ntmps18
    go_wp2
    go_ret2
    exact ⟨_, by rw [YE.out.2]; rfl, by rw [YE.out.1]; exact O0.out, B0.out⟩
  have ne3 : T.toList.isEmpty = false := by
    rw [ByteArray.toList_eq]
    cases h : T.data.toList with
    | nil =>
      have := congrArg List.length h
      rw [Array.length_toList] at this
      exact absurd this hz
    | cons a l => rfl
  have LN := Lib.hid (show T.data.toList ≠ [] from fun h => by
    have := congrArg List.length h
    rw [Array.length_toList] at this
    exact hz this)
  clear hz
  go_enter Tryd.func18, Tryd.ntmps18
  go_upto_region 2 with (fail)
  generalize World.alloc _ _ = W0 at B0 O0 ⊢
  have zw : w.heap.size ≤ W0.heap.size := B0.out.size
  go_wp2_with fail
  refine (l01Split_any T hT 32 W0).mono ?_
  rintro e w1 ⟨u, rfl, ho1, h1⟩
  obtain ⟨ws, ews⟩ : ∃ ws, ws = splitL 32 T.data.toList := ⟨_, rfl⟩
  rw [← ews] at ho1
  have WS := Lib.hid ews
  have B1 := Lib.hid (bnext B0.out h1)
  have O1 := Lib.hid (ownBelow O0.out h1)
  have W1 := Lib.hid ho1
  have hlen : ws.length ≤ 1048577 := by rw [ews]; exact Nat.le_trans (splitL_len 32 _) (by rw [Array.length_toList]; exact Nat.succ_le_succ hT)
  have HWL := Lib.hid (show ∀ v ∈ ws, v.length ≤ 1048576 from fun v hv => by rw [ews] at hv; exact Nat.le_trans (split_word_len 32 _ v hv) (by rw [Array.length_toList]; exact hT))
  obtain ⟨As, cs, rfl⟩ := vlen_own2 ho1
  clear ho1 h1 ews ne3
  by_cases h200 : 200 < ws.length
  · have g1 : decide (200 < ws.length) = true := decide_eq_true h200
    have g2 : decide ((200 : Int) < (ws.length : Int)) = true := decide_eq_true (by omega)
    have NO := Lib.hid (rm_no (L := T.data.toList) (fun ms e => by
      have := congrArg List.length (WS.out.trans (e.split LN.out))
      rw [List.length_map] at this
      have := e.len
      omega))
    clear h200
    go_wp2
    go_ret2
    exact ⟨_, by rw [NO.out.2]; rfl, by rw [NO.out.1]; exact ⟨rfl, .inr ⟨w1.heap.size, 0, _, rfl, B1.out.size, heap_alloc_new w1 _, Nat.le_refl _, by decide, rfl, rfl⟩⟩, B1.out.alloc B1.out.size _⟩
  have g1 : decide (200 < ws.length) = false := decide_eq_false h200
  have g2 : decide ((200 : Int) < (ws.length : Int)) = false := decide_eq_false (by omega)
  have H200 := Lib.hid h200
  clear h200
  go_wp2
  clear g1 g2
  go_loopw [4, 6] (fun o i wr => ∃ (ms : List (Nat × Nat)), ms.length ≤ ws.length ∧ i = .int .i64 (ms.length : Int) ∧ ws.take ms.length = ms.map mvN ∧ (∀ m ∈ ms, MvOk m) ∧ wr.ownsRow w.heap.size 83 2 o ms.length (mvC ms) ∧ wr.ownsRow W0.heap.size 9 1 (.slice As ws.length cs) ws.length (ws.map strV) ∧ Below w.heap.size w wr) (fun _ i _ => ws.length - (intOf i).toNat)
  case atStart => exact ⟨[], Nat.zero_le _, rfl, rfl, fun _ h => (by simp at h), O1.out, W1.out, B1.out⟩
  case round =>
    obtain ⟨ms, hk, rfl, htk, hnn, ho, hwo, hb⟩ := hrel
    have TK := Lib.hid htk
    have NN := Lib.hid hnn
    have OW := Lib.hid ho
    have WO := Lib.hid hwo
    have HB := Lib.hid hb
    have zb := hb.size
    clear htk hnn ho hwo hb
    by_cases hlt : ms.length < ws.length
    · obtain ⟨A', c', e', hsa⟩ := ownStrs WO.out rfl
      injection e' with ea _ ec
      subst ea
      obtain ⟨ga, oa, rfl, hga, hat⟩ := hsa (by omega)
      have p0 := hat ms.length hlt
      unfold strV at p0
      have HXL := Lib.hid (HWL.out _ (List.getElem_mem hlt))
      have MW := Lib.hid (fun (X : List UInt8) (hX : ws[ms.length] = X) (ms' : List (Nat × Nat)) (h : MvP T.data.toList ms') => mv_word LN.out WS.out hlt hX h)
      have TK2 := Lib.hid (show ∀ m, ws[ms.length] = mvN m → ws.take (ms ++ [m]).length = (ms ++ [m]).map mvN from fun m hm => by
        rw [List.length_append, List.length_singleton, List.take_add_one, List.getElem?_eq_getElem hlt, hm, TK.out, List.map_append]
        rfl)
      clear ec hat hsa
      generalize ws[ms.length] = X at p0 HXL MW TK2
      have SP := Lib.hid (l01Split_any (strOf X) (by rw [strOf_size]; exact HXL.out) 62 wr)
      rw [show (strOf X).data.toList = X by simp [strOf]] at SP
      go_wp2_with fail
      refine SP.out.mono ?_
      rintro e w2 ⟨u2, rfl, ho2, h2⟩
      obtain ⟨vs, evs⟩ : ∃ vs, vs = splitL 62 X := ⟨_, rfl⟩
      rw [← evs] at ho2
      have VS := Lib.hid evs
      have B2 := Lib.hid (bnext HB.out h2)
      have O2 := Lib.hid (ownBelow OW.out h2)
      have W2 := Lib.hid (ownBelow WO.out h2)
      have HVL := Lib.hid (show ∀ v ∈ vs, v.length ≤ 1048576 from fun v hv => by rw [evs] at hv; exact Nat.le_trans (split_word_len 62 _ v hv) HXL.out)
      obtain ⟨Av, cv, es, hsv⟩ := ownStrs ho2 rfl
      subst es
      have HSV := Lib.hid hsv
      have z2 := h2.size
      clear ho2 h2 evs hsv p0
      by_cases h2 : vs.length = 2
      case neg =>
        have b2 : ((vs.length : Int) != 2) = true := by simp; omega
        have NO := Lib.hid (rm_no (L := T.data.toList) (fun ms' e => by
          obtain ⟨m, _, hm⟩ := MW.out X rfl ms' e
          apply h2
          rw [VS.out, hm, mvN_split]
          rfl))
        clear h2
        go_wp2
        go_ret2
        exact ⟨_, by rw [NO.out.2]; rfl, by rw [NO.out.1]; exact ⟨rfl, .inr ⟨w2.heap.size, 0, _, rfl, B2.out.size, heap_alloc_new w2 _, Nat.le_refl _, by decide, rfl, rfl⟩⟩, B2.out.alloc B2.out.size _⟩
      obtain ⟨v0, v1, ev⟩ : ∃ v0 v1, vs = [v0, v1] := by
        match vs, h2 with
        | [v0, v1], _ => exact ⟨v0, v1, rfl⟩
      obtain ⟨gv, ov, eA, hgv, hat⟩ := HSV.out (by omega)
      subst eA
      have V0 := Lib.hid (hat 0 (by omega))
      have V1 := Lib.hid (hat 1 (by omega))
      simp only [ev, List.getElem_cons_zero, List.getElem_cons_succ, strV, Nat.add_zero] at V0 V1
      rw [h2]
      have L0 := Lib.hid (HVL.out v0 (by rw [ev]; simp))
      have L1 := Lib.hid (HVL.out v1 (by rw [ev]; simp))
      have JX := Lib.hid (show X = v0 ++ 62 :: v1 from by
        have := join_split 62 X
        rw [← VS.out, ev] at this
        exact this.symm)
      have WV := Lib.hid (fun (ms' : List (Nat × Nat)) (e : MvP T.data.toList ms') => (show ∃ m, MvOk m ∧ v0 = dec (m.1 : Int) ∧ v1 = dec (m.2 : Int) from by
        obtain ⟨m, hm, hx⟩ := MW.out X rfl ms' e
        have h := VS.out
        rw [ev, hx, mvN_split] at h
        simp only [List.cons.injEq, and_true] at h
        exact ⟨m, hm, h.1, h.2⟩))
      have c0 := V0.out
      have c1 := V1.out
      clear hat h2 ev
      go_wp2_with fail
      refine (l01Number_any (strOf v0) (by rw [strOf_size]; exact L0.out) w2).mono ?_
      rintro e w' ⟨n0, k0, rfl, hn, rfl⟩
      have N0 := Lib.hid (show NumS v0 n0 k0 by have h := hn; rwa [show (strOf v0).data.toList = v0 by simp [strOf]] at h)
      clear hn
      go_wp2_with fail
      refine (l01Number_any (strOf v1) (by rw [strOf_size]; exact L1.out) w2).mono ?_
      rintro e w' ⟨n1, k1, rfl, hn, rfl⟩
      have N1 := Lib.hid (show NumS v1 n1 k1 by have h := hn; rwa [show (strOf v1).data.toList = v1 by simp [strOf]] at h)
      clear hn c0 c1
      cases k0
      · have NO := Lib.hid (rm_no (L := T.data.toList) (fun ms' e => by
          obtain ⟨m, hm, h1, h2⟩ := WV.out ms' e
          exact num_fail2 N0.out (.inl rfl) m.1 (by omega) (by have := hm.1; omega) h1))
        go_wp2
        go_ret2
        exact ⟨_, by rw [NO.out.2]; rfl, by rw [NO.out.1]; exact ⟨rfl, .inr ⟨w2.heap.size, 0, _, rfl, B2.out.size, heap_alloc_new w2 _, Nat.le_refl _, by decide, rfl, rfl⟩⟩, B2.out.alloc B2.out.size _⟩
      cases k1
      · have NO := Lib.hid (rm_no (L := T.data.toList) (fun ms' e => by
          obtain ⟨m, hm, h1, h2⟩ := WV.out ms' e
          exact num_fail2 N1.out (.inl rfl) m.2 (by omega) (by have := hm.2; omega) h2))
        go_wp2
        go_ret2
        exact ⟨_, by rw [NO.out.2]; rfl, by rw [NO.out.1]; exact ⟨rfl, .inr ⟨w2.heap.size, 0, _, rfl, B2.out.size, heap_alloc_new w2 _, Nat.le_refl _, by decide, rfl, rfl⟩⟩, B2.out.alloc B2.out.size _⟩
      by_cases ha : 99 < n0
      · have ga1 : decide (99 < n0) = true := decide_eq_true ha
        have NO := Lib.hid (rm_no (L := T.data.toList) (fun ms' e => by
          obtain ⟨m, hm, h1, h2⟩ := WV.out ms' e
          exact num_fail2 N0.out (.inr ha) m.1 (by omega) (by have := hm.1; omega) h1))
        clear ha
        go_wp2
        go_ret2
        exact ⟨_, by rw [NO.out.2]; rfl, by rw [NO.out.1]; exact ⟨rfl, .inr ⟨w2.heap.size, 0, _, rfl, B2.out.size, heap_alloc_new w2 _, Nat.le_refl _, by decide, rfl, rfl⟩⟩, B2.out.alloc B2.out.size _⟩
      by_cases hb : 99 < n1
      · have ga1 : decide (99 < n0) = false := decide_eq_false ha
        have gb1 : decide (99 < n1) = true := decide_eq_true hb
        have NO := Lib.hid (rm_no (L := T.data.toList) (fun ms' e => by
          obtain ⟨m, hm, h1, h2⟩ := WV.out ms' e
          exact num_fail2 N1.out (.inr hb) m.2 (by omega) (by have := hm.2; omega) h2))
        clear ha hb
        go_wp2
        go_ret2
        exact ⟨_, by rw [NO.out.2]; rfl, by rw [NO.out.1]; exact ⟨rfl, .inr ⟨w2.heap.size, 0, _, rfl, B2.out.size, heap_alloc_new w2 _, Nat.le_refl _, by decide, rfl, rfl⟩⟩, B2.out.alloc B2.out.size _⟩
      have hda : 0 ≤ n0 ∧ v0 = dec n0 := by
        rcases N0.out with ⟨_, h1, h2, _⟩ | ⟨h, _⟩
        · exact ⟨h1, h2⟩
        · cases h
      have hdb : 0 ≤ n1 ∧ v1 = dec n1 := by
        rcases N1.out with ⟨_, h1, h2, _⟩ | ⟨h, _⟩
        · exact ⟨h1, h2⟩
        · cases h
      obtain ⟨a, rfl⟩ : ∃ a : Nat, n0 = (a : Int) := ⟨n0.toNat, by omega⟩
      obtain ⟨b, rfl⟩ : ∃ b : Nat, n1 = (b : Int) := ⟨n1.toNat, by omega⟩
      have MO := Lib.hid (show MvOk (a, b) from ⟨by show a ≤ 99; omega, by show b ≤ 99; omega⟩)
      have TK3 := Lib.hid (TK2.out (a, b) (by rw [JX.out, hda.2, hdb.2]; rfl))
      have ga1 : decide (99 < (a : Int)) = false := decide_eq_false ha
      have gb1 : decide (99 < (b : Int)) = false := decide_eq_false hb
      have ga2 : decide (99 < a) = false := decide_eq_false (by omega)
      have gb2 : decide (99 < b) = false := decide_eq_false (by omega)
      have hw1 : IntKind.i16.wrap (a : Int) = (a : Int) := IntWalk.i16_in _ (by omega)
      have hw2 : IntKind.i16.wrap (b : Int) = (b : Int) := IntWalk.i16_in _ (by omega)
      have OX := Lib.hid (show (w2.alloc (.cells #[.int .i16 (a : Int), .int .i16 (b : Int)] 83)).ownsRow w.heap.size 83 2 u4 ms.length (mvC ms) from O2.out.alloc _)
      have WX := Lib.hid (show (w2.alloc (.cells #[.int .i16 (a : Int), .int .i16 (b : Int)] 83)).ownsRow W0.heap.size 9 1 (.slice (some ⟨ga, oa, none⟩) ws.length cs) ws.length (ws.map strV) from W2.out.alloc _)
      have BX := Lib.hid (B2.out.alloc B2.out.size (.cells #[.int .i16 (a : Int), .int .i16 (b : Int)] 83))
      clear ha hb hda hdb
      go_wp2_with (at_builtin; refine wpList_append_own _ rfl (.tmp 66) (.tmp 72) _ rfl w.heap.size 83 i0 (.agg #[.int .i16 0, .int .i16 0]) 2 4 Tryd.underlying35 hi0 hz0 hz1 hz2 rfl (by decide) _ _ _ rfl OX.out ⟨w2.heap.size, 0, none⟩ 1 1 [.int .i16 (a : Int), .int .i16 (b : Int)] rfl rfl ?c1 ?c2 ?c3 ?c4 ?c5 ?_)
      try (case c1 => exact cell2_new _ _ _ _)
      case c2 => first | exact ⟨rfl, rfl⟩ | (intro u hu; simp at hu; rcases hu with rfl | rfl <;> rfl)
      case c3 => (unfold maxLen; omega)
      case c4 => omega
      case c5 => first | omega | (simp; omega)
      intro v3 w3 hown3 hgrow3 _
      have O3 := Lib.hid (show w3.ownsRow w.heap.size 83 2 v3 (ms ++ [(a, b)]).length (mvC (ms ++ [(a, b)])) by
        rw [List.length_append, List.length_singleton, mvC_snoc]
        exact hown3)
      have W3 := Lib.hid (ownOther WX.out hgrow3 (fun k hk e => own_apart tyMvStr OX.out WX.out k e.symm hk))
      have B3 := Lib.hid (BX.out.grown hgrow3 BX.out.size (fun k hk => (OX.out.lt k hk).1))
      have NN2 := Lib.hid (show ∀ m ∈ ms ++ [(a, b)], MvOk m from fun m hm => by
        rcases List.mem_append.1 hm with h | h
        · exact NN.out m h
        · rw [List.mem_singleton] at h; rw [h]; exact MO.out)
      clear hown3 hgrow3
      go_wp2
      exact ⟨⟨ms ++ [(a, b)], by rw [List.length_append, List.length_singleton]; omega, by rw [List.length_append, List.length_singleton]; simp, TK3.out, NN2.out, O3.out, W3.out, B3.out⟩, by simp only [intOf]; omega⟩
    · have ek : ms.length = ws.length := by omega
      have EW := Lib.hid (show ws = ms.map mvN by rw [← TK.out, ek, List.take_length])
      have YE := Lib.hid (rm_yes (L := T.data.toList) (ms := ms) ⟨NN.out, by have := H200.out; omega, by rw [← EW.out, WS.out, join_split]⟩)
      clear ek
      go_wp2
      go_ret2
      exact ⟨_, by rw [YE.out.2]; rfl, by rw [YE.out.1]; exact OW.out, HB.out⟩
end Go.Proofs.YtkojnepgeegalaaDoor
