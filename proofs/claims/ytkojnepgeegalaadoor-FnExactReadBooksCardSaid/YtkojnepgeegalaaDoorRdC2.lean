/- ReadBooks, by the model: a contract. Condition: a text no longer than told. -/
import Derived.Test.YtkojnepgeegalaaDoorRdC1
import Derived.Test.YtkojnepgeegalaaDoorRdB3
namespace Go.Proofs.YtkojnepgeegalaaDoor
set_option linter.unusedSimpArgs false
set_option linter.unusedVariables false
set_option maxRecDepth 100000
open Go.RowKit

theorem specRB {X : List UInt8} (hX : X.length ≤ 1048576) {b : Bk} {k : Int} (hB : rbB X = b) (hC : rbC X = k) (w : World) :
    Calls Tryd.prog 10 #[.string (strOf X)] w fun e w' => e = .returned (.tuple #[.agg #[.int .i16 b.c, .int .u8 b.m0, .int .u8 b.m1, .int .u8 b.m2, .int .i16 b.v, .int .i16 b.wi, .int .i16 b.hi, .int .i16 b.we], .int .i64 k]) ∧ Below w.heap.size w w' := by
  have h := specReadBook_any (strOf X) (by rw [strOf_size]; exact hX) w
  rw [show (strOf X).data.toList = X by simp [strOf], hB, hC] at h
  exact h
theorem rb_cases (X : List UInt8) : (∃ b, BkP X b ∧ rbB X = b ∧ rbC X = 0) ∨ ((∀ b, ¬ BkP X b) ∧ rbB X = zeroBk ∧ rbC X = 5) := by
  by_cases h : ∃ b, BkP X b
  · obtain ⟨b, h⟩ := h
    exact .inl ⟨b, h, rb_yes h⟩
  · exact .inr ⟨fun b e => h ⟨b, e⟩, rb_no (fun b e => h ⟨b, e⟩)⟩
theorem bks_line {L : List UInt8} {ws : List (List UInt8)} {m k : Nat} (hW : ws = splitL 10 L) (hm : ws.length = m + 1) (hk : k < m) {X : List UInt8} (hX : ws[k]'(by omega) = X) {bs : List Bk} (h : BksP L bs) : ∃ b, BkP X b := by
  have e := hW.trans h.split
  have hl : bs.length = m := by have := congrArg List.length e; rw [List.length_append, List.length_map, List.length_singleton] at this; omega
  refine ⟨bs[k]'(by omega), h.ok _ (List.getElem_mem _), ?_⟩
  rw [← hX]
  simp only [e]
  rw [List.getElem_append_left (by rw [List.length_map]; omega), List.getElem_map]
theorem bks_last {L : List UInt8} {ws : List (List UInt8)} {m : Nat} (hW : ws = splitL 10 L) (hm : ws.length = m + 1) {bs : List Bk} (h : BksP L bs) : bs.length = m ∧ ws[m]'(by omega) = [] := by
  have e := hW.trans h.split
  have hl : bs.length = m := by have := congrArg List.length e; rw [List.length_append, List.length_map, List.length_singleton] at this; omega
  refine ⟨hl, ?_⟩
  simp only [e]
  rw [List.getElem_append_right (by rw [List.length_map]; omega)]
  simp [hl]
theorem strOf_empty {X : List UInt8} : (strOf X).toList.isEmpty = X.isEmpty := by
  rw [ByteArray.toList_eq]
  simp [strOf]
theorem strOf_toL {X : List UInt8} : (strOf X).toList = X := by
  rw [ByteArray.toList_eq]
  simp [strOf]
set_option maxHeartbeats 8000000 in
theorem specReadBooks_any (T : ByteArray) (hT : T.size ≤ 1048576) (w : World) :
    Calls Tryd.prog 13 #[.string T] w fun e w' => ∃ u, e = .returned (.tuple #[u, .int .i64 (rsC T.data.toList)]) ∧ w'.ownsRow w.heap.size 25 8 u (rsB T.data.toList).length (flB (rsB T.data.toList)) ∧ Below w.heap.size w w' := by
  obtain ⟨i0, hi0, hz0, hz1, hz2⟩ := info_parts infoBook
  have SPL := Lib.hid (l01Split_any T hT 10 w)
  go_enter Tryd.func13, Tryd.ntmps13
  go_wp2_with fail
  refine SPL.out.mono ?_
  rintro e w1 ⟨u, rfl, ho1, h1⟩
  obtain ⟨ws, ews⟩ : ∃ ws, ws = splitL 10 T.data.toList := ⟨_, rfl⟩
  rw [← ews] at ho1
  have WS := Lib.hid ews
  have B1 := Lib.hid h1
  have hlen : ws.length ≤ 1048577 := by rw [ews]; exact Nat.le_trans (splitL_len 10 _) (by rw [Array.length_toList]; exact Nat.succ_le_succ hT)
  have HWL := Lib.hid (show ∀ v ∈ ws, v.length ≤ 1048576 from fun v hv => by rw [ews] at hv; exact Nat.le_trans (split_word_len 10 _ v hv) (by rw [Array.length_toList]; exact hT))
  have z1 := h1.size
  obtain ⟨m, hm⟩ : ∃ m, ws.length = m + 1 := ⟨ws.length - 1, by
    have : ws ≠ [] := by rw [ews]; exact splitL_ne _ _
    have : ws.length ≠ 0 := fun e => this (List.eq_nil_of_length_eq_zero e)
    omega⟩
  obtain ⟨As, cs, es, hsa⟩ := ownStrs ho1 rfl
  subst es
  obtain ⟨ga, oa, rfl, hga, hat⟩ := hsa (by omega)
  have HAT := Lib.hid hat
  have pm := hat m (by omega)
  unfold strV at pm
  have hmn : (m : Int) < (ws.length : Int) := by omega
  have hmn2 : m < ws.length := by omega
  have hm0 : (0 : Int) ≤ (m : Int) := by omega
  have hw1 : IntKind.i64.wrap ((ws.length : Int) - 1) = (m : Int) := by rw [show (ws.length : Int) - 1 = (m : Int) by omega]; exact IntWalk.i64_in _ (by omega)
  have hw2 : (ws.length : Int) - 1 = (m : Int) := by omega
  have HM := Lib.hid hm
  have HL := Lib.hid (fun (bs : List Bk) (h : BksP T.data.toList bs) => bks_last WS.out HM.out h)
  obtain ⟨n, hn⟩ : ∃ n, ws.length = n := ⟨_, rfl⟩
  obtain ⟨X, hX⟩ : ∃ X, ws[m]'(by omega) = X := ⟨_, rfl⟩
  rw [hX] at pm
  have HX := Lib.hid hX
  rw [hn] at hmn hmn2 hw1 hw2 hlen ⊢
  have HN := Lib.hid hn
  clear ho1 h1 ews hsa hat hm hX hn
  by_cases hx : X = []
  case neg =>
    have ne1 : (strOf X).toList.isEmpty = false := by
      rw [strOf_empty]
      cases X with
      | nil => exact absurd rfl hx
      | cons a l => rfl
    have ne2 : ((strOf X).toList = []) = False := by rw [strOf_toL]; exact eq_false hx
    have NO := Lib.hid (rs_no (L := T.data.toList) (fun bs e => hx (HX.out.symm.trans (HL.out bs e).2)))
    clear hx
    go_wp2
    go_ret2
    exact ⟨_, by rw [NO.out.2]; rfl, by rw [NO.out.1]; exact ⟨rfl, .inr ⟨w1.heap.size, 0, _, rfl, B1.out.size, heap_alloc_new w1 _, Nat.le_refl _, by decide, rfl, rfl⟩⟩, B1.out.alloc B1.out.size _⟩
  have ne1 : (strOf X).toList.isEmpty = true := by rw [strOf_empty, hx]; rfl
  have ne2 : (strOf X).toList = [] := by rw [strOf_toL]; exact hx
  have HX0 := Lib.hid (show ws[m]'(by have := HN.out; omega) = [] from HX.out.trans hx)
  clear hx
  by_cases h60 : 60 < m
  · have g1 : decide (60 < m) = true := decide_eq_true h60
    have g2 : decide ((60 : Int) < (m : Int)) = true := decide_eq_true (by omega)
    have NO := Lib.hid (rs_no (L := T.data.toList) (fun bs e => by
      have := (HL.out bs e).1
      have := e.len
      omega))
    clear h60
    go_wp2
    go_ret2
    exact ⟨_, by rw [NO.out.2]; rfl, by rw [NO.out.1]; exact ⟨rfl, .inr ⟨w1.heap.size, 0, _, rfl, B1.out.size, heap_alloc_new w1 _, Nat.le_refl _, by decide, rfl, rfl⟩⟩, B1.out.alloc B1.out.size _⟩
  have g1 : decide (60 < m) = false := decide_eq_false h60
  have g2 : decide ((60 : Int) < (m : Int)) = false := decide_eq_false (by omega)
  have h60b : m ≤ 60 := by omega
  have B2 := Lib.hid (show Below w.heap.size w (w1.alloc (.cells #[] 25)) from B1.out.alloc z1 _)
  have b12 := Lib.hid (show Below w1.heap.size w1 (w1.alloc (.cells #[] 25)) from (Below.refl _ _).alloc (Nat.le_refl _) _)
  have O2 := Lib.hid (ResB.own1 w1 w1.heap.size (Nat.le_refl _))
  clear h60
  go_wp2
  generalize World.alloc _ _ = w2 at B2 b12 O2 ⊢
  clear g1 g2 ne1 ne2 pm hw1 hw2
  go_loopw [6, 7] (fun o i wr => ∃ (bs : List Bk), bs.length ≤ m ∧ i = .int .i64 (bs.length : Int) ∧ ws.take bs.length = bs.map bookT ∧ (∀ b ∈ bs, bookB b = true) ∧ wr.ownsRow w1.heap.size 25 8 o bs.length (flB bs) ∧ Below w1.heap.size w1 wr) (fun _ i _ => m - (intOf i).toNat)
  case atStart => exact ⟨[], Nat.zero_le _, rfl, rfl, fun _ h => (by simp at h), O2.out, b12.out⟩
  case round =>
    obtain ⟨bs, hk, rfl, htk, hnn, ho, hb⟩ := hrel
    have TK := Lib.hid htk
    have NN := Lib.hid hnn
    have OW := Lib.hid ho
    have HB := Lib.hid hb
    have zb := hb.size
    clear htk hnn ho hb
    by_cases hlt : bs.length < m
    · have hltw : bs.length < ws.length := by have := HN.out; omega
      have p0 := (HB.out.cell (p := ⟨ga, oa + bs.length, none⟩) hga).trans (HAT.out bs.length hltw)
      unfold strV at p0
      have hin : (bs.length : Int) < (n : Int) := by omega
      have HXL := Lib.hid (HWL.out _ (List.getElem_mem hltw))
      have MW := Lib.hid (fun (X : List UInt8) (hX : ws[bs.length] = X) (bs' : List Bk) (h : BksP T.data.toList bs') => bks_line WS.out HM.out hlt hX h)
      have TK2 := Lib.hid (show ∀ b, ws[bs.length] = bookT b → ws.take (bs ++ [b]).length = (bs ++ [b]).map bookT from fun b hm => by
        rw [List.length_append, List.length_singleton, List.take_add_one, List.getElem?_eq_getElem hltw, hm, TK.out, List.map_append]
        rfl)
      generalize ws[bs.length] = X at p0 HXL MW TK2
      rcases rb_cases X with ⟨b, hb, e1, e2⟩ | ⟨hno, e1, e2⟩
      case inr =>
        have SP := Lib.hid (fun W => specRB HXL.out e1 e2 W)
        have NO := Lib.hid (rs_no (L := T.data.toList) (fun bs' e => by
          obtain ⟨b, h⟩ := MW.out X rfl bs' e
          exact hno b h))
        clear e1 e2 hno
        go_wp2_with fail
        refine (SP.out _).mono ?_
        rintro e w3 ⟨rfl, h3⟩
        have B3 := Lib.hid (((B1.out.trans (HB.out.mono z1)).trans (h3.mono (by omega))).alloc (by have := h3.size; omega) (.cells #[.int .i16 zeroBk.c, .int .u8 zeroBk.m0, .int .u8 zeroBk.m1, .int .u8 zeroBk.m2, .int .i16 zeroBk.v, .int .i16 zeroBk.wi, .int .i16 zeroBk.hi, .int .i16 zeroBk.we] 25))
        clear h3 p0
        go_upto_region 10 with (fail)
        generalize World.alloc _ _ = W3 at B3 ⊢
        go_wp2
        go_ret2
        exact ⟨_, by rw [NO.out.2]; rfl, by rw [NO.out.1]; exact ⟨rfl, .inr ⟨W3.heap.size, 0, _, rfl, B3.out.size, heap_alloc_new W3 _, Nat.le_refl _, by decide, rfl, rfl⟩⟩, B3.out.alloc B3.out.size _⟩
      have SP := Lib.hid (fun W => specRB HXL.out e1 e2 W)
      have HB2 := Lib.hid hb
      clear e1 e2 hb
      go_wp2_with fail
      refine (SP.out _).mono ?_
      rintro e w3 ⟨rfl, h3⟩
      have z3 := h3.size
      have a3 := (Below.refl w3.heap.size w3).alloc (Nat.le_refl _) (.cells #[.int .i16 b.c, .int .u8 b.m0, .int .u8 b.m1, .int .u8 b.m2, .int .i16 b.v, .int .i16 b.wi, .int .i16 b.hi, .int .i16 b.we] 25)
      have b3 := bnext HB.out (bnext h3 a3)
      have B3 := Lib.hid b3
      have O3 := Lib.hid (ownBelow OW.out (bnext h3 a3))
      have X3 := Lib.hid (show BB (w3.alloc (.cells #[.int .i16 b.c, .int .u8 b.m0, .int .u8 b.m1, .int .u8 b.m2, .int .i16 b.v, .int .i16 b.wi, .int .i16 b.hi, .int .i16 b.we] 25)) w3.heap.size b from heap_alloc_new w3 _)
      have z3b := b3.size
      clear h3 a3 b3 p0
      go_upto_region 10 with (fail)
      generalize World.alloc _ _ = W3 at B3 O3 X3 z3b ⊢
      have c0 := X3.out.c0
      have c1 := X3.out.c1
      have c2 := X3.out.c2
      have c3 := X3.out.c3
      have c4 := X3.out.c4
      have c5 := X3.out.c5
      have c6 := X3.out.c6
      have c7 := X3.out.c7
      have OX := Lib.hid (show (W3.alloc (.cells #[.int .i16 b.c, .int .u8 b.m0, .int .u8 b.m1, .int .u8 b.m2, .int .i16 b.v, .int .i16 b.wi, .int .i16 b.hi, .int .i16 b.we] 25)).ownsRow w1.heap.size 25 8 u6 bs.length (flB bs) from O3.out.alloc _)
      have BX := Lib.hid (B3.out.alloc z3b (.cells #[.int .i16 b.c, .int .u8 b.m0, .int .u8 b.m1, .int .u8 b.m2, .int .i16 b.v, .int .i16 b.wi, .int .i16 b.hi, .int .i16 b.we] 25))
      go_wp2_with (at_builtin; refine wpList_append_own _ rfl (.tmp 42) (.tmp 44) _ rfl w1.heap.size 25 i0 (.agg #[.int .i16 0, .int .u8 0, .int .u8 0, .int .u8 0, .int .i16 0, .int .i16 0, .int .i16 0, .int .i16 0]) 8 14 Tryd.underlying30 hi0 hz0 hz1 hz2 rfl (by decide) _ _ _ rfl OX.out ⟨W3.heap.size, 0, none⟩ 1 1 [.int .i16 b.c, .int .u8 b.m0, .int .u8 b.m1, .int .u8 b.m2, .int .i16 b.v, .int .i16 b.wi, .int .i16 b.hi, .int .i16 b.we] rfl rfl (cell8_new _ _ _ _ _ _ _ _ _ _) (one8 b) (by unfold maxLen; omega) (by omega) (by simp; omega) ?_)
      intro v4 w4 hown4 hgrow4 _
      have O4 := Lib.hid (show w4.ownsRow w1.heap.size 25 8 v4 (bs ++ [b]).length (flB (bs ++ [b])) by rw [List.length_append, List.length_singleton, flB_snoc]; exact hown4)
      have B4 := Lib.hid (BX.out.grown hgrow4 BX.out.size (fun k hk => (OX.out.lt k hk).1))
      have TK3 := Lib.hid (TK2.out b HB2.out.eq)
      have NN2 := Lib.hid (show ∀ c ∈ bs ++ [b], bookB c = true from fun c hc => by
        rcases List.mem_append.1 hc with h | h
        · exact NN.out c h
        · rw [List.mem_singleton] at h; rw [h]; exact HB2.out.ok)
      clear hown4 hgrow4 c0 c1 c2 c3 c4 c5 c6 c7
      go_wp2
      exact ⟨⟨bs ++ [b], by rw [List.length_append, List.length_singleton]; omega, by rw [List.length_append, List.length_singleton]; simp, TK3.out, NN2.out, O4.out, B4.out⟩, by simp only [intOf]; omega⟩
    · have ek : bs.length = m := by omega
      have EW := Lib.hid (show ws = bs.map bookT ++ [[]] by
        have h1 := List.take_append_drop m ws
        have h2 : ws.drop m = [[]] := by
          rw [List.drop_eq_getElem_cons (by have := HN.out; omega), HX0.out, List.drop_eq_nil_of_le (by have := HM.out; omega)]
        rw [← h1, h2, ← ek, TK.out])
      have YE := Lib.hid (rs_yes (L := T.data.toList) (bks_of_split NN.out (by omega) (by rw [← WS.out]; exact EW.out)))
      have gl : decide (bs.length < m) = false := decide_eq_false hlt
      clear ek hlt
      go_wp2
      go_ret2
      exact ⟨_, by rw [YE.out.2]; rfl, by rw [YE.out.1]; exact ownMono OW.out z1, B1.out.trans (HB.out.mono z1)⟩
end Go.Proofs.YtkojnepgeegalaaDoor
