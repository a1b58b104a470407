/- ReadActs, by the model: a contract. Condition: a text no longer than told. -/
import Derived.Test.YtkojnepgeegalaaDoorRdU1
namespace Go.Proofs.YtkojnepgeegalaaDoor
set_option linter.unusedSimpArgs false
set_option linter.unusedVariables false
set_option maxRecDepth 100000
open Go.RowKit

theorem acs_line {L : List UInt8} {ws : List (List UInt8)} {m k : Nat} (hW : ws = splitL 10 L) (hm : ws.length = m + 1) (hk : k < m) {X : List UInt8} (hX : ws[k]'(by omega) = X) {bs : List Ax} (h : AcsP L bs) : ∃ b, AcP X b := by
  have e := hW.trans h.split
  have hl : bs.length = m := by have := congrArg List.length e; rw [List.length_append, List.length_map, List.length_singleton] at this; omega
  refine ⟨bs[k]'(by omega), h.ok _ (List.getElem_mem _), ?_⟩
  rw [← hX]
  simp only [e]
  rw [List.getElem_append_left (by rw [List.length_map]; omega), List.getElem_map]
theorem acs_last {L : List UInt8} {ws : List (List UInt8)} {m : Nat} (hW : ws = splitL 10 L) (hm : ws.length = m + 1) {bs : List Ax} (h : AcsP L bs) : bs.length = m ∧ ws[m]'(by omega) = [] := by
  have e := hW.trans h.split
  have hl : bs.length = m := by have := congrArg List.length e; rw [List.length_append, List.length_map, List.length_singleton] at this; omega
  refine ⟨hl, ?_⟩
  simp only [e]
  rw [List.getElem_append_right (by rw [List.length_map]; omega)]
  simp [hl]
theorem strOf_emptyA {X : List UInt8} : (strOf X).toList.isEmpty = X.isEmpty := by rw [strOf_toL]
theorem ax_own1 {base : Nat} (w : World) (h : base ≤ w.heap.size) : (w.alloc (.cells #[] 42)).ownsRow base 42 3 (.slice (some ⟨w.heap.size, 0, none⟩) 0 0) ([] : List Ax).length (axC []) := ⟨rfl, .inr ⟨w.heap.size, 0, #[], rfl, h, heap_alloc_new w _, Nat.le_refl _, Nat.zero_le _, rfl, rfl⟩⟩
set_option maxHeartbeats 8000000 in
theorem specReadActs_any (T : ByteArray) (hT : T.size ≤ 1048576) (w : World) :
    Calls Tryd.prog 26 #[.string T] w fun e w' => ∃ u, e = .returned (.tuple #[u, .int .i64 (rtC T.data.toList)]) ∧ w'.ownsRow w.heap.size 42 3 u (rtX T.data.toList).length (axC (rtX T.data.toList)) ∧ Below w.heap.size w w' := by
  obtain ⟨i0, hi0, hz0, hz1, hz2⟩ := info_parts infoAct
  have SPL := Lib.hid (l01Split_any T hT 10 w)
  go_enter Tryd.func26, Tryd.ntmps26
  go_wp2_with fail
  refine SPL.out.mono ?_
  rintro e w1 ⟨u, rfl, ho1, h1⟩
  obtain ⟨ws, ews⟩ : ∃ ws, ws = splitL 10 T.data.toList := ⟨_, rfl⟩
  rw [← ews] at ho1
  have WS := Lib.hid ews
  have B1 := Lib.hid h1
  have hlen : ws.length ≤ 1048577 := by rw [ews]; exact Nat.le_trans (splitL_len 10 _) (by rw [Array.length_toList]; exact Nat.succ_le_succ hT)
  have HWL := Lib.hid (show ∀ v ∈ ws, v.length ≤ 1048576 from fun v hv => by rw [ews] at hv; exact Nat.le_trans (split_word_len 10 _ v hv) (by rw [Array.length_toList]; exact hT))
  have z1 := h1.size
  obtain ⟨m, hm⟩ : ∃ m, ws.length = m + 1 := ⟨ws.length - 1, by
    have : ws ≠ [] := by rw [ews]; exact splitL_ne _ _
    have : ws.length ≠ 0 := fun e => this (List.eq_nil_of_length_eq_zero e)
    omega⟩
  obtain ⟨As, cs, es, hsa⟩ := ownStrs ho1 rfl
  subst es
  obtain ⟨ga, oa, rfl, hga, hat⟩ := hsa (by omega)
  have HAT := Lib.hid hat
  have pm := hat m (by omega)
  unfold strV at pm
  have hmn : (m : Int) < (ws.length : Int) := by omega
  have hmn2 : m < ws.length := by omega
  have hm0 : (0 : Int) ≤ (m : Int) := by omega
  have hw1 : IntKind.i64.wrap ((ws.length : Int) - 1) = (m : Int) := by rw [show (ws.length : Int) - 1 = (m : Int) by omega]; exact IntWalk.i64_in _ (by omega)
  have hw2 : (ws.length : Int) - 1 = (m : Int) := by omega
  have HM := Lib.hid hm
  have HL := Lib.hid (fun (bs : List Ax) (h : AcsP T.data.toList bs) => acs_last WS.out HM.out h)
  obtain ⟨n, hn⟩ : ∃ n, ws.length = n := ⟨_, rfl⟩
  obtain ⟨X, hX⟩ : ∃ X, ws[m]'(by omega) = X := ⟨_, rfl⟩
  rw [hX] at pm
  have HX := Lib.hid hX
  rw [hn] at hmn hmn2 hw1 hw2 hlen ⊢
  have HN := Lib.hid hn
  have PM := Lib.hid pm
  clear ho1 h1 ews hsa hat hm hX hn pm
  have B2 := Lib.hid (show Below w.heap.size w (w1.alloc (.cells #[] 42)) from B1.out.alloc z1 _)
  have b12 := Lib.hid (show Below w1.heap.size w1 (w1.alloc (.cells #[] 42)) from (Below.refl _ _).alloc (Nat.le_refl _) _)
  have O2 := Lib.hid (ax_own1 (base := w1.heap.size) w1 (Nat.le_refl _))
  go_upto_region 4 with (fail)
  generalize World.alloc _ _ = w2 at B2 b12 O2 ⊢
  have pm := (b12.out.cell (p := ⟨ga, oa + m, none⟩) hga).trans PM.out
  clear hw1 hw2
  by_cases hx : X = []
  case neg =>
    have ne1 : (strOf X).toList.isEmpty = false := by
      rw [strOf_emptyA]
      cases X with
      | nil => exact absurd rfl hx
      | cons a l => rfl
    have ne2 : ((strOf X).toList = []) = False := by rw [strOf_toL]; exact eq_false hx
    have NO := Lib.hid (rt_no (L := T.data.toList) (fun bs e => hx (HX.out.symm.trans (HL.out bs e).2)))
    clear hx
    go_wp2
    go_ret2
    exact ⟨_, by rw [NO.out.2]; rfl, by rw [NO.out.1]; exact ⟨rfl, .inr ⟨w2.heap.size, 0, _, rfl, B2.out.size, heap_alloc_new w2 _, Nat.le_refl _, by decide, rfl, rfl⟩⟩, B2.out.alloc B2.out.size _⟩
  have ne1 : (strOf X).toList.isEmpty = true := by rw [strOf_emptyA, hx]; rfl
  have ne2 : (strOf X).toList = [] := by rw [strOf_toL]; exact hx
  have HX0 := Lib.hid (show ws[m]'(by have := HN.out; omega) = [] from HX.out.trans hx)
  clear hx
  by_cases h60 : 200 < m
  · have g1 : decide (200 < m) = true := decide_eq_true h60
    have g2 : decide ((200 : Int) < (m : Int)) = true := decide_eq_true (by omega)
    have NO := Lib.hid (rt_no (L := T.data.toList) (fun bs e => by
      have := (HL.out bs e).1
      have := e.len
      omega))
    clear h60
    go_wp2
    go_ret2
    exact ⟨_, by rw [NO.out.2]; rfl, by rw [NO.out.1]; exact ⟨rfl, .inr ⟨w2.heap.size, 0, _, rfl, B2.out.size, heap_alloc_new w2 _, Nat.le_refl _, by decide, rfl, rfl⟩⟩, B2.out.alloc B2.out.size _⟩
  have g1 : decide (200 < m) = false := decide_eq_false h60
  have g2 : decide ((200 : Int) < (m : Int)) = false := decide_eq_false (by omega)
  have h60b : m ≤ 200 := by omega
  clear h60
  go_wp2
  clear g1 g2 ne1 ne2 pm
  go_loopw [6, 7] (fun o i wr => ∃ (bs : List Ax), bs.length ≤ m ∧ i = .int .i64 (bs.length : Int) ∧ ws.take bs.length = bs.map acT ∧ (∀ b ∈ bs, AcOk b) ∧ wr.ownsRow w1.heap.size 42 3 o bs.length (axC bs) ∧ Below w1.heap.size w1 wr) (fun _ i _ => m - (intOf i).toNat)
  case atStart => exact ⟨[], Nat.zero_le _, rfl, rfl, fun _ h => (by simp at h), O2.out, b12.out⟩
  case round =>
    obtain ⟨bs, hk, rfl, htk, hnn, ho, hb⟩ := hrel
    have TK := Lib.hid htk
    have NN := Lib.hid hnn
    have OW := Lib.hid ho
    have HB := Lib.hid hb
    have zb := hb.size
    clear htk hnn ho hb
    by_cases hlt : bs.length < m
    · have hltw : bs.length < ws.length := by have := HN.out; omega
      have p0 := (HB.out.cell (p := ⟨ga, oa + bs.length, none⟩) hga).trans (HAT.out bs.length hltw)
      unfold strV at p0
      have hin : (bs.length : Int) < (n : Int) := by omega
      have HXL := Lib.hid (HWL.out _ (List.getElem_mem hltw))
      have MW := Lib.hid (fun (X : List UInt8) (hX : ws[bs.length] = X) (bs' : List Ax) (h : AcsP T.data.toList bs') => acs_line WS.out HM.out hlt hX h)
      have TK2 := Lib.hid (show ∀ b, ws[bs.length] = acT b → ws.take (bs ++ [b]).length = (bs ++ [b]).map acT from fun b hm => by
        rw [List.length_append, List.length_singleton, List.take_add_one, List.getElem?_eq_getElem hltw, hm, TK.out, List.map_append]
        rfl)
      generalize ws[bs.length] = X at p0 HXL MW TK2
      have SP := Lib.hid (l06Read_any (strOf X) (by rw [strOf_size]; exact HXL.out) wr)
      rw [show (strOf X).data.toList = X by simp [strOf]] at SP
      go_wp2_with fail
      refine SP.out.mono ?_
      rintro e w3 ⟨x, ok, rfl, hm, h3⟩
      obtain ⟨a, b, c⟩ := x
      have HMs := Lib.hid hm
      have z3 := h3.size
      have a3 := (Below.refl w3.heap.size w3).alloc (Nat.le_refl _) (.cells #[.int .i8 (a : Int), .int .i8 (b : Int), .int .i8 (c : Int)] 42)
      have b3 := bnext HB.out (bnext h3 a3)
      have B3 := Lib.hid b3
      have BW := Lib.hid (B1.out.trans (b3.mono z1))
      have O3 := Lib.hid (ownBelow OW.out (bnext h3 a3))
      have X3 := Lib.hid (show AB (w3.alloc (.cells #[.int .i8 (a : Int), .int .i8 (b : Int), .int .i8 (c : Int)] 42)) w3.heap.size (a : Int) (b : Int) (c : Int) from heap_alloc_new w3 _)
      have z3b := b3.size
      clear h3 a3 b3 p0 hm SP
      go_upto_region 10 with (fail)
      generalize World.alloc _ _ = W3 at B3 BW O3 X3 z3b ⊢
      rcases HMs.out with ⟨rfl, hb2⟩ | ⟨rfl, hno⟩
      case inr =>
        have NO := Lib.hid (rt_no (L := T.data.toList) (fun bs' e => by
          obtain ⟨b, h⟩ := MW.out X rfl bs' e
          exact hno b h))
        clear hno
        go_wp2
        go_ret2
        exact ⟨_, by rw [NO.out.2]; rfl, by rw [NO.out.1]; exact ⟨rfl, .inr ⟨W3.heap.size, 0, _, rfl, BW.out.size, heap_alloc_new W3 _, Nat.le_refl _, by decide, rfl, rfl⟩⟩, BW.out.alloc BW.out.size _⟩
      have HB2 := Lib.hid hb2
      clear hb2
      have c0 := X3.out.c0
      have c1 := X3.out.c1
      have c2 := X3.out.c2
      have OX := Lib.hid (show (W3.alloc (.cells #[.int .i8 (a : Int), .int .i8 (b : Int), .int .i8 (c : Int)] 42)).ownsRow w1.heap.size 42 3 u6 bs.length (axC bs) from O3.out.alloc _)
      have BX := Lib.hid (B3.out.alloc z3b (.cells #[.int .i8 (a : Int), .int .i8 (b : Int), .int .i8 (c : Int)] 42))
      go_wp2_with (at_builtin; refine wpList_append_own _ rfl (.tmp 42) (.tmp 44) _ rfl w1.heap.size 42 i0 (.agg #[.int .i8 0, .int .i8 0, .int .i8 0]) 3 3 Tryd.underlying46 hi0 hz0 hz1 hz2 rfl (by decide) _ _ _ rfl OX.out ⟨W3.heap.size, 0, none⟩ 1 1 [.int .i8 (a : Int), .int .i8 (b : Int), .int .i8 (c : Int)] rfl rfl (cell3_new _ _ _ _ _) (one3 _ _ _) (by unfold maxLen; omega) (by omega) (by simp; omega) ?_)
      intro v4 w4 hown4 hgrow4 _
      have O4 := Lib.hid (show w4.ownsRow w1.heap.size 42 3 v4 (bs ++ [(a, b, c)]).length (axC (bs ++ [(a, b, c)])) by rw [List.length_append, List.length_singleton, axC_snoc]; exact hown4)
      have B4 := Lib.hid (BX.out.grown hgrow4 BX.out.size (fun k hk => (OX.out.lt k hk).1))
      have TK3 := Lib.hid (TK2.out (a, b, c) HB2.out.eq)
      have NN2 := Lib.hid (show ∀ x ∈ bs ++ [(a, b, c)], AcOk x from fun x hx => by
        rcases List.mem_append.1 hx with h | h
        · exact NN.out x h
        · rw [List.mem_singleton] at h; rw [h]; exact HB2.out.ok)
      clear hown4 hgrow4 c0 c1 c2
      go_wp2
      exact ⟨⟨bs ++ [(a, b, c)], by rw [List.length_append, List.length_singleton]; omega, by rw [List.length_append, List.length_singleton]; simp, TK3.out, NN2.out, O4.out, B4.out⟩, by simp only [intOf]; omega⟩
    · have ek : bs.length = m := by omega
      have EW := Lib.hid (show ws = bs.map acT ++ [[]] by
        have h1 := List.take_append_drop m ws
        have h2 : ws.drop m = [[]] := by
          rw [List.drop_eq_getElem_cons (by have := HN.out; omega), HX0.out, List.drop_eq_nil_of_le (by have := HM.out; omega)]
        rw [← h1, h2, ← ek, TK.out])
      have YE := Lib.hid (rt_yes (L := T.data.toList) (acs_of_split NN.out (by omega) (by rw [← WS.out]; exact EW.out)))
      have gl : decide (bs.length < m) = false := decide_eq_false hlt
      clear ek hlt
      go_wp2
      go_ret2
      exact ⟨_, by rw [YE.out.2]; rfl, by rw [YE.out.1]; exact ownMono OW.out z1, B1.out.trans (HB.out.mono z1)⟩
end Go.Proofs.YtkojnepgeegalaaDoor
