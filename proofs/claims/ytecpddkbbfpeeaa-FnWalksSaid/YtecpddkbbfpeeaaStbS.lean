/- A list of books put in an order by the model: a contract. Condition: at most 1048576 books, whose numbers lie within their kinds; the order's fields fit in eight bits. -/
import Derived.Test.YtecpddkbbfpeeaaStbP
import Derived.Test.YtecpddkbbfpeeaaCompare
import Derived.Test.YtecpddkbbfpeeaaRowP
import Derived.Test.YtecpddkbbfpeeaaQuiet
import Derived.Test.YtecpddkbbfpeeaaOwn
import Derived.Test.YtecpddkbbfpeeaaToBookS
import Derived.BigQuiet
namespace Go.Proofs.Ytecpddkbbfpeeaa
set_option linter.unusedSimpArgs false
set_option linter.unusedVariables false
set_option maxRecDepth 100000
open Go.RowKit Stab

theorem insTo_perm {α : Type} [Inhabited α] (lt : α → α → Bool) (xs : List α) : ∀ k, k ≤ xs.length → (insTo lt xs k).Perm (xs.take k)
  | 0, _ => by rw [insTo, List.take_zero]
  | k + 1, h => by
    have hk : k < xs.length := by omega
    rw [insTo, List.take_succ_eq_append_getElem hk, show xs.getD k default = xs[k] by simp [List.getD, List.getElem?_eq_getElem hk]]
    exact (insR_perm _ _ _).trans ((insTo_perm lt xs k (by omega)).append_right _)
theorem flB_len (L : List Bk) : (flB L).length = L.length * 8 := by
  induction L with
  | nil => rfl
  | cons b t ih => show (b.cells ++ flB t).length = _; rw [List.length_append, cells_len, ih, List.length_cons]; omega
theorem own_rowK {w : World} {base n : Nat} {v : Value} {ys : List Bk} (h : w.ownsRow base 42 8 v n (flB ys)) (hn : n = ys.length) (h0 : 0 < n) : ∃ g N, v = .slice (some ⟨g, 0, none⟩) n N ∧ base ≤ g ∧ RowK w g ys n N ∧ n ≤ N ∧ N ≤ maxLen := by
  subst hn
  rcases h.2 with ⟨rfl, h1⟩ | ⟨g, cap, cur, rfl, hb, hg, hc, hm, hs, ht⟩
  · omega
  · refine ⟨g, cap, rfl, hb, ⟨cur, hg, hs, fun i hi _ j v hv => ?_⟩, hc, hm⟩
    have hj : j < 8 := by have := (List.getElem?_eq_some_iff.1 hv).1; rwa [cells_len] at this
    have e := flB_at ys i hi j hj
    rw [← ht, List.getElem?_take, if_pos (by omega), Array.getElem?_toList] at e
    rw [e]
    exact hv
theorem own_of_rowK {w : World} {base g n N : Nat} {ys : List Bk} (h : RowK w g ys n N) (hn : n = ys.length) (hN : n ≤ N) (hM : N ≤ maxLen) (hb : base ≤ g) : w.ownsRow base 42 8 (.slice (some ⟨g, 0, none⟩) n N) n (flB ys) := by
  subst hn
  obtain ⟨cs, h1, h2, h3⟩ := h
  refine ⟨flB_len ys, .inr ⟨g, N, cs, rfl, hb, h1, hN, hM, h2, ?_⟩⟩
  apply List.ext_getElem?
  intro q
  rw [List.getElem?_take]
  by_cases hq : q < ys.length * 8
  · rw [if_pos hq, Array.getElem?_toList]
    have hi : q / 8 < ys.length := by omega
    have hj : q % 8 < 8 := by omega
    have e := flB_at ys (q / 8) hi (q % 8) hj
    rw [show q / 8 * 8 + q % 8 = q by omega] at e
    have hl : q % 8 < ys[q / 8].cells.length := by rw [cells_len]; exact hj
    rw [e, List.getElem?_eq_getElem hl]
    have := h3 (q / 8) hi hi (q % 8) _ (List.getElem?_eq_getElem hl)
    rwa [show q / 8 * 8 + q % 8 = q by omega] at this
  · rw [if_neg hq, List.getElem?_eq_none (by rw [flB_len]; omega)]
theorem vlen_own8 {w : World} {base n : Nat} {v : Value} {l : List Value} (h : w.ownsRow base 42 8 v n l) : ∃ A c, v = .slice A n c := by
  rcases h.2 with ⟨rfl, rfl⟩ | ⟨g, cap, cur, rfl, _⟩
  · exact ⟨_, _, rfl⟩
  · exact ⟨_, _, rfl⟩
theorem rowK_cells {w : World} {g n N : Nat} {ys : List Bk} (h : RowK w g ys n N) (hn : n = ys.length) (i : Nat) (hi : i < n) :
    w.cell? ⟨g, i * 8, none⟩ = some (.int .i16 (ys.getD i default).c) ∧ w.cell? ⟨g, i * 8 + 1, none⟩ = some (.int .u8 (ys.getD i default).m0) ∧ w.cell? ⟨g, i * 8 + 2, none⟩ = some (.int .u8 (ys.getD i default).m1) ∧ w.cell? ⟨g, i * 8 + 3, none⟩ = some (.int .u8 (ys.getD i default).m2) ∧
    w.cell? ⟨g, i * 8 + 4, none⟩ = some (.int .i16 (ys.getD i default).v) ∧ w.cell? ⟨g, i * 8 + 5, none⟩ = some (.int .i16 (ys.getD i default).wi) ∧ w.cell? ⟨g, i * 8 + 6, none⟩ = some (.int .i16 (ys.getD i default).hi) ∧ w.cell? ⟨g, i * 8 + 7, none⟩ = some (.int .i16 (ys.getD i default).we) := by
  subst hn
  have e : ys.getD i default = ys[i] := by simp [List.getD, List.getElem?_eq_getElem hi]
  have q := booksAt_some h.at_ hi
  rw [Nat.zero_add] at q
  rw [e]
  exact q
theorem hole_at {L : List Bk} {k q : Nat} {h : Bk} (hq : q < k) (hk : k ≤ L.length) : (L.take k ++ h :: L.drop k).getD q default = L.getD q default := by
  simp only [List.getD]
  rw [List.getElem?_append_left (by simp; omega), List.getElem?_take, if_pos hq]
theorem hole_set {L : List Bk} {k : Nat} {h x : Bk} (hk : k ≤ L.length) : (L.take k ++ h :: L.drop k).set k x = L.take k ++ x :: L.drop k := by
  rw [List.set_append_right _ _ (by simp; omega)]
  simp [Nat.min_eq_left hk]
theorem hole_down {L : List Bk} {k : Nat} (hk : k + 1 ≤ L.length) : L.take (k + 1) ++ L.getD k default :: L.drop (k + 1) = L.take k ++ L.getD k default :: L.drop k := by
  have hl : k < L.length := by omega
  have e : L.getD k default = L[k] := by simp [List.getD, List.getElem?_eq_getElem hl]
  rw [e, List.take_succ_eq_append_getElem hl, List.drop_eq_getElem_cons hl, List.append_assoc]
  rfl

theorem booksAt_somek {w : World} {g o : Nat} {b : Bk} (h : BkAt w g o b) : w.cell? ⟨g, o, none⟩ = some (.int .i16 b.c) ∧ w.cell? ⟨g, o + 1, none⟩ = some (.int .u8 b.m0) ∧ w.cell? ⟨g, o + 2, none⟩ = some (.int .u8 b.m1) ∧ w.cell? ⟨g, o + 3, none⟩ = some (.int .u8 b.m2) ∧
    w.cell? ⟨g, o + 4, none⟩ = some (.int .i16 b.v) ∧ w.cell? ⟨g, o + 5, none⟩ = some (.int .i16 b.wi) ∧ w.cell? ⟨g, o + 6, none⟩ = some (.int .i16 b.hi) ∧ w.cell? ⟨g, o + 7, none⟩ = some (.int .i16 b.we) := h.2

set_option maxHeartbeats 16000000 in
theorem l01Sorted_any (vo v : Value) (zs : List Int) (hz : ∀ z ∈ zs, -128 ≤ z ∧ z ≤ 127) (xs : List Bk) (wf : ∀ b ∈ xs, b.Wf) (w : World) (ho : IntsOf .i8 w vo zs) (hzn : zs.length ≤ maxLen) (hs : SliceOf w v xs) (hn : xs.length ≤ 1048576) :
    Calls Try.prog 52 #[vo, v] w fun e w' => ∃ u, e = .returned u ∧ ResB w' w.heap.size u (insTo (ltB zs) xs xs.length) ∧ Below w.heap.size w w' := by
  have LC := Lib.hid (fun a b (wa : a.Wf) (wb : b.Wf) ga oa gb ob W (h : IntsOf .i8 W vo zs) (ha : BkAt W ga oa a) (hb : BkAt W gb ob b) => l01Compare_any vo zs hz a b wa wb ga oa gb ob W h hzn ha hb)
  have HO := Lib.hid ho
  have WF := Lib.hid wf
  obtain ⟨i0, hi0, hz0, hz1, hz2⟩ := info_parts infoBook
  obtain ⟨A, c, rfl, hat⟩ := hs
  have HS := Lib.hid hat
  have O0 := Lib.hid (ResB.own1 w w.heap.size (Nat.le_refl _))
  have B0 := Lib.hid ((Below.refl w.heap.size w).alloc (Nat.le_refl _) (.cells #[] 42))
  clear hat hz ho wf
  go_enter Try.func52, Try.ntmps52
  go_wp2
  go_loopw [5, 6] (fun v_ i_ wr => ∃ (v : Value) (i : Nat), v = v_ ∧ i ≤ xs.length ∧ i_ = .int .i64 (i : Int) ∧ wr.ownsRow w.heap.size 42 8 v (insTo (ltB zs) xs i).length (flB (insTo (ltB zs) xs i)) ∧ Below w.heap.size w wr) (fun _ i_ _ => xs.length - (intOf i_).toNat)
  case atStart => exact ⟨_, 0, rfl, Nat.zero_le _, rfl, O0.out, B0.out⟩
  case round =>
    clear O0 B0
    obtain ⟨v, i, rfl, hi, rfl, hown, hb⟩ := hrel
    have OA := Lib.hid hown
    have HB := Lib.hid hb
    clear hown hb
    by_cases hlt : i < xs.length
    · obtain ⟨ga, oa, rfl, hga, hat⟩ := HS.out (by omega)
      have HA := Lib.hid hat
      obtain ⟨p0, p1, p2, p3, p4, p5, p6, p7⟩ := booksAt_some (hat.below HB.out hga) hlt
      have WX := Lib.hid (WF.out _ (List.getElem_mem hlt))
      have WL := Lib.hid (show ∀ q, q < i → ((insTo (ltB zs) xs i).getD q default).Wf from fun q hq => by
        have hl : q < (insTo (ltB zs) xs i).length := by rw [insTo_len]; exact hq
        rw [show (insTo (ltB zs) xs i).getD q default = (insTo (ltB zs) xs i)[q] by simp [List.getD, List.getElem?_eq_getElem hl]]
        exact WF.out _ (List.mem_of_mem_take ((insTo_perm (ltB zs) xs i (by omega)).mem_iff.1 (List.getElem_mem hl))))
      have ES := Lib.hid (show insTo (ltB zs) xs (i + 1) = insR (ltB zs) (insTo (ltB zs) xs i) xs[i] by rw [insTo, show xs.getD i default = xs[i] by simp [List.getD, List.getElem?_eq_getElem hlt]])
      have LL := Lib.hid (insTo_len (ltB zs) xs i)
      have AX := Lib.hid (fun W (h : Below w.heap.size w W) => show BkAt W ga (oa + i * 8) xs[i] from (HA.out.below h hga).at_ (Nat.lt_of_lt_of_le hga h.size) hlt)
      rw [insTo_len] at OA
      generalize insTo (ltB zs) xs i = L at *
      generalize xs[i] = b at *
      obtain ⟨A2, c2, rfl⟩ := vlen_own8 OA.out
      have hsz := HB.out.size
      clear hat
      go_wp2_with (at_builtin; refine wpList_append_own _ rfl (.tmp 17) (.tmp 22) _ rfl w.heap.size 42 i0 (.agg #[.int .i16 0, .int .u8 0, .int .u8 0, .int .u8 0, .int .i16 0, .int .i16 0, .int .i16 0, .int .i16 0]) 8 14 Try.underlying32 hi0 hz0 hz1 hz2 rfl (by decide) _ _ _ rfl (OA.out.alloc _) ⟨wr.heap.size, 0, none⟩ 1 1 [.int .i16 b.c, .int .u8 b.m0, .int .u8 b.m1, .int .u8 b.m2, .int .i16 b.v, .int .i16 b.wi, .int .i16 b.hi, .int .i16 b.we] rfl rfl (cell8_new _ _ _ _ _ _ _ _ _ _) (one8 b) (by unfold maxLen; omega) (by omega) (by simp; omega) ?_)
      intro v' w4 hown' hgrow' _
      have ha : Below wr.heap.size wr (wr.alloc (.cells #[.int .i16 b.c, .int .u8 b.m0, .int .u8 b.m1, .int .u8 b.m2, .int .i16 b.v, .int .i16 b.wi, .int .i16 b.hi, .int .i16 b.we] 42)) := (Below.refl _ _).alloc (Nat.le_refl _) _
      have HB2 := Lib.hid ((bnext HB.out ha).grown hgrow' (bnext HB.out ha).size (fun k hk => (OA.out.lt k hk).1))
      rw [← flB_snoc] at hown'
      obtain ⟨g, N, rfl, hgb, hrk, hnN, hNM⟩ := own_rowK hown' (by rw [List.length_append, LL.out]; rfl) (by omega)
      have HRK := Lib.hid (show RowK w4 g (L.take i ++ b :: L.drop i) (i + 1) N by
        rw [List.take_of_length_le (by have := LL.out; omega), List.drop_eq_nil_of_le (by have := LL.out; omega)]; exact hrk)
      have HP := Lib.hid (show ∃ p, posR (ltB zs) L b i = p from ⟨_, rfl⟩)
      obtain ⟨p, hp⟩ := HP.out
      have EP := Lib.hid (show insR (ltB zs) L b = L.take p ++ b :: L.drop p by unfold insR; rw [LL.out, hp])
      have HP := Lib.hid hp
      clear hown' hgrow' hrk ha hp p0 p1 p2 p3 p4 p5 p6 p7
      go_wp2
      obtain ⟨wo, rfl⟩ : ∃ wo, wo = wr := ⟨_, rfl⟩
      go_loopw [7] (fun k_ ws => ∃ (k : Nat) (h : Bk), k_ = .int .i64 (k : Int) ∧ k ≤ i ∧ posR (ltB zs) L b k = p ∧ RowK ws g (L.take k ++ h :: L.drop k) (i + 1) N ∧ Below w.heap.size w ws) (fun k_ _ => (intOf k_).toNat)
      case atStart => exact ⟨i, b, rfl, Nat.le_refl _, HP.out, HRK.out, HB2.out⟩
      case round =>
        clear HRK HB2 HP
        obtain ⟨k, h, rfl, hki, hpk, hrow, hb⟩ := hrel
        have HP := Lib.hid hpk
        have HR := Lib.hid hrow
        have HB := Lib.hid hb
        have HL := Lib.hid (show (L.take k ++ h :: L.drop k).length = i + 1 by have := LL.out; simp; omega)
        have AT := Lib.hid (RowK.at_ (show RowK wr g (L.take k ++ h :: L.drop k) (L.take k ++ h :: L.drop k).length N by rw [HL.out]; exact HR.out))
        clear hpk hrow hb
        have hsz2 := HB.out.size
        have hgr : g < wr.heap.size := HR.out.lt
        by_cases hk0 : 0 < k
        · obtain ⟨q, rfl⟩ : ∃ q, k = q + 1 := ⟨k - 1, by omega⟩
          have w1 : ((q + 1 : Nat) : Int) - 1 = (q : Int) := by omega
          have EQ := Lib.hid (show (if ltB zs b (L.getD q default) then posR (ltB zs) L b q else q + 1) = p from HP.out)
          have HG := Lib.hid (hole_at (L := L) (h := h) (show q < q + 1 by omega) (by have := LL.out; omega))
          have WQ := Lib.hid (WL.out q (by omega))
          have BO := Lib.hid (fun W (hW : Below wr.heap.size wr W) => show BkAt W g (0 + q * 8) (L.getD q default) by
            have h1 := (AT.out.below hW hgr).at_ (Nat.lt_of_lt_of_le hgr hW.size) (show q < (L.take (q + 1) ++ h :: L.drop (q + 1)).length by rw [HL.out]; omega)
            rwa [show (L.take (q + 1) ++ h :: L.drop (q + 1))[q]'(by rw [HL.out]; omega) = L.getD q default by rw [← HG.out]; simp only [List.getD]; rw [List.getElem?_eq_getElem (by rw [HL.out]; omega), Option.getD_some]] at h1)
          have HS1 := Lib.hid (hole_set (L := L) (h := h) (x := L.getD q default) (show q + 1 ≤ L.length by have := LL.out; omega))
          have HD := Lib.hid (hole_down (L := L) (show q + 1 ≤ L.length by have := LL.out; omega))
          have RC := Lib.hid (fun W (h2 : RowK W g (L.take (q + 1) ++ h :: L.drop (q + 1)) (i + 1) N) => rowK_cells h2 HL.out.symm q (by omega))
          have RC2 := Lib.hid (fun W (h2 : RowK W g (L.take (q + 1) ++ h :: L.drop (q + 1)) (i + 1) N) => rowK_cells h2 HL.out.symm (q + 1) (by omega))
          have PUT := Lib.hid (fun W (h2 : RowK W g (L.take (q + 1) ++ h :: L.drop (q + 1)) (i + 1) N) => h2.putS (q + 1) (by rw [HL.out]; omega) (by omega) (L.getD q default))
          rw [HG.out] at RC
          generalize L.getD q default = y at *
          generalize (L.take (q + 1) ++ h :: L.drop (q + 1)).getD (q + 1) default = z at RC2
          have CC := Lib.hid (fun W (hW : Below wr.heap.size wr W) => LC.out b y WX.out WQ.out ga (oa + i * 8) g (0 + q * 8) W (HO.out.below (bnext HB.out hW)) (AX.out W (bnext HB.out hW)) (BO.out W hW))
          rw [Nat.zero_add] at CC
          have hgt : (0 : Int) < ((q + 1 : Nat) : Int) := by omega
          have hq1 : q + 1 ≤ 1048576 := by omega
          by_cases hc : cmpL zs b y < 0
          · have hd2 : decide (cmpL zs b y < 0) = true := decide_eq_true hc
            have E2 := Lib.hid (show posR (ltB zs) L b q = p by rw [← EQ.out, if_pos (show ltB zs b y = true from hd2)])
            clear hc EQ
            go_wp2
            refine wp_region_below (by kernel_rfl) (by kernel_rfl) ?_
            repeat (first | go_big_quiet_step ((go_at_call 55; exact calls_below (CC.out _ (BelowBy.h _)))) | quiet_step ((go_at_call 55; exact calls_below (CC.out _ (BelowBy.h _)))))
            refine wpQuiet_nil ?_
            rintro wq ⟨⟨_, hqw⟩, rfl⟩
            have B7 := Lib.hid (bnext HB.out hqw)
            have R7 := Lib.hid (HR.out.below hqw hgr)
            obtain ⟨x0, x1, x2, x3, x4, x5, x6, x7⟩ := RC.out _ R7.out
            obtain ⟨y0, y1, y2, y3, y4, y5, y6, y7⟩ := RC2.out _ R7.out
            have fz := R7.out.frozen
            have PT := Lib.hid (PUT.out _ R7.out)
            have hq2 : q + 1 < i + 1 := by omega
            have hq3 : q < i + 1 := by omega
            go_wp2
            go_roundw
            case rel => exact ⟨q, y, by go_num, by omega, E2.out, by show RowK (set8 wq g ((q + 1) * 8) y) g _ _ _; rw [← HD.out, ← HS1.out]; exact PT.out, by show Below _ _ (set8 wq g ((q + 1) * 8) y); exact set8_below B7.out hgb⟩
            case measure => simp [intOf]
          · have hd2 : decide (cmpL zs b y < 0) = false := decide_eq_false hc
            have E2 := Lib.hid (show q + 1 = p by rw [← EQ.out, if_neg (by rw [show ltB zs b y = false from hd2]; decide)])
            have HB1 := Lib.hid (hole_set (L := L) (h := h) (x := b) (show q + 1 ≤ L.length by have := LL.out; omega))
            have PUTB := Lib.hid (fun W (h2 : RowK W g (L.take (q + 1) ++ h :: L.drop (q + 1)) (i + 1) N) => h2.putS (q + 1) (by rw [HL.out]; omega) (by omega) b)
            have hq2 : q + 1 < i + 1 := by omega
            clear hc EQ
            go_wp2
            refine wp_region_below (by kernel_rfl) (by kernel_rfl) ?_
            repeat (first | go_big_quiet_step ((go_at_call 55; exact calls_below (CC.out _ (BelowBy.h _)))) | quiet_step ((go_at_call 55; exact calls_below (CC.out _ (BelowBy.h _)))))
            refine wpQuiet_nil ?_
            rintro wq ⟨⟨_, hqw⟩, rfl⟩
            have B7 := Lib.hid (bnext HB.out hqw)
            have R7 := Lib.hid (HR.out.below hqw hgr)
            obtain ⟨y0, y1, y2, y3, y4, y5, y6, y7⟩ := RC2.out _ R7.out
            obtain ⟨x0, x1, x2, x3, x4, x5, x6, x7⟩ := booksAt_somek (AX.out wq B7.out)
            have fz := R7.out.frozen
            have PT := Lib.hid (PUTB.out _ R7.out)
            have hb7 := Lib.hid (show Below w.heap.size w (set8 wq g ((q + 1) * 8) b) from set8_below B7.out hgb)
            have OB := Lib.hid (show (set8 wq g ((q + 1) * 8) b).ownsRow w.heap.size 42 8 (.slice (some ⟨g, 0, none⟩) (i + 1) N) (insTo (ltB zs) xs (i + 1)).length (flB (insTo (ltB zs) xs (i + 1))) by
              rw [insTo_len, ES.out, EP.out, ← E2.out, ← HB1.out]
              exact own_of_rowK PT.out (by rw [List.length_set]; exact HL.out.symm) hnN hNM hgb)
            go_wp2
            go_roundw
            case rel => exact ⟨_, i + 1, rfl, by omega, by go_num, OB.out, hb7.out⟩
            case measure => simp [intOf]; omega
        · obtain rfl : k = 0 := by omega
          have E2 := Lib.hid (show 0 = p by rw [← HP.out]; rfl)
          have HB1 := Lib.hid (hole_set (L := L) (h := h) (x := b) (Nat.zero_le L.length))
          have PUTB := Lib.hid (fun W (h2 : RowK W g (L.take 0 ++ h :: L.drop 0) (i + 1) N) => h2.putS 0 (by rw [HL.out]; omega) (by omega) b)
          have RC2 := Lib.hid (fun W (h2 : RowK W g (L.take 0 ++ h :: L.drop 0) (i + 1) N) => rowK_cells h2 HL.out.symm 0 (by omega))
          generalize (L.take 0 ++ h :: L.drop 0).getD 0 default = z at RC2
          go_wp2
          refine wp_region_below (by kernel_rfl) (by kernel_rfl) ?_
          repeat (first | go_big_quiet_step (fail) | quiet_step (fail))
          refine wpQuiet_nil ?_
          rintro wq ⟨⟨_, hqw⟩, rfl⟩
          have B7 := Lib.hid (bnext HB.out hqw)
          have R7 := Lib.hid (HR.out.below hqw hgr)
          obtain ⟨y0, y1, y2, y3, y4, y5, y6, y7⟩ := RC2.out _ R7.out
          obtain ⟨x0, x1, x2, x3, x4, x5, x6, x7⟩ := booksAt_somek (AX.out wq B7.out)
          have fz := R7.out.frozen
          have PT := Lib.hid (PUTB.out _ R7.out)
          have hb7 := Lib.hid (show Below w.heap.size w (set8 wq g (0 * 8) b) from set8_below B7.out hgb)
          have OB := Lib.hid (show (set8 wq g (0 * 8) b).ownsRow w.heap.size 42 8 (.slice (some ⟨g, 0, none⟩) (i + 1) N) (insTo (ltB zs) xs (i + 1)).length (flB (insTo (ltB zs) xs (i + 1))) by
            rw [insTo_len, ES.out, EP.out, ← E2.out, ← HB1.out]
            exact own_of_rowK PT.out (by rw [List.length_set]; exact HL.out.symm) hnN hNM hgb)
          go_wp2
          go_roundw
          case rel => exact ⟨_, i + 1, rfl, by omega, by go_num, OB.out, hb7.out⟩
          case measure => simp [intOf]; omega
    · obtain rfl : i = xs.length := by omega
      have E := Lib.hid (ResB.ofL OA.out rfl)
      go_wp2
      go_ret
      exact ⟨_, rfl, E.out, HB.out⟩
end Go.Proofs.Ytecpddkbbfpeeaa
