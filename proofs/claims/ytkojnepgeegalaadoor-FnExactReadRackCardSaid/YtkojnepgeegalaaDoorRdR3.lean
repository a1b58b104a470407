/- ReadRack, by the model: a contract. Condition: a text no longer than told. -/
import Derived.Test.YtkojnepgeegalaaDoorRdR1
import Derived.Test.YtkojnepgeegalaaDoorRdR2
namespace Go.Proofs.YtkojnepgeegalaaDoor
set_option linter.unusedSimpArgs false
set_option linter.unusedVariables false
set_option maxRecDepth 100000
open Go.RowKit

theorem plOk_wf {x : Pl} (h : PlOk x) : x.Wf := by
  have h1 := h.1
  have h2 := bookB_in h.2
  exact ⟨by omega, by constructor <;> omega⟩
theorem KR.below {W W' : World} {g : Nat} {n : Int} {hv : Value} (h : KR W g n hv) (hb : Below W.heap.size W W') : KR W' g n hv := (hb.block g h.lt).trans h
/-- Where the model's ReadRack stands: the result's box. -/
structure RrB (w W : World) : Prop where
  rb : KR W w.heap.size 0 (.slice none 0 0)
  bl : Below w.heap.size w W
theorem RrB.nx {w W W' : World} (h : RrB w W) (hb : Below W.heap.size W W') : RrB w W' := ⟨h.rb.below hb, bnext h.bl hb⟩
/-- The rack's box and its books. -/
structure RrM (W1 W : World) (gb : Nat) (n : Int) (ps : List Pl) (hv : Value) : Prop where
  bw : Below gb W1 W
  bx : KR W gb n hv
  ow : W.ownsRow (gb + 1) 99 9 hv ps.length (flN Pl.cells ps)
section
variable {w W1 W W' : World} {gb : Nat} {n : Int} {ps : List Pl} {hv : Value}
theorem RrM.nx (h : RrM W1 W gb n ps hv) (hb : Below W.heap.size W W') : RrM W1 W' gb n ps hv := ⟨h.bw.trans (hb.mono (by have := h.bx.lt; omega)), h.bx.below hb, ownBelow h.ow hb⟩
theorem RrM.ap (h : RrM W1 W gb n ps hv) (hg : W.grownBy W' hv.ownBlock) {ps' : List Pl} {hv' : Value} (ho : W'.ownsRow (gb + 1) 99 9 hv' ps'.length (flN Pl.cells ps')) : RrM W1 (W'.setCell ⟨gb, 1, none⟩ hv') gb n ps' hv' := by
  have l := h.bx.lt
  have b2 := h.bw.grown hg (by omega) (fun k hk => by have := (h.ow.lt k hk).1; omega)
  have g3 := (Gr.refl gb W').set 1 hv'
  have b3 := b2.grown g3 (by have := hg.size; omega) (fun k hk => by injection hk with hk; omega)
  have x0 := h.bx.kept hg (fun e => by have := (h.ow.lt _ e.symm).1; omega)
  exact ⟨b3, x0.s1 hv', ownOther ho g3 (fun k hk e => by have := (ho.lt k hk).1; injection e with e; omega)⟩
theorem RrB.of (h0 : RrB w W1) (hz : W1.heap.size = gb) (h : RrM W1 W gb n ps hv) : RrB w W :=
  ⟨(h.bw.block _ (by have := h0.rb.lt; omega)).trans h0.rb, h0.bl.trans (h.bw.mono (by have := h0.bl.size; omega))⟩
theorem RrM.at (h : RrM W1 W gb n ps hv) : RackAt W gb 0 ⟨n, ps⟩ hv := ⟨h.bx.lt, h.bx.c0, h.bx.c1, (ResN.of Pl.nine h.ow rfl).slice⟩
end
set_option maxHeartbeats 16000000 in
theorem specReadRack_any (T : ByteArray) (hT : T.size ≤ 1048576) (w : World) :
    Calls Tryd.prog 36 #[.string T] w (ReadsRk (rrV T.data.toList) (rrK T.data.toList) w) := by
  obtain ⟨i0, hi0, hz0, hz1, hz2⟩ := info_parts infoPlaced
  have X0 := Lib.hid (show RrB w (w.alloc (.cells #[.int .i16 0, (.slice none 0 0)] 60)) from ⟨heap_alloc_new w _, (Below.refl _ _).alloc (Nat.le_refl _) _⟩)
  go_enter Tryd.func36, Tryd.ntmps36
  go_upto_region 1 with (fail)
  generalize World.alloc _ _ = W0 at X0 ⊢
  go_wp2_with fail
  refine (l01Split_any T hT 10 W0).mono ?_
  rintro e w1 ⟨u, rfl, ho1, h1⟩
  obtain ⟨ws, ews⟩ : ∃ ws, ws = splitL 10 T.data.toList := ⟨_, rfl⟩
  rw [← ews] at ho1
  have WS := Lib.hid ews
  have X1 := Lib.hid (X0.out.nx h1)
  have hlen : ws.length ≤ 1048577 := by rw [ews]; exact Nat.le_trans (splitL_len 10 _) (by rw [Array.length_toList]; exact Nat.succ_le_succ hT)
  have HWL := Lib.hid (show ∀ v ∈ ws, v.length ≤ 1048576 from fun v hv => by rw [ews] at hv; exact Nat.le_trans (split_word_len 10 _ v hv) (by rw [Array.length_toList]; exact hT))
  obtain ⟨m, hm⟩ : ∃ m, ws.length = m + 1 := ⟨ws.length - 1, by
    have : ws ≠ [] := by rw [ews]; exact splitL_ne _ _
    have : ws.length ≠ 0 := fun e => this (List.eq_nil_of_length_eq_zero e)
    omega⟩
  obtain ⟨As, cs, es, hsa⟩ := ownStrs ho1 rfl
  subst es
  obtain ⟨ga, oa, rfl, hga, hat⟩ := hsa (by omega)
  have HAT := Lib.hid hat
  have pm := hat m (by omega)
  have py := hat 0 (by omega)
  unfold strV at pm py
  rw [Nat.add_zero] at py
  have hmn : (m : Int) < (ws.length : Int) := by omega
  have hmn2 : m < ws.length := by omega
  have h0n : (0 : Int) < (ws.length : Int) := by omega
  have h0n2 : 0 < ws.length := by omega
  have hm0 : (0 : Int) ≤ (m : Int) := by omega
  have hw1 : IntKind.i64.wrap ((ws.length : Int) - 1) = (m : Int) := by rw [show (ws.length : Int) - 1 = (m : Int) by omega]; exact IntWalk.i64_in _ (by omega)
  have hw2 : (ws.length : Int) - 1 = (m : Int) := by omega
  have HM := Lib.hid hm
  have HL := Lib.hid (fun (r : Rk) (h : RcP T.data.toList r) => rk_last WS.out HM.out h)
  have HZ := Lib.hid (fun (r : Rk) (h : RcP T.data.toList r) => rk_zero WS.out h0n2 h)
  have TK0 := Lib.hid (show ws.take 1 = [ws[0]] from by
    have := List.take_succ_eq_append_getElem h0n2
    rw [List.take_zero, List.nil_append] at this
    exact this)
  have HYL := Lib.hid (HWL.out _ (List.getElem_mem h0n2))
  obtain ⟨nl, hn⟩ : ∃ nl, ws.length = nl := ⟨_, rfl⟩
  obtain ⟨X, hX⟩ : ∃ X, ws[m]'(by omega) = X := ⟨_, rfl⟩
  rw [hX] at pm
  have HX := Lib.hid hX
  generalize ws[0] = Y at py HZ TK0 HYL
  rw [hn] at hmn hmn2 h0n h0n2 hw1 hw2 hlen ⊢
  have HN := Lib.hid hn
  clear ho1 h1 ews hsa hat hm hX hn
  by_cases hm1 : m < 1
  · have g1 : decide (m < 1) = true := decide_eq_true hm1
    have g2 : decide ((m : Int) < 1) = true := decide_eq_true (by omega)
    have NO := Lib.hid (rr_no (L := T.data.toList) (fun r e => by have := (HL.out r e).1; omega))
    clear hm1 py
    have r0 := X1.out.rb.c0
    have r1 := X1.out.rb.c1
    have fz := X1.out.rb.fz
    have PR := Lib.hid (X1.out.rb.all 0 (.slice none 0 0))
    have GR := Lib.hid (X1.out.bl.grown (grR w.heap.size 0 (.slice none 0 0)) X1.out.bl.size (fun k hk => by injection hk with hk; omega))
    have OR := Lib.hid (show ((w1.setCell ⟨w.heap.size, 0, none⟩ (.int .i16 0)).setCell ⟨w.heap.size, 1, none⟩ (.slice none 0 0)).ownsRow w.heap.size 99 9 (.slice none 0 0) (rrV T.data.toList).ps.length (flN Pl.cells (rrV T.data.toList).ps) from by rw [NO.out.1]; exact ⟨rfl, .inl ⟨rfl, rfl⟩⟩)
    go_wp2
    have q0' := PR.out.c0
    have q1' := PR.out.c1
    exact bodyPost_ret (v := .tuple #[.agg #[.int .i16 0, (.slice none 0 0)], .int .i64 5]) (by simp [results, Tryd.results36, go_sem, q0', q1']) rfl (readsRk_mk (.slice none 0 0) (by rw [NO.out.1, NO.out.2]; rfl) OR.out GR.out)
  have g1 : decide (m < 1) = false := decide_eq_false hm1
  have g2 : decide ((m : Int) < 1) = false := decide_eq_false (by omega)
  by_cases hx : X = []
  case neg =>
    have ne1 : (strOf X).toList.isEmpty = false := by
      rw [strOf_emptyR]
      cases X with
      | nil => exact absurd rfl hx
      | cons a l => rfl
    have ne2 : ((strOf X).toList = []) = False := by rw [strOf_toLR]; exact eq_false hx
    have NO := Lib.hid (rr_no (L := T.data.toList) (fun r e => hx (HX.out.symm.trans (HL.out r e).2)))
    clear hx py
    have r0 := X1.out.rb.c0
    have r1 := X1.out.rb.c1
    have fz := X1.out.rb.fz
    have PR := Lib.hid (X1.out.rb.all 0 (.slice none 0 0))
    have GR := Lib.hid (X1.out.bl.grown (grR w.heap.size 0 (.slice none 0 0)) X1.out.bl.size (fun k hk => by injection hk with hk; omega))
    have OR := Lib.hid (show ((w1.setCell ⟨w.heap.size, 0, none⟩ (.int .i16 0)).setCell ⟨w.heap.size, 1, none⟩ (.slice none 0 0)).ownsRow w.heap.size 99 9 (.slice none 0 0) (rrV T.data.toList).ps.length (flN Pl.cells (rrV T.data.toList).ps) from by rw [NO.out.1]; exact ⟨rfl, .inl ⟨rfl, rfl⟩⟩)
    go_wp2
    have q0' := PR.out.c0
    have q1' := PR.out.c1
    exact bodyPost_ret (v := .tuple #[.agg #[.int .i16 0, (.slice none 0 0)], .int .i64 5]) (by simp [results, Tryd.results36, go_sem, q0', q1']) rfl (readsRk_mk (.slice none 0 0) (by rw [NO.out.1, NO.out.2]; rfl) OR.out GR.out)
  have ne1 : (strOf X).toList.isEmpty = true := by rw [strOf_emptyR, hx]; rfl
  have ne2 : (strOf X).toList = [] := by rw [strOf_toLR]; exact hx
  have HX0 := Lib.hid (show ws[m]'(by have := HN.out; omega) = [] from HX.out.trans hx)
  clear hx
  go_wp2_with fail
  refine (l01Number_any (strOf Y) (by rw [strOf_size]; exact HYL.out) w1).mono ?_
  rintro e w' ⟨n, ok, rfl, hn, rfl⟩
  have N0 := Lib.hid (show NumS Y n ok by have h := hn; rwa [show (strOf Y).data.toList = Y by simp [strOf]] at h)
  clear hn g1 g2 ne1 ne2 pm py hw1 hw2
  cases ok
  · have NO := Lib.hid (rr_no (L := T.data.toList) (fun r e => by
      have h := nums_dec N0.out (by have := e.n; omega) (HZ.out r e)
      cases h.1))
    have r0 := X1.out.rb.c0
    have r1 := X1.out.rb.c1
    have fz := X1.out.rb.fz
    have PR := Lib.hid (X1.out.rb.all 0 (.slice none 0 0))
    have GR := Lib.hid (X1.out.bl.grown (grR w.heap.size 0 (.slice none 0 0)) X1.out.bl.size (fun k hk => by injection hk with hk; omega))
    have OR := Lib.hid (show ((w1.setCell ⟨w.heap.size, 0, none⟩ (.int .i16 0)).setCell ⟨w.heap.size, 1, none⟩ (.slice none 0 0)).ownsRow w.heap.size 99 9 (.slice none 0 0) (rrV T.data.toList).ps.length (flN Pl.cells (rrV T.data.toList).ps) from by rw [NO.out.1]; exact ⟨rfl, .inl ⟨rfl, rfl⟩⟩)
    go_wp2
    have q0' := PR.out.c0
    have q1' := PR.out.c1
    exact bodyPost_ret (v := .tuple #[.agg #[.int .i16 0, (.slice none 0 0)], .int .i64 5]) (by simp [results, Tryd.results36, go_sem, q0', q1']) rfl (readsRk_mk (.slice none 0 0) (by rw [NO.out.1, NO.out.2]; rfl) OR.out GR.out)
  have RN := Lib.hid (fun (r : Rk) (e : RcP T.data.toList r) => (nums_dec N0.out (by have := e.n; omega) (HZ.out r e)).2)
  have YD := Lib.hid (nums_yes N0.out)
  go_wp2_with fail
  refine (l05Places_any n w1).mono ?_
  rintro e w' ⟨rfl, rfl⟩
  cases hin : inB n 1 60
  · have NO := Lib.hid (rr_no (L := T.data.toList) (fun r e => by
      have h := RN.out r e
      have h2 := e.n
      rw [← h] at h2
      have : inB n 1 60 = true := by unfold inB; simpa using h2
      rw [hin] at this
      cases this))
    clear hin
    have r0 := X1.out.rb.c0
    have r1 := X1.out.rb.c1
    have fz := X1.out.rb.fz
    have PR := Lib.hid (X1.out.rb.all 0 (.slice none 0 0))
    have GR := Lib.hid (X1.out.bl.grown (grR w.heap.size 0 (.slice none 0 0)) X1.out.bl.size (fun k hk => by injection hk with hk; omega))
    have OR := Lib.hid (show ((w1.setCell ⟨w.heap.size, 0, none⟩ (.int .i16 0)).setCell ⟨w.heap.size, 1, none⟩ (.slice none 0 0)).ownsRow w.heap.size 99 9 (.slice none 0 0) (rrV T.data.toList).ps.length (flN Pl.cells (rrV T.data.toList).ps) from by rw [NO.out.1]; exact ⟨rfl, .inl ⟨rfl, rfl⟩⟩)
    go_wp2
    have q0' := PR.out.c0
    have q1' := PR.out.c1
    exact bodyPost_ret (v := .tuple #[.agg #[.int .i16 0, (.slice none 0 0)], .int .i64 5]) (by simp [results, Tryd.results36, go_sem, q0', q1']) rfl (readsRk_mk (.slice none 0 0) (by rw [NO.out.1, NO.out.2]; rfl) OR.out GR.out)
  have hnb : 1 ≤ n ∧ n ≤ 60 := by unfold inB at hin; simpa using hin
  have hwn : IntKind.i16.wrap n = n := IntWalk.i16_in _ (by omega)
  have M2 := Lib.hid (show RrM w1 (w1.alloc (.cells #[.int .i16 n, (.slice none 0 0)] 60)) w1.heap.size n [] (.slice none 0 0) from ⟨(Below.refl _ _).alloc (Nat.le_refl _) _, heap_alloc_new w1 _, ⟨rfl, .inl ⟨rfl, rfl⟩⟩⟩)
  obtain ⟨gb, hgb⟩ : ∃ gb, gb = w1.heap.size := ⟨_, rfl⟩
  clear hin
  go_upto_region 9 with (fail)
  generalize World.alloc _ _ = W2 at M2 ⊢
  rw [← hgb] at M2 ⊢
  have HGB := Lib.hid hgb.symm
  have hga2 : ga < gb := by omega
  have NB := Lib.hid hnb
  clear hgb hwn hnb
  have TK1 := Lib.hid (show ws.take 1 = dec n :: ([] : List Pl).map plTx from by rw [TK0.out, YD.out.2.1]; rfl)
  go_wp2
  go_loopw [9] (fun i_ wr => ∃ (ps : List Pl) (hv : Value) (k : Nat), k = ps.length + 1 ∧ k ≤ m ∧ i_ = .int .i64 (k : Int) ∧ ws.take k = dec n :: ps.map plTx ∧ (∀ x ∈ ps, PlOk x) ∧ RrM w1 wr gb n ps hv) (fun i_ _ => m - (intOf i_).toNat)
  case atStart => exact ⟨[], _, 1, rfl, by omega, rfl, TK1.out, fun _ h => (by simp at h), M2.out⟩
  case round =>
    obtain ⟨ps, hv, k, hke, hk, rfl, htk, hok, hx⟩ := hrel
    have KE := Lib.hid hke
    have TK := Lib.hid htk
    have OKS := Lib.hid hok
    have MM := Lib.hid hx
    obtain ⟨A5, cap5, rfl⟩ := rkSl hx.ow
    clear hke htk hok hx M2 TK1
    by_cases hlt : k < m
    · have hltw : k < ws.length := by have := HN.out; omega
      have p0 := (MM.out.bw.cell (p := ⟨ga, oa + k, none⟩) hga2).trans (HAT.out k hltw)
      unfold strV at p0
      have hin : (k : Int) < (nl : Int) := by omega
      have hk0 : (0 : Int) ≤ (k : Int) := by omega
      have HXL := Lib.hid (HWL.out _ (List.getElem_mem hltw))
      have LW := Lib.hid (fun (X : List UInt8) (hX : ws[k] = X) (r : Rk) (h : RcP T.data.toList r) => (show ∃ x ∈ r.ps, X = plTx x from by
        have hk1 := KE.out
        have h3 : ∃ k', k = k' + 1 := ⟨k - 1, by omega⟩
        obtain ⟨k', e⟩ := h3
        have hlt2 : k' + 1 < m := by omega
        obtain ⟨x, hx, e2⟩ := rk_line WS.out HM.out hlt2 h
        refine ⟨x, hx, ?_⟩
        rw [← hX, ← e2]
        simp only [e]))
      have TK2 := Lib.hid (show ws.take (k + 1) = ws.take k ++ [ws[k]] from List.take_succ_eq_append_getElem hltw)
      generalize ws[k] = X at p0 HXL LW TK2
      obtain ⟨S, hS⟩ : ∃ S, S = strOf X := ⟨_, rfl⟩
      rw [← hS] at p0
      have SX := Lib.hid (show S.data.toList = X by rw [hS]; simp [strOf])
      have SZ := Lib.hid (show S.size = X.length by rw [hS, strOf_size])
      have hsb : S.size ≤ 1048576 := by rw [SZ.out]; exact HXL.out
      clear hS
      obtain ⟨wo, rfl⟩ : ∃ wo : World, wo = wr := ⟨_, rfl⟩
      go_wp2
      go_loopw [10] (fun j_ wr => ∃ j : Nat, j ≤ S.size ∧ j_ = .int .i64 (j : Int) ∧ (∀ i (hi : i < S.size), i < j → S[i] ≠ 32) ∧ wo = wr) (fun j_ _ => S.size - (intOf j_).toNat)
      case atStart => exact ⟨0, Nat.zero_le _, rfl, fun _ _ h => absurd h (Nat.not_lt_zero _), rfl⟩
      case round =>
        obtain ⟨j, hj, rfl, hno, hwr⟩ := hrel
        subst hwr
        have NOJ := Lib.hid hno
        clear hno
        have k0 : (0 : Int) ≤ (j : Int) := by omega
        have kl : (j : Int) ≤ (S.size : Int) := by omega
        have NJ := Lib.hid (show ∀ i, i < j → X[i]? ≠ some 32 from fun i hi e => by
          obtain ⟨h1, h2⟩ := List.getElem?_eq_some_iff.1 e
          have h3 : i < S.size := by rw [SZ.out]; exact h1
          refine NOJ.out i h3 hi ?_
          rw [← listAt S i h3, ← h2]
          simp only [SX.out])
        have EX := Lib.hid (show (S.extract 0 j).data.toList = X.take j by rw [extract_of, SX.out]; simp [strOf])
        have EZ := Lib.hid (show (S.extract 0 j).size ≤ 1048576 by
          rw [extract_of, strOf_size, List.length_take, List.length_drop, Array.length_toList]
          have : S.data.size = S.size := rfl
          omega)
        by_cases hjl : j < S.size
        · have k1 : (j : Int) < (S.size : Int) := by omega
          by_cases h32 : S[j] = 32
          · have b1 : ((S[j].toNat : Int) == 32) = true := by rw [h32]; rfl
            have b2 : ((S[j].toNat : Int) != 32) = false := by rw [h32]; rfl
            have q1 : ((j : Int) == (S.size : Int)) = false := by simp only [beq_eq_false_iff_ne, ne_eq]; omega
            have q2 : (j == S.size) = false := by simp only [beq_eq_false_iff_ne, ne_eq]; omega
            have q3 : ¬ j = S.size := by omega
            have J32 := Lib.hid (show X[j]? = some 32 from by
              have h3 : j < X.length := by rw [← SZ.out]; exact hjl
              rw [List.getElem?_eq_getElem h3, ← h32, ← listAt S j hjl]
              simp only [SX.out])
            have PF := Lib.hid (fun (x : Pl) (e : X = plTx x) => pl_first e (by rw [← SZ.out]; exact hj) NJ.out (.inr J32.out))
            have E2 := Lib.hid (show S.extract (j + 1) S.size = strOf (X.drop (j + 1)) by
              rw [extract_of, SX.out, List.take_of_length_le]
              rw [List.length_drop, SZ.out]
              exact Nat.le_refl _)
            have EL := Lib.hid (show (X.drop (j + 1)).length ≤ 1048576 by rw [List.length_drop]; have := HXL.out; omega)
            clear h32
            go_wp2_with fail
            refine (l01Number_any (S.extract 0 j) EZ.out _).mono ?_
            rintro e w' ⟨a, one, rfl, hna, rfl⟩
            have NA := Lib.hid (show NumS (X.take j) a one by rw [← EX.out]; exact hna)
            have XO := Lib.hid (X1.out.of HGB.out MM.out)
            clear hna
            cases one
            · have NO := Lib.hid (rr_no (L := T.data.toList) (fun r e => by
                obtain ⟨x, hx, e2⟩ := LW.out X rfl r e
                have h := nums_dec NA.out (e.pls x hx).1.1 (PF.out x e2).2.1
                cases h.1))
              have r0 := XO.out.rb.c0
              have r1 := XO.out.rb.c1
              have fz := XO.out.rb.fz
              have PR := Lib.hid (XO.out.rb.all 0 (.slice none 0 0))
              have GR := Lib.hid (XO.out.bl.grown (grR w.heap.size 0 (.slice none 0 0)) XO.out.bl.size (fun k hk => by injection hk with hk; omega))
              have OR := Lib.hid (show ((wo.setCell ⟨w.heap.size, 0, none⟩ (.int .i16 0)).setCell ⟨w.heap.size, 1, none⟩ (.slice none 0 0)).ownsRow w.heap.size 99 9 (.slice none 0 0) (rrV T.data.toList).ps.length (flN Pl.cells (rrV T.data.toList).ps) from by rw [NO.out.1]; exact ⟨rfl, .inl ⟨rfl, rfl⟩⟩)
              go_wp2
              have q0' := PR.out.c0
              have q1' := PR.out.c1
              exact bodyPost_ret (v := .tuple #[.agg #[.int .i16 0, (.slice none 0 0)], .int .i64 5]) (by simp [results, Tryd.results36, go_sem, q0', q1']) rfl (readsRk_mk (.slice none 0 0) (by rw [NO.out.1, NO.out.2]; rfl) OR.out GR.out)
            have AD := Lib.hid (nums_yes NA.out)
            by_cases hge : n ≤ a
            · have g1 : decide (n ≤ a) = true := decide_eq_true hge
              have NO := Lib.hid (rr_no (L := T.data.toList) (fun r e => by
                obtain ⟨x, hx, e2⟩ := LW.out X rfl r e
                have h := (nums_dec NA.out (e.pls x hx).1.1 (PF.out x e2).2.1).2
                have h2 := (e.pls x hx).2
                have h3 := RN.out r e
                omega))
              clear hge
              have r0 := XO.out.rb.c0
              have r1 := XO.out.rb.c1
              have fz := XO.out.rb.fz
              have PR := Lib.hid (XO.out.rb.all 0 (.slice none 0 0))
              have GR := Lib.hid (XO.out.bl.grown (grR w.heap.size 0 (.slice none 0 0)) XO.out.bl.size (fun k hk => by injection hk with hk; omega))
              have OR := Lib.hid (show ((wo.setCell ⟨w.heap.size, 0, none⟩ (.int .i16 0)).setCell ⟨w.heap.size, 1, none⟩ (.slice none 0 0)).ownsRow w.heap.size 99 9 (.slice none 0 0) (rrV T.data.toList).ps.length (flN Pl.cells (rrV T.data.toList).ps) from by rw [NO.out.1]; exact ⟨rfl, .inl ⟨rfl, rfl⟩⟩)
              go_wp2
              have q0' := PR.out.c0
              have q1' := PR.out.c1
              exact bodyPost_ret (v := .tuple #[.agg #[.int .i16 0, (.slice none 0 0)], .int .i64 5]) (by simp [results, Tryd.results36, go_sem, q0', q1']) rfl (readsRk_mk (.slice none 0 0) (by rw [NO.out.1, NO.out.2]; rfl) OR.out GR.out)
            have g1 : decide (n ≤ a) = false := decide_eq_false hge
            have hab : 0 ≤ a ∧ a ≤ 9999 := ⟨AD.out.1, by have := NB.out; omega⟩
            have hwa : IntKind.i16.wrap a = a := IntWalk.i16_in _ (by omega)
            have j1 : (0 : Int) ≤ (j : Int) + 1 := by omega
            have j2 : (j : Int) + 1 ≤ (S.size : Int) := by omega
            rcases rbr_cases (X.drop (j + 1)) with ⟨b, hb, e1, e2⟩ | ⟨hno, e1, e2⟩
            case inr =>
              have SP := Lib.hid (fun W => specRBr EL.out e1 e2 W)
              rw [← E2.out] at SP
              have NO := Lib.hid (rr_no (L := T.data.toList) (fun r e => by
                obtain ⟨x, hx, e2⟩ := LW.out X rfl r e
                exact hno x.b ⟨(e.pls x hx).1.2, (PF.out x e2).2.2⟩))
              clear e1 e2 hno hge
              go_wp2_with fail
              refine (SP.out _).mono ?_
              rintro e w3 ⟨rfl, h3⟩
              have X3 := Lib.hid (XO.out.nx (bnext h3 ((Below.refl w3.heap.size w3).alloc (Nat.le_refl _) (.cells #[.int .i16 zeroBk.c, .int .u8 zeroBk.m0, .int .u8 zeroBk.m1, .int .u8 zeroBk.m2, .int .i16 zeroBk.v, .int .i16 zeroBk.wi, .int .i16 zeroBk.hi, .int .i16 zeroBk.we] 25))))
              clear h3 p0
              go_upto_region 19 with (fail)
              generalize World.alloc _ _ = W3 at X3 ⊢
              have r0 := X3.out.rb.c0
              have r1 := X3.out.rb.c1
              have fz := X3.out.rb.fz
              have PR := Lib.hid (X3.out.rb.all 0 (.slice none 0 0))
              have GR := Lib.hid (X3.out.bl.grown (grR w.heap.size 0 (.slice none 0 0)) X3.out.bl.size (fun k hk => by injection hk with hk; omega))
              have OR := Lib.hid (show ((W3.setCell ⟨w.heap.size, 0, none⟩ (.int .i16 0)).setCell ⟨w.heap.size, 1, none⟩ (.slice none 0 0)).ownsRow w.heap.size 99 9 (.slice none 0 0) (rrV T.data.toList).ps.length (flN Pl.cells (rrV T.data.toList).ps) from by rw [NO.out.1]; exact ⟨rfl, .inl ⟨rfl, rfl⟩⟩)
              go_wp2
              have q0' := PR.out.c0
              have q1' := PR.out.c1
              exact bodyPost_ret (v := .tuple #[.agg #[.int .i16 0, (.slice none 0 0)], .int .i64 5]) (by simp [results, Tryd.results36, go_sem, q0', q1']) rfl (readsRk_mk (.slice none 0 0) (by rw [NO.out.1, NO.out.2]; rfl) OR.out GR.out)
            have SP := Lib.hid (fun W => specRBr EL.out e1 e2 W)
            rw [← E2.out] at SP
            have HB2 := Lib.hid hb
            have PX := Lib.hid (pl_made J32.out AD.out.2.1 hb.eq)
            clear e1 e2 hb hge
            go_wp2_with fail
            refine (SP.out _).mono ?_
            rintro e w3 ⟨rfl, h3⟩
            have a3 := (Below.refl w3.heap.size w3).alloc (Nat.le_refl _) (.cells #[.int .i16 b.c, .int .u8 b.m0, .int .u8 b.m1, .int .u8 b.m2, .int .i16 b.v, .int .i16 b.wi, .int .i16 b.hi, .int .i16 b.we] 25)
            have M3 := Lib.hid (MM.out.nx (bnext h3 a3))
            have X3 := Lib.hid (show BB (w3.alloc (.cells #[.int .i16 b.c, .int .u8 b.m0, .int .u8 b.m1, .int .u8 b.m2, .int .i16 b.v, .int .i16 b.wi, .int .i16 b.hi, .int .i16 b.we] 25)) w3.heap.size b from heap_alloc_new w3 _)
            clear h3 a3 p0
            go_upto_region 19 with (fail)
            generalize World.alloc _ _ = W3 at M3 X3 ⊢
            have c0 := X3.out.c0
            have c1 := X3.out.c1
            have c2 := X3.out.c2
            have c3 := X3.out.c3
            have c4 := X3.out.c4
            have c5 := X3.out.c5
            have c6 := X3.out.c6
            have c7 := X3.out.c7
            have x1 := M3.out.bx.c1
            have M4 := Lib.hid (M3.out.nx ((Below.refl W3.heap.size W3).alloc (Nat.le_refl _) (.cells #[.int .i16 a, .int .i16 b.c, .int .u8 b.m0, .int .u8 b.m1, .int .u8 b.m2, .int .i16 b.v, .int .i16 b.wi, .int .i16 b.hi, .int .i16 b.we] 99)))
            have zl : gb < W3.heap.size := M3.out.bx.lt
            have psl : ps.length ≤ 1048577 := by have := KE.out; omega
            go_wp2_with (at_builtin; refine wpList_append_own _ rfl (.tmp 113) (.tmp 118) _ rfl (gb + 1) 99 i0 (.agg #[.int .i16 0, .int .i16 0, .int .u8 0, .int .u8 0, .int .u8 0, .int .i16 0, .int .i16 0, .int .i16 0, .int .i16 0]) 9 16 Tryd.underlying58 hi0 hz0 hz1 hz2 rfl (by decide) _ _ _ rfl M4.out.ow ⟨W3.heap.size, 0, none⟩ 1 1 [.int .i16 a, .int .i16 b.c, .int .u8 b.m0, .int .u8 b.m1, .int .u8 b.m2, .int .i16 b.v, .int .i16 b.wi, .int .i16 b.hi, .int .i16 b.we] rfl rfl (cell9r _ _ _ _ _ _ _ _ _ _ _) (one9r ⟨a, b⟩) (by unfold maxLen; omega) (by omega) (by simp; omega) ?_)
            intro v4 w4 hown4 hgrow4 _
            obtain ⟨A6, cap6, rfl⟩ := rkSl hown4
            have x4 := (M4.out.bx.kept hgrow4 (fun e => by have := (M4.out.ow.lt _ e.symm).1; omega)).c1
            have f4 := (M4.out.bx.kept hgrow4 (fun e => by have := (M4.out.ow.lt _ e.symm).1; omega)).fz
            have M6 := Lib.hid (M4.out.ap hgrow4 (ps' := ps ++ [⟨a, b⟩]) (hv' := .slice A6 (ps.length + 1) cap6) (by rw [flN_snoc, List.length_append]; exact hown4))
            have TK3 := Lib.hid (show ws.take (k + 1) = dec n :: (ps ++ [(⟨a, b⟩ : Pl)]).map plTx from by
              rw [TK2.out, TK.out, PX.out, List.map_append]
              rfl)
            have OK3 := Lib.hid (show ∀ x ∈ ps ++ [(⟨a, b⟩ : Pl)], PlOk x from fun x hx => by
              rcases List.mem_append.1 hx with h | h
              · exact OKS.out x h
              · rw [List.mem_singleton] at h
                rw [h]
                exact ⟨hab, HB2.out.ok⟩)
            clear hown4 hgrow4 c0 c1 c2 c3 c4 c5 c6 c7 x1
            go_wp2
            go_roundw
            case rel => exact ⟨ps ++ [⟨a, b⟩], _, k + 1, by rw [List.length_append, List.length_singleton, KE.out], by omega, by go_num, TK3.out, OK3.out, M6.out⟩
            case measure => simp [intOf]; omega
          · have b1 : ((S[j].toNat : Int) == 32) = false := by
              simp only [beq_eq_false_iff_ne, ne_eq]
              exact fun h => h32 (UInt8.toNat_inj.1 (by have : (32 : UInt8).toNat = 32 := rfl; omega))
            have b2 : ((S[j].toNat : Int) != 32) = true := by rw [bne, b1]; rfl
            have N1 := Lib.hid (show ∀ i (hi : i < S.size), i < j + 1 → S[i] ≠ 32 from fun i hi h => by
              by_cases e : i = j
              · subst e; exact h32
              · exact NOJ.out i hi (by omega))
            clear h32
            go_wp2
            go_roundw
            case rel => exact ⟨j + 1, by omega, by go_num, N1.out, by first | exact rfl | trivial⟩
            case measure => simp [intOf]; omega
        · have ej : j = S.size := by omega
          have l1 : decide ((j : Int) < (S.size : Int)) = false := decide_eq_false (by omega)
          have l2 : decide (j < S.size) = false := decide_eq_false (by omega)
          have q1 : ((j : Int) == (S.size : Int)) = true := by rw [ej]; simp
          have q2 : (j == S.size) = true := by rw [ej]; simp
          have q3 : (j = S.size) = True := eq_true ej
          have NO := Lib.hid (rr_no (L := T.data.toList) (fun r e => by
            obtain ⟨x, hx, e2⟩ := LW.out X rfl r e
            have h := (pl_first e2 (by rw [← SZ.out]; exact hj) NJ.out (.inl (by rw [← SZ.out]; exact ej))).1
            rw [← SZ.out] at h
            omega))
          clear ej hjl
          go_wp2_with fail
          refine (l01Number_any (S.extract 0 j) EZ.out _).mono ?_
          rintro e w' ⟨a, one, rfl, -, rfl⟩
          have XO := Lib.hid (X1.out.of HGB.out MM.out)
          cases one
          · skip
            have r0 := XO.out.rb.c0
            have r1 := XO.out.rb.c1
            have fz := XO.out.rb.fz
            have PR := Lib.hid (XO.out.rb.all 0 (.slice none 0 0))
            have GR := Lib.hid (XO.out.bl.grown (grR w.heap.size 0 (.slice none 0 0)) XO.out.bl.size (fun k hk => by injection hk with hk; omega))
            have OR := Lib.hid (show ((wo.setCell ⟨w.heap.size, 0, none⟩ (.int .i16 0)).setCell ⟨w.heap.size, 1, none⟩ (.slice none 0 0)).ownsRow w.heap.size 99 9 (.slice none 0 0) (rrV T.data.toList).ps.length (flN Pl.cells (rrV T.data.toList).ps) from by rw [NO.out.1]; exact ⟨rfl, .inl ⟨rfl, rfl⟩⟩)
            go_wp2
            have q0' := PR.out.c0
            have q1' := PR.out.c1
            exact bodyPost_ret (v := .tuple #[.agg #[.int .i16 0, (.slice none 0 0)], .int .i64 5]) (by simp [results, Tryd.results36, go_sem, q0', q1']) rfl (readsRk_mk (.slice none 0 0) (by rw [NO.out.1, NO.out.2]; rfl) OR.out GR.out)
          by_cases hge : n ≤ a
          · have g1 : decide (n ≤ a) = true := decide_eq_true hge
            clear hge
            have r0 := XO.out.rb.c0
            have r1 := XO.out.rb.c1
            have fz := XO.out.rb.fz
            have PR := Lib.hid (XO.out.rb.all 0 (.slice none 0 0))
            have GR := Lib.hid (XO.out.bl.grown (grR w.heap.size 0 (.slice none 0 0)) XO.out.bl.size (fun k hk => by injection hk with hk; omega))
            have OR := Lib.hid (show ((wo.setCell ⟨w.heap.size, 0, none⟩ (.int .i16 0)).setCell ⟨w.heap.size, 1, none⟩ (.slice none 0 0)).ownsRow w.heap.size 99 9 (.slice none 0 0) (rrV T.data.toList).ps.length (flN Pl.cells (rrV T.data.toList).ps) from by rw [NO.out.1]; exact ⟨rfl, .inl ⟨rfl, rfl⟩⟩)
            go_wp2
            have q0' := PR.out.c0
            have q1' := PR.out.c1
            exact bodyPost_ret (v := .tuple #[.agg #[.int .i16 0, (.slice none 0 0)], .int .i64 5]) (by simp [results, Tryd.results36, go_sem, q0', q1']) rfl (readsRk_mk (.slice none 0 0) (by rw [NO.out.1, NO.out.2]; rfl) OR.out GR.out)
          · have g1 : decide (n ≤ a) = false := decide_eq_false hge
            clear hge
            have r0 := XO.out.rb.c0
            have r1 := XO.out.rb.c1
            have fz := XO.out.rb.fz
            have PR := Lib.hid (XO.out.rb.all 0 (.slice none 0 0))
            have GR := Lib.hid (XO.out.bl.grown (grR w.heap.size 0 (.slice none 0 0)) XO.out.bl.size (fun k hk => by injection hk with hk; omega))
            have OR := Lib.hid (show ((wo.setCell ⟨w.heap.size, 0, none⟩ (.int .i16 0)).setCell ⟨w.heap.size, 1, none⟩ (.slice none 0 0)).ownsRow w.heap.size 99 9 (.slice none 0 0) (rrV T.data.toList).ps.length (flN Pl.cells (rrV T.data.toList).ps) from by rw [NO.out.1]; exact ⟨rfl, .inl ⟨rfl, rfl⟩⟩)
            go_wp2
            have q0' := PR.out.c0
            have q1' := PR.out.c1
            exact bodyPost_ret (v := .tuple #[.agg #[.int .i16 0, (.slice none 0 0)], .int .i64 5]) (by simp [results, Tryd.results36, go_sem, q0', q1']) rfl (readsRk_mk (.slice none 0 0) (by rw [NO.out.1, NO.out.2]; rfl) OR.out GR.out)
    · have ek : k = m := by omega
      have EW := Lib.hid (show ws = dec n :: (ps.map plTx ++ [[]]) by
        have h1 := List.take_append_drop m ws
        have h2 : ws.drop m = [[]] := by
          rw [List.drop_eq_getElem_cons (by have := HN.out; omega), HX0.out, List.drop_eq_nil_of_le (by have := HM.out; omega)]
        rw [← h1, h2, ← ek, TK.out]
        rfl)
      have gl : decide (k < m) = false := decide_eq_false hlt
      have psl : ps.length ≤ 1048577 := by have := KE.out; omega
      have LK := Lib.hid (l05Ok_any ⟨n, ps⟩ (.slice A5 ps.length cap5) ⟨by have := NB.out; dsimp only; omega, fun x hx => plOk_wf (OKS.out x hx)⟩ gb 0 wr MM.out.at (by unfold maxLen; dsimp only; omega))
      clear ek hlt
      go_wp2_with fail
      refine LK.out.mono ?_
      rintro e w6 ⟨rfl, h6⟩
      have M6 := Lib.hid (MM.out.nx h6)
      have X6 := Lib.hid (X1.out.of HGB.out M6.out)
      clear h6 LK
      cases hvr : rkB ⟨n, ps⟩
      · have NO := Lib.hid (rr_no (rk_none (by rw [← WS.out]; exact EW.out) (by have := NB.out; omega) OKS.out hvr))
        clear hvr
        have r0 := X6.out.rb.c0
        have r1 := X6.out.rb.c1
        have fz := X6.out.rb.fz
        have PR := Lib.hid (X6.out.rb.all 0 (.slice none 0 0))
        have GR := Lib.hid (X6.out.bl.grown (grR w.heap.size 0 (.slice none 0 0)) X6.out.bl.size (fun k hk => by injection hk with hk; omega))
        have OR := Lib.hid (show ((w6.setCell ⟨w.heap.size, 0, none⟩ (.int .i16 0)).setCell ⟨w.heap.size, 1, none⟩ (.slice none 0 0)).ownsRow w.heap.size 99 9 (.slice none 0 0) (rrV T.data.toList).ps.length (flN Pl.cells (rrV T.data.toList).ps) from by rw [NO.out.1]; exact ⟨rfl, .inl ⟨rfl, rfl⟩⟩)
        go_wp2
        have q0' := PR.out.c0
        have q1' := PR.out.c1
        exact bodyPost_ret (v := .tuple #[.agg #[.int .i16 0, (.slice none 0 0)], .int .i64 5]) (by simp [results, Tryd.results36, go_sem, q0', q1']) rfl (readsRk_mk (.slice none 0 0) (by rw [NO.out.1, NO.out.2]; rfl) OR.out GR.out)
      · have YE := Lib.hid (rr_yes (rc_of_split hvr (by rw [← WS.out]; exact EW.out)))
        clear hvr
        have c0 := M6.out.bx.c0
        have c1 := M6.out.bx.c1
        have r0 := X6.out.rb.c0
        have r1 := X6.out.rb.c1
        have fz := X6.out.rb.fz
        have hwg : w.heap.size < gb := by have := X1.out.rb.lt; have := HGB.out; omega
        have PR := Lib.hid (X6.out.rb.all n (.slice A5 ps.length cap5))
        have GR := Lib.hid (X6.out.bl.grown (grR w.heap.size n (.slice A5 ps.length cap5)) X6.out.bl.size (fun k hk => by injection hk with hk; omega))
        have OR := Lib.hid (show ((w6.setCell ⟨w.heap.size, 0, none⟩ (.int .i16 n)).setCell ⟨w.heap.size, 1, none⟩ (.slice A5 ps.length cap5)).ownsRow w.heap.size 99 9 (.slice A5 ps.length cap5) (rrV T.data.toList).ps.length (flN Pl.cells (rrV T.data.toList).ps) from by rw [YE.out.1]; exact ownMono (ownOther M6.out.ow (grR w.heap.size n (.slice A5 ps.length cap5)) (fun k hk e => by have := (M6.out.ow.lt k hk).1; injection e with e; omega)) (by omega))
        go_wp2
        have q0' := PR.out.c0
        have q1' := PR.out.c1
        exact bodyPost_ret (v := .tuple #[.agg #[.int .i16 n, (.slice A5 ps.length cap5)], .int .i64 0]) (by simp [results, Tryd.results36, go_sem, q0', q1']) rfl (readsRk_mk (.slice A5 ps.length cap5) (by rw [YE.out.1, YE.out.2]) OR.out GR.out)
end Go.Proofs.YtkojnepgeegalaaDoor
