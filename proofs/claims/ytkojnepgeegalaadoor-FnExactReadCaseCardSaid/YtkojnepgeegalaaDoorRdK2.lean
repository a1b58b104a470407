/- ReadCase, by the model: a contract. Condition: a text no longer than told. -/
import Derived.Test.YtkojnepgeegalaaDoorRdK1
import Derived.Test.YtkojnepgeegalaaDoorRdT3
namespace Go.Proofs.YtkojnepgeegalaaDoor
set_option linter.unusedSimpArgs false
set_option linter.unusedVariables false
set_option maxRecDepth 100000
open Go.RowKit

def n0 (ns : List Int) : Int := ns.getD 0 0
def n1 (ns : List Int) : Int := ns.getD 1 0
theorem ns_0 {ns : List Int} (h : ns.length = 0) (z : Int) : n0 (ns ++ [z]) = z ∧ n1 (ns ++ [z]) = n1 ns ∧ (ns ++ [z]).drop 2 = ns.drop 2 := by
  match ns, h with
  | [], _ => exact ⟨rfl, rfl, rfl⟩
theorem ns_1 {ns : List Int} (h : ns.length = 1) (z : Int) : n0 (ns ++ [z]) = n0 ns ∧ n1 (ns ++ [z]) = z ∧ (ns ++ [z]).drop 2 = ns.drop 2 := by
  match ns, h with
  | [a], _ => exact ⟨rfl, rfl, rfl⟩
theorem ns_2 {ns : List Int} (h : 2 ≤ ns.length) (z : Int) : n0 (ns ++ [z]) = n0 ns ∧ n1 (ns ++ [z]) = n1 ns ∧ (ns ++ [z]).drop 2 = ns.drop 2 ++ [z] := by
  match ns, h with
  | a :: b :: t, _ => exact ⟨rfl, rfl, rfl⟩
/-- The numbers that have been read keep their bounds. -/
def NOk (ns : List Int) : Prop := ∀ (j : Nat) (hj : j < ns.length), 0 ≤ ns[j] ∧ ns[j] ≤ 200000 ∧ (j ≠ 1 → ns[j] ≤ 2000)
theorem NOk.snoc {ns : List Int} (h : NOk ns) {z : Int} (h0 : 0 ≤ z) (h1 : z ≤ 200000) (h2 : ns.length ≠ 1 → z ≤ 2000) : NOk (ns ++ [z]) := by
  intro j hj
  by_cases e : j < ns.length
  · rw [List.getElem_append_left e]; exact h j e
  · have e2 : j = ns.length := by rw [List.length_append, List.length_singleton] at hj; omega
    subst e2
    rw [List.getElem_append_right (Nat.le_refl _)]
    simp only [Nat.sub_self, List.getElem_cons_zero]
    exact ⟨h0, h1, h2⟩
theorem NOk.wf {ns : List Int} (h : NOk ns) : (⟨n0 ns, n1 ns, ns.drop 2⟩ : Cs).Wf := by
  have g : ∀ j, 0 ≤ ns.getD j 0 ∧ ns.getD j 0 ≤ 200000 ∧ (j ≠ 1 → ns.getD j 0 ≤ 2000) := fun j => by
    by_cases e : j < ns.length
    · have := h j e
      rw [List.getD_eq_getElem?_getD, List.getElem?_eq_getElem e]
      exact this
    · rw [List.getD_eq_getElem?_getD, List.getElem?_eq_none (by omega)]
      simp
  refine ⟨?_, ?_, fun x hx => ?_⟩
  · have := g 0
    have h2 := this.2.2 (by decide)
    show -32768 ≤ ns.getD 0 0 ∧ ns.getD 0 0 ≤ 32767
    omega
  · have := g 1
    show -2147483648 ≤ ns.getD 1 0 ∧ ns.getD 1 0 ≤ 2147483647
    omega
  · obtain ⟨j, hj, e⟩ := List.getElem_of_mem hx
    rw [List.getElem_drop] at e
    have := h (2 + j) (by rw [List.length_drop] at hj; omega)
    rw [e] at this
    have h2 := this.2.2 (by omega)
    omega
theorem NOk.nn {ns : List Int} (h : NOk ns) : ∀ z ∈ ns, 0 ≤ z := fun z hz => by
  obtain ⟨j, hj, e⟩ := List.getElem_of_mem hz
  have := (h j hj).1
  rw [e] at this
  exact this
theorem cs_word {L : List UInt8} {ws : List (List UInt8)} {k : Nat} (hW : ws = splitL 32 L) (hk : k < ws.length) {X : List UInt8} (hX : ws[k] = X) {c : Cs} (h : CsP L c) : ∃ z, X = dec z ∧ 0 ≤ z ∧ z ≤ 200000 ∧ (k ≠ 1 → z ≤ 2000) := by
  have e := hW.trans h.split
  have hl : k < ([c.wi, c.lo] ++ c.hs).length := by have := congrArg List.length e; rw [List.length_map] at this; omega
  obtain ⟨h1, h2, _, h4⟩ := caseB_in h.ok
  refine ⟨([c.wi, c.lo] ++ c.hs)[k], ?_, h.all _ (List.getElem_mem hl), ?_⟩
  · rw [← hX]; simp only [e, List.getElem_map]
  · match k, hl with
    | 0, _ => exact ⟨by show c.wi ≤ 200000; omega, fun _ => h1.2⟩
    | 1, _ => exact ⟨h2.2, fun e => absurd rfl e⟩
    | k + 2, hl =>
      have : c.hs[k]'(by simpa using hl) ≤ 1000 := (h4 _ (List.getElem_mem _)).2
      exact ⟨by show c.hs[k]'(by simpa using hl) ≤ 200000; omega, fun _ => by show c.hs[k]'(by simpa using hl) ≤ 2000; omega⟩
theorem num_fail4 {p : List UInt8} {n most : Int} {ok : Bool} (hm : most ≤ 999999) (h : NumS p n ok) (hf : ok = false ∨ most < n) {z : Int} (h0 : 0 ≤ z) (h1 : z ≤ most) (e : p = dec z) : False := by
  rcases h with ⟨k1, k2, k3, _⟩ | ⟨_, _, k3⟩
  · rcases hf with k | k
    · rw [k1] at k; cases k
    · have := dec_inj k2 h0 (k3.symm.trans e)
      omega
  · have := k3 z h0 e
    rw [e] at this
    have := dec_short (z := z) (by omega)
    omega
theorem cs_done {L : List UInt8} {ws : List (List UInt8)} {ns : List Int} (hW : ws = splitL 32 L) (hn : ws = ns.map dec) (ok : NOk ns) : (caseB ⟨n0 ns, n1 ns, ns.drop 2⟩ = true ∧ CsP L ⟨n0 ns, n1 ns, ns.drop 2⟩) ∨ (caseB ⟨n0 ns, n1 ns, ns.drop 2⟩ = false ∧ ∀ c, ¬ CsP L c) := by
  have hform : 2 ≤ ns.length → ns = [n0 ns, n1 ns] ++ ns.drop 2 := fun h => by
    match ns, h with
    | a :: b :: t, _ => rfl
  cases hv : caseB ⟨n0 ns, n1 ns, ns.drop 2⟩
  · refine .inr ⟨rfl, fun c hp => ?_⟩
    have e := map_dec_inj ns _ ok.nn hp.all (hn.symm.trans (hW.trans hp.split))
    have ec : (⟨n0 ns, n1 ns, ns.drop 2⟩ : Cs) = c := by
      rw [e]
      rfl
    rw [ec, hp.ok] at hv
    cases hv
  · refine .inl ⟨rfl, hv, ?_⟩
    have h3 := (caseB_in hv).2.2.1.1
    have h2 : 2 ≤ ns.length := by
      have h3 : 1 ≤ (ns.drop 2).length := h3
      rw [List.length_drop] at h3
      omega
    show L = joinL 32 (([n0 ns, n1 ns] ++ ns.drop 2).map dec)
    rw [← hform h2, ← hn, hW, join_split]
set_option maxHeartbeats 8000000 in
theorem specReadCase_any (T : ByteArray) (hT : T.size ≤ 1048576) (w : World) :
    Calls Tryd.prog 31 #[.string T] w (ReadsCs (rcV T.data.toList) (rcK T.data.toList) w) := by
  obtain ⟨i0, hi0, hz0, hz1, hz2⟩ := info_parts infoI16
  have B0 := Lib.hid (show Below w.heap.size w (w.alloc (.cells #[.int .i16 0, .int .i32 0, (.slice none 0 0)] 53)) from (Below.refl _ _).alloc (Nat.le_refl _) _)
  have R0 := Lib.hid (show KB (w.alloc (.cells #[.int .i16 0, .int .i32 0, (.slice none 0 0)] 53)) w.heap.size 0 0 (.slice none 0 0) from heap_alloc_new w _)
  go_enter Tryd.func31, Tryd.ntmps31
  go_upto_region 1 with (fail)
  generalize World.alloc _ _ = W0 at B0 R0 ⊢
  go_wp2_with fail
  refine (l01Split_any T hT 32 W0).mono ?_
  rintro e w1 ⟨u, rfl, ho1, h1⟩
  obtain ⟨ws, ews⟩ : ∃ ws, ws = splitL 32 T.data.toList := ⟨_, rfl⟩
  rw [← ews] at ho1
  have WS := Lib.hid ews
  have B1 := Lib.hid (bnext B0.out h1)
  have R1 := Lib.hid (R0.out.below h1)
  have zr1 : w.heap.size < w1.heap.size := R1.out.lt
  have hlen : ws.length ≤ 1048577 := by rw [ews]; exact Nat.le_trans (splitL_len 32 _) (by rw [Array.length_toList]; exact Nat.succ_le_succ hT)
  have HWL := Lib.hid (show ∀ v ∈ ws, v.length ≤ 1048576 from fun v hv => by rw [ews] at hv; exact Nat.le_trans (split_word_len 32 _ v hv) (by rw [Array.length_toList]; exact hT))
  have hn0 : 0 < ws.length := by
    have : ws ≠ [] := by rw [ews]; exact splitL_ne _ _
    exact Nat.pos_of_ne_zero (fun e => this (List.eq_nil_of_length_eq_zero e))
  obtain ⟨As, cs, es, hsa⟩ := ownStrs ho1 rfl
  subst es
  obtain ⟨ga, oa, rfl, hga, hat⟩ := hsa hn0
  have HAT := Lib.hid hat
  obtain ⟨n, hn⟩ : ∃ n, ws.length = n := ⟨_, rfl⟩
  rw [hn] at hlen hn0 ⊢
  have HN := Lib.hid hn
  have b2 := (Below.refl w1.heap.size w1).alloc (Nat.le_refl _) (.cells #[.int .i16 0, .int .i32 0, (.slice none 0 0)] 53)
  have B2 := Lib.hid b2
  have K2 := Lib.hid (show KB (w1.alloc (.cells #[.int .i16 0, .int .i32 0, (.slice none 0 0)] 53)) w1.heap.size 0 0 (.slice none 0 0) from heap_alloc_new w1 _)
  clear ho1 h1 ews hsa hat hn b2
  go_upto_region 3 with (fail)
  generalize w1.alloc _ = W2 at B2 K2 ⊢
  go_wp2
  go_loopw [6] (fun i_ wr => ∃ (k : Nat) (ns ds : List Int) (hv : Value), k = ns.length ∧ ds = ns.drop 2 ∧ k ≤ n ∧ i_ = .int .i64 (k : Int) ∧ ws.take k = ns.map dec ∧ NOk ns ∧ KB wr w1.heap.size (n0 ns) (n1 ns) hv ∧ wr.ownsRow (w1.heap.size + 1) 22 1 hv ds.length (ds.map (Value.int .i16)) ∧ Below w1.heap.size w1 wr) (fun i_ _ => n - (intOf i_).toNat)
  case atStart => exact ⟨0, [], [], (.slice none 0 0), rfl, rfl, Nat.zero_le _, rfl, rfl, fun j hj => absurd hj (Nat.not_lt_zero _), K2.out, ⟨rfl, .inl ⟨rfl, rfl⟩⟩, B2.out⟩
  case round =>
    obtain ⟨k, ns, ds, hv, hkl, hds, hk, rfl, htk, hok, hkb, hown, hb⟩ := hrel
    obtain ⟨Ah, ch, rfl⟩ := own_sl hown
    have KL := Lib.hid hkl
    have DS := Lib.hid hds
    have TK := Lib.hid htk
    have NK := Lib.hid hok
    have KX := Lib.hid hkb
    have OW := Lib.hid hown
    have HB := Lib.hid hb
    have zb := hb.size
    have zk : w1.heap.size < wr.heap.size := hkb.lt
    have RX := Lib.hid (show KB wr w.heap.size 0 0 (.slice none 0 0) from (hb.block _ zr1).trans R1.out)
    have BX := Lib.hid (B1.out.trans (hb.mono (Nat.le_of_lt zr1)))
    have hdl : ds.length ≤ k := by rw [hds, List.length_drop]; omega
    clear hkl hds htk hok hkb hown hb
    by_cases hlt : k < n
    · have hltw : k < ws.length := by have := HN.out; omega
      have p0 := (HB.out.cell (p := ⟨ga, oa + k, none⟩) hga).trans (HAT.out k hltw)
      unfold strV at p0
      have hin : (k : Int) < (n : Int) := by omega
      have HXL := Lib.hid (HWL.out _ (List.getElem_mem hltw))
      have MW := Lib.hid (fun (X : List UInt8) (hX : ws[k] = X) (c : Cs) (h : CsP T.data.toList c) => cs_word WS.out hltw hX h)
      have TK2 := Lib.hid (show ∀ z, ws[k] = dec z → ws.take (k + 1) = (ns ++ [z]).map dec from fun z hm => by
        rw [List.take_add_one, List.getElem?_eq_getElem hltw, hm, TK.out, List.map_append]
        rfl)
      generalize ws[k] = X at p0 HXL MW TK2
      go_wp2_with fail
      refine (l01Number_any (strOf X) (by rw [strOf_size]; exact HXL.out) wr).mono ?_
      rintro e w' ⟨z, ok, rfl, hn, rfl⟩
      have HN2 := Lib.hid (show NumS X z ok by have h := hn; rwa [show (strOf X).data.toList = X by simp [strOf]] at h)
      clear hn p0
      cases ok
      · have NO := Lib.hid (rc_no (L := T.data.toList) (fun c h => by
          obtain ⟨v, e1, e2, e3, _⟩ := MW.out X rfl c h
          exact num_fail4 (by omega) HN2.out (.inl rfl) e2 e3 e1))
        have r0 := RX.out.c0
        have r1 := RX.out.c1
        have r2 := RX.out.c2
        have fz := RX.out.fz
        have PR := Lib.hid (RX.out.all 0 0 (.slice none 0 0))
        have GR := Lib.hid (BX.out.grown (grK w.heap.size 0 0 (.slice none 0 0)) BX.out.size (fun k hk => by injection hk with hk; omega))
        have OR := Lib.hid (show (((wr.setCell ⟨w.heap.size, 0, none⟩ (.int .i16 0)).setCell ⟨w.heap.size, 1, none⟩ (.int .i32 0)).setCell ⟨w.heap.size, 2, none⟩ (.slice none 0 0)).ownsRow w.heap.size 22 1 (.slice none 0 0) (rcV T.data.toList).hs.length ((rcV T.data.toList).hs.map (Value.int .i16)) from by rw [NO.out.1]; exact ⟨rfl, .inl ⟨rfl, rfl⟩⟩)
        go_wp2
        have q0' := PR.out.c0
        have q1' := PR.out.c1
        have q2' := PR.out.c2
        exact bodyPost_ret (v := .tuple #[.agg #[.int .i16 0, .int .i32 0, (.slice none 0 0)], .int .i64 5]) (by simp [results, Tryd.results31, go_sem, q0', q1', q2']) rfl (readsCs_mk (.slice none 0 0) (by rw [NO.out.1, NO.out.2]; rfl) OR.out GR.out)
      by_cases hbig : 200000 < z
      · have gb : decide (200000 < z) = true := decide_eq_true hbig
        have NO := Lib.hid (rc_no (L := T.data.toList) (fun c h => by
          obtain ⟨v, e1, e2, e3, _⟩ := MW.out X rfl c h
          exact num_fail4 (by omega) HN2.out (.inr hbig) e2 e3 e1))
        clear hbig
        have r0 := RX.out.c0
        have r1 := RX.out.c1
        have r2 := RX.out.c2
        have fz := RX.out.fz
        have PR := Lib.hid (RX.out.all 0 0 (.slice none 0 0))
        have GR := Lib.hid (BX.out.grown (grK w.heap.size 0 0 (.slice none 0 0)) BX.out.size (fun k hk => by injection hk with hk; omega))
        have OR := Lib.hid (show (((wr.setCell ⟨w.heap.size, 0, none⟩ (.int .i16 0)).setCell ⟨w.heap.size, 1, none⟩ (.int .i32 0)).setCell ⟨w.heap.size, 2, none⟩ (.slice none 0 0)).ownsRow w.heap.size 22 1 (.slice none 0 0) (rcV T.data.toList).hs.length ((rcV T.data.toList).hs.map (Value.int .i16)) from by rw [NO.out.1]; exact ⟨rfl, .inl ⟨rfl, rfl⟩⟩)
        go_wp2
        have q0' := PR.out.c0
        have q1' := PR.out.c1
        have q2' := PR.out.c2
        exact bodyPost_ret (v := .tuple #[.agg #[.int .i16 0, .int .i32 0, (.slice none 0 0)], .int .i64 5]) (by simp [results, Tryd.results31, go_sem, q0', q1', q2']) rfl (readsCs_mk (.slice none 0 0) (by rw [NO.out.1, NO.out.2]; rfl) OR.out GR.out)
      have gb : decide (200000 < z) = false := decide_eq_false hbig
      have hd : 0 ≤ z ∧ X = dec z := by
        rcases HN2.out with ⟨_, h1, h2, _⟩ | ⟨h, _⟩
        · exact ⟨h1, h2⟩
        · cases h
      by_cases hk1 : k = 1
      · -- the load
        have bk1 : ((k : Int) != 1) = false := by simp; omega
        have bk1' : (k != 1) = false := by simp; omega
        have bz : ((k : Int) == 0) = false := by rw [beq_eq_false_iff_ne]; omega
        have bz' : (k == 0) = false := by rw [beq_eq_false_iff_ne]; omega
        have bo : ((k : Int) == 1) = true := by rw [beq_iff_eq]; omega
        have bo' : (k == 1) = true := by rw [beq_iff_eq]; omega
        have S := ns_1 (KL.out.symm.trans hk1) z
        have SK := Lib.hid (NK.out.snoc hd.1 (by omega) (fun e => absurd (KL.out.symm.trans hk1) e))
        have TK3 := Lib.hid (TK2.out z hd.2)
        have hw : IntKind.i32.wrap z = z := IntWalk.i32_in _ (by omega)
        have c1 := KX.out.c1
        have fz := KX.out.fz 1
        have K3 := Lib.hid (show KB (wr.setCell ⟨w1.heap.size, 1, none⟩ (.int .i32 z)) w1.heap.size (n0 (ns ++ [z])) (n1 (ns ++ [z])) (.slice Ah ds.length ch) from by rw [S.1, S.2.1]; exact KX.out.s1 z)
        have D3 := Lib.hid (show ds = (ns ++ [z]).drop 2 from by rw [S.2.2]; exact DS.out)
        have O3 := Lib.hid (ownOther OW.out ((Gr.refl w1.heap.size wr).set 1 (.int .i32 z)) (fun k hk e => by have := (OW.out.lt k hk).1; injection e with e; omega))
        have B3 := Lib.hid (HB.out.grown ((Gr.refl w1.heap.size wr).set 1 (.int .i32 z)) HB.out.size (fun k hk => by injection hk with hk; omega))
        have E3 := Lib.hid (show k + 1 = (ns ++ [z]).length from by rw [List.length_append, List.length_singleton, ← KL.out])
        clear hbig hd S hk1
        go_wp2
        exact ⟨⟨k + 1, ns ++ [z], ds, .slice Ah ds.length ch, E3.out, D3.out, by omega, by go_num, TK3.out, SK.out, K3.out, O3.out, B3.out⟩, by simp only [intOf]; omega⟩
      have bk1 : ((k : Int) != 1) = true := by simp; omega
      have bk1' : (k != 1) = true := by simp; omega
      have bo : ((k : Int) == 1) = false := by rw [beq_eq_false_iff_ne]; omega
      have bo' : (k == 1) = false := by rw [beq_eq_false_iff_ne]; omega
      by_cases hmid : 2000 < z
      · have gm : decide (2000 < z) = true := decide_eq_true hmid
        have NO := Lib.hid (rc_no (L := T.data.toList) (fun c h => by
          obtain ⟨v, e1, e2, _, e3⟩ := MW.out X rfl c h
          exact num_fail4 (by omega) HN2.out (.inr hmid) e2 (e3 hk1) e1))
        clear hbig hmid hd hk1
        have r0 := RX.out.c0
        have r1 := RX.out.c1
        have r2 := RX.out.c2
        have fz := RX.out.fz
        have PR := Lib.hid (RX.out.all 0 0 (.slice none 0 0))
        have GR := Lib.hid (BX.out.grown (grK w.heap.size 0 0 (.slice none 0 0)) BX.out.size (fun k hk => by injection hk with hk; omega))
        have OR := Lib.hid (show (((wr.setCell ⟨w.heap.size, 0, none⟩ (.int .i16 0)).setCell ⟨w.heap.size, 1, none⟩ (.int .i32 0)).setCell ⟨w.heap.size, 2, none⟩ (.slice none 0 0)).ownsRow w.heap.size 22 1 (.slice none 0 0) (rcV T.data.toList).hs.length ((rcV T.data.toList).hs.map (Value.int .i16)) from by rw [NO.out.1]; exact ⟨rfl, .inl ⟨rfl, rfl⟩⟩)
        go_wp2
        have q0' := PR.out.c0
        have q1' := PR.out.c1
        have q2' := PR.out.c2
        exact bodyPost_ret (v := .tuple #[.agg #[.int .i16 0, .int .i32 0, (.slice none 0 0)], .int .i64 5]) (by simp [results, Tryd.results31, go_sem, q0', q1', q2']) rfl (readsCs_mk (.slice none 0 0) (by rw [NO.out.1, NO.out.2]; rfl) OR.out GR.out)
      have gm : decide (2000 < z) = false := decide_eq_false hmid
      have hw : IntKind.i16.wrap z = z := IntWalk.i16_in _ (by omega)
      have SK := Lib.hid (NK.out.snoc hd.1 (by omega) (fun _ => by omega))
      have TK3 := Lib.hid (TK2.out z hd.2)
      have E3 := Lib.hid (show k + 1 = (ns ++ [z]).length from by rw [List.length_append, List.length_singleton, ← KL.out])
      by_cases hk0 : k = 0
      · have bz : ((k : Int) == 0) = true := by rw [beq_iff_eq]; omega
        have bz' : (k == 0) = true := by rw [beq_iff_eq]; omega
        have S := ns_0 (KL.out.symm.trans hk0) z
        have c0 := KX.out.c0
        have fz := KX.out.fz 0
        have K3 := Lib.hid (show KB (wr.setCell ⟨w1.heap.size, 0, none⟩ (.int .i16 z)) w1.heap.size (n0 (ns ++ [z])) (n1 (ns ++ [z])) (.slice Ah ds.length ch) from by rw [S.1, S.2.1]; exact KX.out.s0 z)
        have D3 := Lib.hid (show ds = (ns ++ [z]).drop 2 from by rw [S.2.2]; exact DS.out)
        have O3 := Lib.hid (ownOther OW.out ((Gr.refl w1.heap.size wr).set 0 (.int .i16 z)) (fun k hk e => by have := (OW.out.lt k hk).1; injection e with e; omega))
        have B3 := Lib.hid (HB.out.grown ((Gr.refl w1.heap.size wr).set 0 (.int .i16 z)) HB.out.size (fun k hk => by injection hk with hk; omega))
        clear hbig hmid hd S hk1 hk0
        go_wp2
        exact ⟨⟨k + 1, ns ++ [z], ds, .slice Ah ds.length ch, E3.out, D3.out, by omega, by go_num, TK3.out, SK.out, K3.out, O3.out, B3.out⟩, by simp only [intOf]; omega⟩
      have bz : ((k : Int) == 0) = false := by rw [beq_eq_false_iff_ne]; omega
      have bz' : (k == 0) = false := by rw [beq_eq_false_iff_ne]; omega
      have S2 := ns_2 (ns := ns) (by have := KL.out; omega) z
      have S := Lib.hid S2
      have c2 := KX.out.c2
      have OX := Lib.hid (show (wr.alloc (.cells #[.int .i16 z] 22)).ownsRow (w1.heap.size + 1) 22 1 (.slice Ah ds.length ch) ds.length (ds.map (Value.int .i16)) from OW.out.alloc _)
      have KY := Lib.hid (KX.out.below ((Below.refl wr.heap.size wr).alloc (Nat.le_refl _) (.cells #[.int .i16 z] 22)))
      have BY := Lib.hid (HB.out.alloc zb (.cells #[.int .i16 z] 22))
      clear hbig hmid hd hk1 hk0 S2
      go_wp2_with (at_builtin; refine wpList_append_own _ rfl (.tmp 43) (.tmp 46) _ rfl (w1.heap.size + 1) 22 i0 (.int .i16 0) 1 2 Tryd.underlying51 hi0 hz0 hz1 hz2 rfl (by decide) _ _ _ rfl OX.out ⟨wr.heap.size, 0, none⟩ 1 1 [.int .i16 z] rfl rfl (cellNew1 wr _ _) (by intro u hu; simp at hu; subst hu; rfl) (by unfold maxLen; omega) (by omega) (by simp; omega) ?_)
      intro v3 w3 hown3 hgrow3 _
      have K3 := Lib.hid (KY.out.kept hgrow3 (fun e => by have := (OX.out.lt _ e.symm).1; omega))
      have O3 := Lib.hid (show w3.ownsRow (w1.heap.size + 1) 22 1 v3 (ds ++ [z]).length ((ds ++ [z]).map (Value.int .i16)) by
        rw [List.length_append, List.length_singleton, List.map_append]
        exact hown3)
      have B3 := Lib.hid (BY.out.grown hgrow3 BY.out.size (fun k hk => by have := (OX.out.lt k hk).1; omega))
      obtain ⟨A3, ca3, rfl⟩ := own_sl hown3
      have L3 := Lib.hid O3.out.lt
      have c2' := K3.out.c2
      have fz' := K3.out.fz 2
      have K4 := Lib.hid (show KB (w3.setCell ⟨w1.heap.size, 2, none⟩ (.slice A3 (ds.length + 1) ca3)) w1.heap.size (n0 (ns ++ [z])) (n1 (ns ++ [z])) (.slice A3 (ds.length + 1) ca3) from by rw [S.out.1, S.out.2.1]; exact K3.out.s2 _)
      have D4 := Lib.hid (show ds ++ [z] = (ns ++ [z]).drop 2 from by rw [S.out.2.2, DS.out])
      have O4 := Lib.hid (ownOther O3.out ((Gr.refl w1.heap.size w3).set 2 (.slice A3 (ds.length + 1) ca3)) (fun k hk e => by have := (O3.out.lt k hk).1; injection e with e; omega))
      have B4 := Lib.hid (B3.out.grown ((Gr.refl w1.heap.size w3).set 2 (.slice A3 (ds.length + 1) ca3)) B3.out.size (fun k hk => by injection hk with hk; omega))
      clear hown3 hgrow3 c2
      go_wp2
      exact ⟨⟨k + 1, ns ++ [z], ds ++ [z], _, E3.out, D4.out, by omega, by go_num, TK3.out, SK.out, K4.out, O4.out, B4.out⟩, by simp only [intOf]; omega⟩
    · have ek : k = n := by omega
      have EW := Lib.hid (show ws = ns.map dec by rw [← TK.out, ek, ← HN.out, List.take_length])
      have gl : decide (k < n) = false := decide_eq_false hlt
      have CD := Lib.hid (cs_done WS.out EW.out NK.out)
      obtain ⟨cc, hcc⟩ : ∃ cc : Cs, cc = ⟨n0 ns, n1 ns, ns.drop 2⟩ := ⟨_, rfl⟩
      rw [← hcc] at CD
      have CC := Lib.hid hcc
      obtain ⟨x0, hx0⟩ : ∃ x, n0 ns = x := ⟨_, rfl⟩
      obtain ⟨x1, hx1⟩ : ∃ x, n1 ns = x := ⟨_, rfl⟩
      rw [hx0, hx1] at KX
      have CF := Lib.hid (show cc = ⟨x0, x1, ds⟩ from by rw [hcc, hx0, hx1, DS.out])
      have LO := Lib.hid (show Calls Tryd.prog 54 #[.pointer (some ⟨w1.heap.size, 0, none⟩)] wr fun e w' => e = .returned (.bool (caseB cc)) ∧ wr = w' from
        l02Ok_any cc (.slice Ah ds.length ch) (by rw [hcc]; exact NK.out.wf) w1.heap.size wr ⟨by rw [CF.out]; exact KX.out.c0, by rw [CF.out]; exact KX.out.c1, KX.out.c2, KX.out.lt, by rw [CF.out]; exact ownInts OW.out⟩ (by rw [CF.out]; show ds.length ≤ maxLen; unfold maxLen; omega))
      clear ek hlt hcc hx0 hx1
      go_wp2_with fail
      refine LO.out.mono ?_
      rintro e w' ⟨rfl, rfl⟩
      rcases CD.out with ⟨hv, hp⟩ | ⟨hv, hno⟩
      · rw [hv]
        have YE := Lib.hid (rc_yes hp)
        clear hv hp LO
        have c0 := KX.out.c0
        have c1 := KX.out.c1
        have c2 := KX.out.c2
        have r0 := RX.out.c0
        have r1 := RX.out.c1
        have r2 := RX.out.c2
        have fz := RX.out.fz
        have PR := Lib.hid (RX.out.all x0 x1 (.slice Ah ds.length ch))
        have GR := Lib.hid (BX.out.grown (grK w.heap.size x0 x1 (.slice Ah ds.length ch)) BX.out.size (fun k hk => by injection hk with hk; omega))
        have OR := Lib.hid (show (((wr.setCell ⟨w.heap.size, 0, none⟩ (.int .i16 x0)).setCell ⟨w.heap.size, 1, none⟩ (.int .i32 x1)).setCell ⟨w.heap.size, 2, none⟩ (.slice Ah ds.length ch)).ownsRow w.heap.size 22 1 (.slice Ah ds.length ch) (rcV T.data.toList).hs.length ((rcV T.data.toList).hs.map (Value.int .i16)) from by rw [YE.out.1, CF.out]; exact ownMono (ownOther OW.out (grK w.heap.size x0 x1 (.slice Ah ds.length ch)) (fun k hk e => by have := (OW.out.lt k hk).1; injection e with e; omega)) (by omega))
        go_wp2
        have q0' := PR.out.c0
        have q1' := PR.out.c1
        have q2' := PR.out.c2
        exact bodyPost_ret (v := .tuple #[.agg #[.int .i16 x0, .int .i32 x1, (.slice Ah ds.length ch)], .int .i64 0]) (by simp [results, Tryd.results31, go_sem, q0', q1', q2']) rfl (readsCs_mk (.slice Ah ds.length ch) (by rw [YE.out.1, YE.out.2, CF.out]) OR.out GR.out)
      · rw [hv]
        have NO := Lib.hid (rc_no hno)
        clear hv hno LO
        have r0 := RX.out.c0
        have r1 := RX.out.c1
        have r2 := RX.out.c2
        have fz := RX.out.fz
        have PR := Lib.hid (RX.out.all 0 0 (.slice none 0 0))
        have GR := Lib.hid (BX.out.grown (grK w.heap.size 0 0 (.slice none 0 0)) BX.out.size (fun k hk => by injection hk with hk; omega))
        have OR := Lib.hid (show (((wr.setCell ⟨w.heap.size, 0, none⟩ (.int .i16 0)).setCell ⟨w.heap.size, 1, none⟩ (.int .i32 0)).setCell ⟨w.heap.size, 2, none⟩ (.slice none 0 0)).ownsRow w.heap.size 22 1 (.slice none 0 0) (rcV T.data.toList).hs.length ((rcV T.data.toList).hs.map (Value.int .i16)) from by rw [NO.out.1]; exact ⟨rfl, .inl ⟨rfl, rfl⟩⟩)
        go_wp2
        have q0' := PR.out.c0
        have q1' := PR.out.c1
        have q2' := PR.out.c2
        exact bodyPost_ret (v := .tuple #[.agg #[.int .i16 0, .int .i32 0, (.slice none 0 0)], .int .i64 5]) (by simp [results, Tryd.results31, go_sem, q0', q1', q2']) rfl (readsCs_mk (.slice none 0 0) (by rw [NO.out.1, NO.out.2]; rfl) OR.out GR.out)
end Go.Proofs.YtkojnepgeegalaaDoor
