/- The text of a case, by the model and by the program: contracts. Condition: the table of powers of ten is as laid. -/
import Derived.Test.YtaahfcdpgcfmhaaDoorNbT
import Derived.Test.YtaahfcdpgcfmhaaDoorCaseOk
import Derived.Test.YtaahfcdpgcfmhaaDoorQuiet
import Derived.Deep.Cut
import Derived.Deep.CutRange
namespace Go.Proofs.YtaahfcdpgcfmhaaDoor
set_option linter.unusedSimpArgs false
set_option linter.unusedVariables false
set_option maxRecDepth 100000
open Go.RowKit

/-- Numbers, a blank ahead of each. -/
def tailTo (zs : List Int) (k : Nat) : List UInt8 := if k = 0 then [] else [32] ++ numsTo 32 zs k
theorem tailTo_succ {zs : List Int} {k : Nat} (h : k < zs.length) : tailTo zs (k + 1) = tailTo zs k ++ ([32] ++ dec zs[k]) := by
  unfold tailTo
  by_cases h0 : k = 0
  · subst h0
    rw [if_neg (by omega), if_pos rfl, numsTo_first h]
    rfl
  · rw [if_neg (by omega), if_neg h0, numsTo_succ h0 h, List.append_assoc]
theorem tailTo_len {zs : List Int} (hz : ∀ z ∈ zs, 0 ≤ z ∧ z ≤ 1000000) (k : Nat) (hk : k ≤ zs.length) : (tailTo zs k).length ≤ 1 + 21 * k := by
  have := numsTo_len (s := 32) hz k hk
  unfold tailTo
  split
  · simp
  · simp only [List.length_append, List.length_cons, List.length_nil]; omega
theorem tailTo_all {zs : List Int} (h : 0 < zs.length) : tailTo zs zs.length = [32] ++ numsTo 32 zs zs.length := by
  unfold tailTo
  rw [if_neg (by omega)]
def casePre (c : Cs) : List UInt8 := dec c.wi ++ ([32] ++ dec c.lo)
def caseT (c : Cs) : List UInt8 := casePre c ++ tailTo c.hs c.hs.length
/-- What CaseText answers. -/
def caseS (c : Cs) : ByteArray := if caseB c then strOf (caseT c) else ⟨#[]⟩
structure Cs.Pos (c : Cs) : Prop where
  wi : 0 ≤ c.wi ∧ c.wi ≤ 2000
  lo : 0 ≤ c.lo ∧ c.lo ≤ 200000
  hs : ∀ h ∈ c.hs, 0 ≤ h ∧ h ≤ 1000
  l1 : 1 ≤ c.hs.length
  l2 : c.hs.length ≤ 12
theorem caseB_pos {c : Cs} (h : caseB c = true) : c.Pos := by
  unfold caseB at h
  simp only [Bool.and_eq_true, List.all_eq_true] at h
  unfold inB at h
  simp only [decide_eq_true_eq] at h
  refine ⟨?_, ?_, fun z hz => ?_, ?_, ?_⟩
  all_goals first | omega | (have h5 := h.2.2.2 z hz; omega)
set_option maxHeartbeats 8000000 in
theorem l02Text_any (c : Cs) (hv : Value) (hp : c.Pos) (g : Nat) (w : World) (hc : CaseAt w g c hv) :
    Calls Tryd.prog 86 #[.pointer (some ⟨g, 0, none⟩)] w fun e w' => e = .returned (.string (strOf (caseT c))) ∧ Below w.heap.size w w' := by
  have HC := Lib.hid hc
  obtain ⟨c0, c1, c2, hg, hs⟩ := hc
  obtain ⟨A, kk, rfl, hs⟩ := hs
  obtain ⟨ga, oa, rfl, hga, hat⟩ := hs (by have := hp.l1; omega)
  have HA := Lib.hid hat
  obtain ⟨⟨b1, b2⟩, ⟨b3, b4⟩, hz, l1, l2⟩ := hp
  have HZ := Lib.hid hz
  have HL := Lib.hid (tailTo_len (zs := c.hs) (fun z h => ⟨(hz z h).1, Int.le_trans (hz z h).2 (by decide)⟩))
  have DW := Lib.hid (fun W => dec_any b1 (by omega) W)
  have DL := Lib.hid (fun W => dec_any b3 (by omega) W)
  have s1 := strOf_size (dec c.wi)
  have s2 := strOf_size (dec c.lo)
  have d1 := dec_len (z := c.wi) (by omega)
  have d2 := dec_len (z := c.lo) (by omega)
  have a1 : ¬ (9223372036854775807 < (strOf (dec c.wi)).size + 1) := by omega
  have a2 : ¬ (9223372036854775807 < (strOf (dec c.wi)).size + 1 + (strOf (dec c.lo)).size) := by omega
  have EP := Lib.hid (show strOf (dec c.wi) ++ ⟨#[32]⟩ ++ strOf (dec c.lo) = strOf (casePre c) by
    rw [show (⟨#[32]⟩ : ByteArray) = strOf [32] from rfl]
    simp only [strOf_cat, List.append_assoc]
    rfl)
  have lp : (casePre c).length ≤ 41 := by
    unfold casePre
    simp only [List.length_append, List.length_cons, List.length_nil]
    omega
  have p0 := belowBy_cell hg c0
  have p1 := belowBy_cell hg c1
  generalize strOf (dec c.wi) = SW at *
  generalize strOf (dec c.lo) = SL at *
  clear hz hat c0 c1 c2 hs s1 s2 d1 d2
  go_enter Tryd.func86, Tryd.ntmps86
  go_wp2
  refine wp_region_below (by kernel_rfl) (by kernel_rfl) ?_
  iterate 15 (first | go_big_quiet_step ((go_at_call 129; with_reducible first | exact calls_below (DW.out _) | exact calls_below (DL.out _))) | quiet_step ((go_at_call 129; with_reducible first | exact calls_below (DW.out _) | exact calls_below (DL.out _))))
  refine wpQuiet_nil ?_
  rintro w2 ⟨⟨_, hq⟩, rfl⟩
  have B2 := Lib.hid hq
  clear p0 p1 hq a1 a2
  rw [EP.out]
  go_wp2
  go_loopw [3, 4] (fun o i wr => ∃ k : Nat, k ≤ c.hs.length ∧ i = .int .i64 k ∧ o = .string (strOf (casePre c ++ tailTo c.hs k)) ∧ Below w.heap.size w wr) (fun _ i _ => c.hs.length - (intOf i).toNat)
  case atStart => exact ⟨0, Nat.zero_le _, rfl, by rw [show tailTo c.hs 0 = [] from rfl, List.append_nil], B2.out⟩
  case round =>
    obtain ⟨k, hk, rfl, rfl, hb⟩ := hrel
    have HB := Lib.hid hb
    obtain ⟨q0, q1, q2, hq, -⟩ := HC.out.below hb
    clear hb
    by_cases hlt : k < c.hs.length
    · have p1 := HA.out.below HB.out hga k hlt
      have zk := HZ.out _ (List.getElem_mem hlt)
      obtain ⟨zk1, zk2⟩ := zk
      have DK := Lib.hid (dec_any zk1 (by omega) wr)
      have l3 := HL.out k hk
      have l4 := dec_len (z := c.hs[k]) (by omega)
      have s1 := strOf_size (casePre c ++ tailTo c.hs k)
      rw [List.length_append] at s1
      have s2 := strOf_size (dec c.hs[k])
      have ES := Lib.hid (tailTo_succ hlt)
      have CT := Lib.hid (show strOf (casePre c ++ tailTo c.hs k) ++ (⟨#[32]⟩ ++ strOf (dec c.hs[k])) = strOf (casePre c ++ tailTo c.hs (k + 1)) by
        rw [ES.out, show (⟨#[32]⟩ : ByteArray) = strOf [32] from rfl]
        simp only [strOf_cat, List.append_assoc])
      have a1 : ¬ (9223372036854775807 < 1 + (strOf (dec c.hs[k])).size) := by omega
      have a2 : ¬ (9223372036854775807 < (strOf (casePre c ++ tailTo c.hs k)).size + (1 + (strOf (dec c.hs[k])).size)) := by omega
      generalize strOf (dec c.hs[k]) = T at *
      generalize hS : strOf (casePre c ++ tailTo c.hs k) = S at *
      clear s1 s2 l3 l4 hS
      go_wp2_with fail
      refine DK.out.mono ?_
      rintro e w3 ⟨rfl, h3⟩
      have hb1 := bnext HB.out h3
      clear q0 q1 q2
      go_wp2
      exact ⟨⟨k + 1, hlt, by simp, by rw [CT.out], hb1⟩, by simp only [intOf]; omega⟩
    · have ek : k = c.hs.length := by omega
      have EK := Lib.hid (show casePre c ++ tailTo c.hs k = caseT c by rw [ek]; rfl)
      go_wp2
      go_ret
      exact ⟨by rw [EK.out]; rfl, HB.out⟩
set_option maxHeartbeats 1000000 in
theorem specCaseText_any (c : Cs) (hv : Value) (wf : c.Wf) (w : World) (hs : IntsOf .i16 w hv c.hs) (hn : c.hs.length ≤ maxLen) :
    Calls Tryd.prog 33 #[.agg #[.int .i16 c.wi, .int .i32 c.lo, hv]] w fun e w' => e = .returned (.string (caseS c)) ∧ Below w.heap.size w w' := by
  have G0 := Lib.hid (show Below w.heap.size w (w.alloc (.cells #[.int .i16 c.wi, .int .i32 c.lo, hv] 54)) from (Below.refl _ _).alloc (Nat.le_refl _) _)
  have HB := Lib.hid (CaseAt.new (t := 54) hs)
  have WF := Lib.hid wf
  have MC := Lib.hid hn
  obtain ⟨A, c', rfl, -⟩ := hs
  clear wf hn
  go_enter Tryd.func33, Tryd.ntmps33
  go_upto_region 1 with (fail)
  generalize World.alloc _ _ = W0 at G0 HB ⊢
  go_wp2_with fail
  refine (l02Ok_any c _ WF.out _ _ HB.out MC.out).mono ?_
  rintro e w' ⟨rfl, rfl⟩
  cases hk : caseB c
  · have E := Lib.hid (show caseS c = ⟨#[]⟩ by unfold caseS; rw [hk]; rfl)
    go_wp2
    go_ret
    exact ⟨by rw [E.out]; rfl, G0.out⟩
  · have E := Lib.hid (show caseS c = strOf (caseT c) by unfold caseS; rw [hk]; rfl)
    have LT := Lib.hid (l02Text_any c _ (caseB_pos hk) _ _ HB.out)
    go_wp2_with fail
    refine LT.out.mono ?_
    rintro e w2 ⟨rfl, h2⟩
    go_wp2
    go_ret
    exact ⟨by rw [E.out]; rfl, bnext G0.out h2⟩
theorem tCase : (54 : Nat) ≠ 5 := by decide
set_option maxHeartbeats 4000000 in
theorem caseText_any (c : Cs) (hv : Value) (w : World) (hs : IntsOf .i16 w hv c.hs) (hn : c.hs.length ≤ maxLen) (htab : Tab w.heap.size w) :
    Calls Tryd.prog 35 #[.agg #[.int .i16 c.wi, .int .i32 c.lo, hv]] w fun e w' => e = .returned (.string (caseS c)) ∧ Below w.heap.size w w' := by
  have HS := Lib.hid hs
  have HT := Lib.hid htab
  obtain ⟨A, c', rfl, -⟩ := hs
  have G0 := Lib.hid (show Below w.heap.size w (w.alloc (.cells #[.int .i16 c.wi, .int .i32 c.lo, .slice A c.hs.length c'] 54)) from (Below.refl _ _).alloc (Nat.le_refl _) _)
  have BX := Lib.hid (heap_alloc_new w (.cells #[.int .i16 c.wi, .int .i32 c.lo, .slice A c.hs.length c'] 54))
  have VC := Lib.hid (fun W (h : Below w.heap.size w W) => validCase_any c _ W (HS.out.below h) hn)
  clear hn htab
  go_enter Tryd.func35, Tryd.ntmps35
  go_upto_region 1 with (fail)
  generalize World.alloc _ _ = W0 at G0 BX ⊢
  have q0 := cell_of_row W0 _ 0 _ _ _ BX.out
  have q1 := cell_of_row W0 _ 1 _ _ _ BX.out
  have q2 := cell_of_row W0 _ 2 _ _ _ BX.out
  simp only [List.getElem?_toArray, List.getElem?_cons_zero, List.getElem?_cons_succ] at q0 q1 q2
  go_wp2_with fail
  refine (VC.out _ G0.out).mono ?_
  rintro e w1 ⟨rfl, h1⟩
  have K1 := Lib.hid (((Kp.refl w.heap.size w).below (Nat.le_refl _) G0.out).below G0.out.size h1)
  have B1 := Lib.hid ((h1.block _ (Array.getElem?_eq_some_iff.1 BX.out).1).trans BX.out)
  have z1 := K1.out.size
  clear q0 q1 q2 h1
  cases hk : caseB c
  · have E := Lib.hid (show caseS c = ⟨#[]⟩ by unfold caseS; rw [hk]; rfl)
    go_wp2
    go_ret
    exact ⟨by rw [E.out]; rfl, K1.out.b⟩
  · have E := Lib.hid (show caseS c = strOf (caseT c) by unfold caseS; rw [hk]; rfl)
    have HP := Lib.hid (caseB_pos hk)
    obtain ⟨⟨b1, b2⟩, ⟨b3, b4⟩, -, l1, l2⟩ := caseB_pos hk
    have d1 := dec_len (z := c.wi) (by omega)
    have d2 := dec_len (z := c.lo) (by omega)
    have q0 := cell_of_row w1 _ 0 _ _ _ B1.out
    simp only [List.getElem?_toArray, List.getElem?_cons_zero, List.getElem?_cons_succ] at q0
    go_wp2_with fail
    refine (number_txt w.heap.size c.wi b1 (by omega) [32] [] _ _ (Txt.nil _ _) z1 (by simp) (HT.out.on K1.out.b)).mono ?_
    rintro e w2 ⟨v2, rfl, ht2, hk2⟩
    have T2 := Lib.hid ht2
    have K2 := Lib.hid (K1.out.trans hk2)
    have B2 := Lib.hid (hk2.box B1.out tCase)
    have z2 := K2.out.size
    clear q0 ht2 hk2
    have q1 := cell_of_row w2 _ 1 _ _ _ B2.out
    simp only [List.getElem?_toArray, List.getElem?_cons_zero, List.getElem?_cons_succ] at q1
    go_wp2_with fail
    refine (number_txt w.heap.size c.lo b3 (by omega) [32] ([] ++ (dec c.wi ++ [32])) _ _ T2.out z2 (by simp only [List.length_append, List.length_cons, List.length_nil]; omega) (HT.out.on K2.out.b)).mono ?_
    rintro e w3 ⟨v3, rfl, ht3, hk3⟩
    have T3 := Lib.hid ht3
    have K3 := Lib.hid (K2.out.trans hk3)
    have B3 := Lib.hid (hk3.box B2.out tCase)
    have z3 := K3.out.size
    clear q1 ht3 hk3
    have q2 := cell_of_row w3 _ 2 _ _ _ B3.out
    simp only [List.getElem?_toArray, List.getElem?_cons_zero, List.getElem?_cons_succ] at q2
    go_wp2_with fail
    refine (appendNumbers_i16 c.hs (fun z hz => ⟨(HP.out.hs z hz).1, Int.le_trans (HP.out.hs z hz).2 (by decide)⟩) 32 32 rfl w.heap.size _ _ w3 T3.out z3 (by simp only [List.length_append, List.length_cons, List.length_nil]; omega) (by omega) (HT.out.on K3.out.b) A c' (fun W h => HS.out.below (K3.out.trans h).b)).mono ?_
    rintro e w4 ⟨v4, rfl, ht4, hk4⟩
    have DC := ht4.string
    have EQ := Lib.hid (show [] ++ (dec c.wi ++ [32]) ++ (dec c.lo ++ [32]) ++ numsTo 32 c.hs c.hs.length = caseT c by
      unfold caseT casePre
      rw [tailTo_all (by omega)]
      simp only [List.append_assoc, List.nil_append])
    rw [EQ.out] at DC
    have K4 := Lib.hid (K3.out.trans hk4)
    clear q2 ht4 hk4
    go_wp2
    go_ret
    exact ⟨by rw [E.out]; rfl, K4.out.b⟩
end Go.Proofs.YtaahfcdpgcfmhaaDoor
