/- The text of pegs and heights, by the model and by the program: contracts. Condition: the table of powers of ten is as laid. -/
import Derived.Test.YtaahfcdpgcfmhaaDoorCsT
import Derived.Test.YtaahfcdpgcfmhaaDoorOkH
namespace Go.Proofs.YtaahfcdpgcfmhaaDoor
set_option linter.unusedSimpArgs false
set_option linter.unusedVariables false
set_option maxRecDepth 100000
open Go.RowKit

def pegT (p : Pg) : List UInt8 := dec p.lo ++ ([32] ++ (dec p.st ++ ([32] ++ dec p.bo)))
theorem pegT_nums (p : Pg) : numsTo 32 [p.lo, p.st, p.bo] 3 = pegT p := by
  unfold pegT
  simp only [numsTo, List.getD, List.getElem?_cons_zero, List.getElem?_cons_succ, Option.getD_some]
  simp
def heightsT (p : Pg) (hs : List Int) : List UInt8 := pegT p ++ tailTo hs hs.length
/-- What HeightsText answers. -/
def heightsS (p : Pg) (hs : List Int) : ByteArray := if hsB p hs then strOf (heightsT p hs) else ⟨#[]⟩
structure HPos (p : Pg) (ys : List Int) : Prop where
  lo : 0 ≤ p.lo ∧ p.lo ≤ 400
  st : 0 ≤ p.st ∧ p.st ≤ 400
  bo : 0 ≤ p.bo ∧ p.bo ≤ 400
  hs : ∀ h ∈ ys, 0 ≤ h ∧ h ≤ 1000
  l1 : 1 ≤ ys.length
  l2 : ys.length ≤ 12
theorem hsB_pos {p : Pg} {hs : List Int} (h : hsB p hs = true) : HPos p hs := by
  obtain ⟨h1, h2, h3⟩ := hsB_len h
  obtain ⟨⟨a1, a2⟩, ⟨b1, b2⟩, ⟨c1, c2⟩⟩ := pegsB_true h1
  have hb := hsB_bounds h
  exact ⟨by omega, by omega, by omega, fun z hz => by have := hb z hz; omega, h2, by omega⟩
theorem pegT_len {p : Pg} {hs : List Int} (h : HPos p hs) : (pegT p).length ≤ 62 := by
  have d1 := dec_len (z := p.lo) (by have := h.lo; omega)
  have d2 := dec_len (z := p.st) (by have := h.st; omega)
  have d3 := dec_len (z := p.bo) (by have := h.bo; omega)
  unfold pegT
  simp only [List.length_append, List.length_cons, List.length_nil]
  omega
set_option maxHeartbeats 8000000 in
theorem l04Text_any (p : Pg) (v : Value) (zs : List Int) (hp : HPos p zs) (w : World) (hs : IntsOf .i64 w v zs) :
    Calls Tryd.prog 102 #[.agg #[.int .i16 p.lo, .int .i16 p.st, .int .i16 p.bo], v] w fun e w' => e = .returned (.string (strOf (heightsT p zs))) ∧ Below w.heap.size w w' := by
  have G0 := Lib.hid (show Below w.heap.size w (w.alloc (.cells #[.int .i16 p.lo, .int .i16 p.st, .int .i16 p.bo] 71)) from (Below.refl _ _).alloc (Nat.le_refl _) _)
  have BX := Lib.hid (heap_alloc_new w (.cells #[.int .i16 p.lo, .int .i16 p.st, .int .i16 p.bo] 71))
  have lp := pegT_len hp
  obtain ⟨A, kk, rfl, hs⟩ := hs
  obtain ⟨ga, oa, rfl, hga, hat⟩ := hs (by have := hp.l1; omega)
  have HA := Lib.hid hat
  obtain ⟨⟨b1, b2⟩, ⟨b3, b4⟩, ⟨b5, b6⟩, hz, l1, l2⟩ := hp
  have HZ := Lib.hid hz
  have HL := Lib.hid (tailTo_len (zs := zs) (fun z h => ⟨(hz z h).1, Int.le_trans (hz z h).2 (by decide)⟩))
  have D1 := Lib.hid (fun W => dec_any b1 (by omega) W)
  have D2 := Lib.hid (fun W => dec_any b3 (by omega) W)
  have D3 := Lib.hid (fun W => dec_any b5 (by omega) W)
  have s1 := strOf_size (dec p.lo)
  have s2 := strOf_size (dec p.st)
  have s3 := strOf_size (dec p.bo)
  have d1 := dec_len (z := p.lo) (by omega)
  have d2 := dec_len (z := p.st) (by omega)
  have d3 := dec_len (z := p.bo) (by omega)
  have a1 : ¬ (9223372036854775807 < (strOf (dec p.lo)).size + 1) := by omega
  have a2 : ¬ (9223372036854775807 < (strOf (dec p.lo)).size + 1 + (strOf (dec p.st)).size) := by omega
  have a3 : ¬ (9223372036854775807 < (strOf (dec p.lo)).size + 1 + (strOf (dec p.st)).size + 1) := by omega
  have a4 : ¬ (9223372036854775807 < (strOf (dec p.lo)).size + 1 + (strOf (dec p.st)).size + 1 + (strOf (dec p.bo)).size) := by omega
  have EP := Lib.hid (show strOf (dec p.lo) ++ ⟨#[32]⟩ ++ strOf (dec p.st) ++ ⟨#[32]⟩ ++ strOf (dec p.bo) = strOf (pegT p) by
    rw [show (⟨#[32]⟩ : ByteArray) = strOf [32] from rfl]
    simp only [strOf_cat, List.append_assoc]
    rfl)
  generalize strOf (dec p.lo) = S1 at *
  generalize strOf (dec p.st) = S2 at *
  generalize strOf (dec p.bo) = S3 at *
  clear hz hat hs s1 s2 s3 d1 d2 d3
  go_enter Tryd.func102, Tryd.ntmps102
  go_upto_region 1 with (fail)
  generalize World.alloc _ _ = W0 at G0 BX ⊢
  have hg := (Array.getElem?_eq_some_iff.1 BX.out).1
  have q0 := cell_of_row W0 _ 0 _ _ _ BX.out
  have q1 := cell_of_row W0 _ 1 _ _ _ BX.out
  have q2 := cell_of_row W0 _ 2 _ _ _ BX.out
  simp only [List.getElem?_toArray, List.getElem?_cons_zero, List.getElem?_cons_succ] at q0 q1 q2
  have p0 := belowBy_cell hg q0
  have p1 := belowBy_cell hg q1
  have p2 := belowBy_cell hg q2
  clear q0 q1 q2
  refine wp_region_below (by kernel_rfl) (by kernel_rfl) ?_
  iterate 17 (first | go_big_quiet_step ((go_at_call 129; with_reducible first | exact calls_below (D1.out _) | exact calls_below (D2.out _) | exact calls_below (D3.out _))) | quiet_step ((go_at_call 129; with_reducible first | exact calls_below (D1.out _) | exact calls_below (D2.out _) | exact calls_below (D3.out _))))
  refine wpQuiet_nil ?_
  rintro w2 ⟨⟨_, hq⟩, rfl⟩
  have B2 := Lib.hid (bnext G0.out hq)
  clear p0 p1 p2 hq a1 a2 a3 a4 hg
  rw [EP.out]
  go_wp2
  go_loopw [5, 6] (fun o i wr => ∃ k : Nat, k ≤ zs.length ∧ i = .int .i64 k ∧ o = .string (strOf (pegT p ++ tailTo zs k)) ∧ Below w.heap.size w wr) (fun _ i _ => zs.length - (intOf i).toNat)
  case atStart => exact ⟨0, Nat.zero_le _, rfl, by rw [show tailTo zs 0 = [] from rfl, List.append_nil], B2.out⟩
  case round =>
    obtain ⟨k, hk, rfl, rfl, hb⟩ := hrel
    have HB := Lib.hid hb
    clear hb
    by_cases hlt : k < zs.length
    · have p1 := HA.out.below HB.out hga k hlt
      have zk := HZ.out _ (List.getElem_mem hlt)
      obtain ⟨zk1, zk2⟩ := zk
      have DK := Lib.hid (dec_any zk1 (by omega) wr)
      have l3 := HL.out k hk
      have l4 := dec_len (z := zs[k]) (by omega)
      have s1 := strOf_size (pegT p ++ tailTo zs k)
      rw [List.length_append] at s1
      have s2 := strOf_size (dec zs[k])
      have ES := Lib.hid (tailTo_succ hlt)
      have CT := Lib.hid (show strOf (pegT p ++ tailTo zs k) ++ (⟨#[32]⟩ ++ strOf (dec zs[k])) = strOf (pegT p ++ tailTo zs (k + 1)) by
        rw [ES.out, show (⟨#[32]⟩ : ByteArray) = strOf [32] from rfl]
        simp only [strOf_cat, List.append_assoc])
      have a1 : ¬ (9223372036854775807 < 1 + (strOf (dec zs[k])).size) := by omega
      have a2 : ¬ (9223372036854775807 < (strOf (pegT p ++ tailTo zs k)).size + (1 + (strOf (dec zs[k])).size)) := by omega
      generalize strOf (dec zs[k]) = T at *
      generalize hS : strOf (pegT p ++ tailTo zs k) = S at *
      clear s1 s2 l3 l4 hS
      go_wp2_with fail
      refine DK.out.mono ?_
      rintro e w3 ⟨rfl, h3⟩
      have hb1 := bnext HB.out h3
      go_wp2
      exact ⟨⟨k + 1, hlt, by simp, by rw [CT.out], hb1⟩, by simp only [intOf]; omega⟩
    · have ek : k = zs.length := by omega
      have EK := Lib.hid (show pegT p ++ tailTo zs k = heightsT p zs by rw [ek]; rfl)
      go_wp2
      go_ret
      exact ⟨by rw [EK.out]; rfl, HB.out⟩
set_option maxHeartbeats 1000000 in
theorem specHeightsText_any (p : Pg) (wf : p.Wf) (v : Value) (zs : List Int) (wz : ∀ z ∈ zs, (Lit.int .i64 z).wf = true) (w : World) (hs : IntsOf .i64 w v zs) (hn : zs.length ≤ maxLen) :
    Calls Tryd.prog 45 #[.agg #[.int .i16 p.lo, .int .i16 p.st, .int .i16 p.bo], v] w fun e w' => e = .returned (.string (heightsS p zs)) ∧ Below w.heap.size w w' := by
  have G0 := Lib.hid (show Below w.heap.size w (w.alloc (.cells #[.int .i16 p.lo, .int .i16 p.st, .int .i16 p.bo] 71)) from (Below.refl _ _).alloc (Nat.le_refl _) _)
  have BX := Lib.hid (heap_alloc_new w (.cells #[.int .i16 p.lo, .int .i16 p.st, .int .i16 p.bo] 71))
  have OK := Lib.hid (fun W (h : Below w.heap.size w W) => l04Ok_any p wf v zs wz W (hs.below h) hn)
  have LT := Lib.hid (fun (hk : hsB p zs = true) W (h : Below w.heap.size w W) => l04Text_any p v zs (hsB_pos hk) W (hs.below h))
  clear wf wz hn hs
  go_enter Tryd.func45, Tryd.ntmps45
  go_upto_region 1 with (fail)
  generalize World.alloc _ _ = W0 at G0 BX ⊢
  have q0 := cell_of_row W0 _ 0 _ _ _ BX.out
  have q1 := cell_of_row W0 _ 1 _ _ _ BX.out
  have q2 := cell_of_row W0 _ 2 _ _ _ BX.out
  simp only [List.getElem?_toArray, List.getElem?_cons_zero, List.getElem?_cons_succ] at q0 q1 q2
  go_wp2_with fail
  refine (OK.out _ G0.out).mono ?_
  rintro e w1 ⟨rfl, h1⟩
  have G1 := Lib.hid (bnext G0.out h1)
  have B1 := Lib.hid ((h1.block _ (Array.getElem?_eq_some_iff.1 BX.out).1).trans BX.out)
  clear q0 q1 q2 h1
  have q0 := cell_of_row w1 _ 0 _ _ _ B1.out
  have q1 := cell_of_row w1 _ 1 _ _ _ B1.out
  have q2 := cell_of_row w1 _ 2 _ _ _ B1.out
  simp only [List.getElem?_toArray, List.getElem?_cons_zero, List.getElem?_cons_succ] at q0 q1 q2
  cases hk : hsB p zs
  · have E := Lib.hid (show heightsS p zs = ⟨#[]⟩ by unfold heightsS; rw [hk]; rfl)
    go_wp2
    go_ret
    exact ⟨by rw [E.out]; rfl, G1.out⟩
  · have E := Lib.hid (show heightsS p zs = strOf (heightsT p zs) by unfold heightsS; rw [hk]; rfl)
    go_wp2_with fail
    refine (LT.out hk _ G1.out).mono ?_
    rintro e w2 ⟨rfl, h2⟩
    go_wp2
    go_ret
    exact ⟨by rw [E.out]; rfl, bnext G1.out h2⟩
theorem tPegs : (71 : Nat) ≠ 5 := by decide
theorem tI16 : (24 : Nat) ≠ 5 := by decide
theorem ints_of_row {k : IntKind} {w : World} {g : Nat} {zs : List Int} {t : TypeId} {fz : Nat × Nat} {c : Nat} (h : w.heap[g]? = some (.cells (zs.map (Value.int k)).toArray t fz)) : IntsOf k w (.slice (some ⟨g, 0, none⟩) zs.length c) zs := by
  refine ⟨_, c, rfl, fun _ => ⟨g, 0, rfl, (Array.getElem?_eq_some_iff.1 h).1, fun i hi => ?_⟩⟩
  rw [Nat.zero_add, cell_of_row w _ i _ _ _ h]
  simp [List.getElem?_eq_getElem hi]
set_option maxHeartbeats 4000000 in
theorem heightsText_any (p : Pg) (wf : p.Wf) (v : Value) (zs : List Int) (wz : ∀ z ∈ zs, (Lit.int .i64 z).wf = true) (w : World) (hs : IntsOf .i64 w v zs) (hn : zs.length ≤ maxLen) (htab : Tab w.heap.size w) :
    Calls Tryd.prog 47 #[.agg #[.int .i16 p.lo, .int .i16 p.st, .int .i16 p.bo], v] w fun e w' => e = .returned (.string (heightsS p zs)) ∧ Below w.heap.size w w' := by
  obtain ⟨i0, hi0, hz0, hz1, hz2⟩ := info_parts infoByteT
  have HS := Lib.hid hs
  have HT := Lib.hid htab
  have G0 := Lib.hid (show Below w.heap.size w (w.alloc (.cells #[.int .i16 p.lo, .int .i16 p.st, .int .i16 p.bo] 71)) from (Below.refl _ _).alloc (Nat.le_refl _) _)
  have BX := Lib.hid (heap_alloc_new w (.cells #[.int .i16 p.lo, .int .i16 p.st, .int .i16 p.bo] 71))
  have OK := Lib.hid (fun W (h : Below w.heap.size w W) => validHeights_any p wf v zs wz W (hs.below h) hn)
  obtain ⟨A, c', rfl, -⟩ := hs
  clear hn htab wf wz
  go_enter Tryd.func47, Tryd.ntmps47
  go_upto_region 1 with (fail)
  generalize World.alloc _ _ = W0 at G0 BX ⊢
  have q0 := cell_of_row W0 _ 0 _ _ _ BX.out
  have q1 := cell_of_row W0 _ 1 _ _ _ BX.out
  have q2 := cell_of_row W0 _ 2 _ _ _ BX.out
  simp only [List.getElem?_toArray, List.getElem?_cons_zero, List.getElem?_cons_succ] at q0 q1 q2
  go_wp2_with fail
  refine (OK.out _ G0.out).mono ?_
  rintro e w1 ⟨rfl, h1⟩
  have K1 := Lib.hid (((Kp.refl w.heap.size w).below (Nat.le_refl _) G0.out).below G0.out.size h1)
  have B1 := Lib.hid ((h1.block _ (Array.getElem?_eq_some_iff.1 BX.out).1).trans BX.out)
  have z1 := K1.out.size
  clear q0 q1 q2 h1
  have q0 := cell_of_row w1 _ 0 _ _ _ B1.out
  have q1 := cell_of_row w1 _ 1 _ _ _ B1.out
  have q2 := cell_of_row w1 _ 2 _ _ _ B1.out
  simp only [List.getElem?_toArray, List.getElem?_cons_zero, List.getElem?_cons_succ] at q0 q1 q2
  cases hk : hsB p zs
  · have E := Lib.hid (show heightsS p zs = ⟨#[]⟩ by unfold heightsS; rw [hk]; rfl)
    go_wp2
    go_ret
    exact ⟨by rw [E.out]; rfl, K1.out.b⟩
  · have E := Lib.hid (show heightsS p zs = strOf (heightsT p zs) by unfold heightsS; rw [hk]; rfl)
    have HP := Lib.hid (hsB_pos hk)
    have lp := pegT_len HP.out
    have l1 := HP.out.l1
    have l2 := HP.out.l2
    have K2 := Lib.hid (show Kp w.heap.size w (w1.alloc (.cells #[.int .i16 p.lo, .int .i16 p.st, .int .i16 p.bo] 24)) from K1.out.alloc z1 _)
    have B2 := Lib.hid (heap_alloc_new w1 (.cells #[.int .i16 p.lo, .int .i16 p.st, .int .i16 p.bo] 24))
    have z2 := K2.out.size
    have PZ := Lib.hid (show ∀ z ∈ [p.lo, p.st, p.bo], 0 ≤ z ∧ z ≤ 32767 by
      intro z hz
      have h1 := HP.out.lo
      have h2 := HP.out.st
      have h3 := HP.out.bo
      simp only [List.mem_cons, List.not_mem_nil, or_false] at hz
      rcases hz with rfl | rfl | rfl
      all_goals omega)
    have AN := Lib.hid (appendNumbers_i16 [p.lo, p.st, p.bo] PZ.out 32 32 rfl w.heap.size [] (.slice none 0 0) _ (Txt.nil _ _) z2 (Nat.zero_le _) (by simp) (HT.out.on K2.out.b) (some ⟨w1.heap.size, 0, none⟩) 3 (fun W h => ints_of_row (zs := [p.lo, p.st, p.bo]) (h.box B2.out tI16)))
    go_wp2_with fail
    refine AN.out.mono ?_
    rintro e w3 ⟨v3, rfl, ht3, hk3⟩
    have T3 := Lib.hid (show Txt w3 w.heap.size v3 (pegT p) by
      have h := ht3
      rw [List.nil_append, show [p.lo, p.st, p.bo].length = 3 from rfl, pegT_nums] at h
      exact h)
    have K3 := Lib.hid (K2.out.trans hk3)
    have z3 := K3.out.size
    clear q0 q1 q2 ht3 hk3 AN
    have T4 := Lib.hid (show Txt (w3.alloc (.cells #[.int .u8 32] 5)) w.heap.size v3 (pegT p) from T3.out.below ((Below.refl _ _).alloc (Nat.le_refl _) _))
    go_wp2_with (at_builtin; refine wpList_append_own _ rfl (.tmp 18) (.tmp 19) _ rfl w.heap.size 5 i0 (.int .u8 0) 1 1 Tryd.underlying121 hi0 hz0 hz1 hz2 rfl (by decide) _ _ _ rfl T4.out ⟨w3.heap.size, 0, none⟩ 1 1 [.int .u8 32] rfl rfl (cellOne w3 _ _) ?d2a ?d3a ?d4a ?d5a ?_)
    case d2a => (intro u hu; simp at hu; subst hu; rfl)
    case d3a => (unfold maxLen; omega)
    case d4a => omega
    case d5a => (simp; omega)
    intro v5 w5 hown5 hgrow5 _
    have T5 := Lib.hid (show Txt w5 w.heap.size v5 (pegT p ++ [32]) by
      refine Txt.of hown5 ?_ ?_
      · simp only [List.length_append, List.length_cons, List.length_nil]
      · rw [Lib.byteCells_append _ [32]]
        rfl)
    have K5 := Lib.hid ((K3.out.alloc z3 (.cells #[.int .u8 32] 5)).grown T4.out hgrow5 (by simp; omega))
    have z5 := K5.out.size
    clear hown5 hgrow5
    have AN := Lib.hid (appendNumbers_i64 zs (fun z hz => ⟨(HP.out.hs z hz).1, Int.le_trans (HP.out.hs z hz).2 (by decide)⟩) 32 32 rfl w.heap.size (pegT p ++ [32]) v5 w5 T5.out z5 (by simp only [List.length_append, List.length_cons, List.length_nil]; omega) (by omega) (HT.out.on K5.out.b) A c' (fun W h => HS.out.below (K5.out.trans h).b))
    go_wp2_with fail
    refine AN.out.mono ?_
    rintro e w6 ⟨v6, rfl, ht6, hk6⟩
    have DC := ht6.string
    have EQ := Lib.hid (show pegT p ++ [32] ++ numsTo 32 zs zs.length = heightsT p zs by
      unfold heightsT
      rw [tailTo_all (by omega), List.append_assoc])
    rw [EQ.out] at DC
    have K6 := Lib.hid (K5.out.trans hk6)
    clear ht6 hk6
    go_wp2
    go_ret
    exact ⟨by rw [E.out]; rfl, K6.out.b⟩
end Go.Proofs.YtaahfcdpgcfmhaaDoor
