/- Lists of texts: how they read, compared, marked. Condition: at most 400 texts. -/
import Derived.Test.YtnkkabbndmfhmaaNlP
import Derived.Test.YtnkkabbndmfhmaaNums
import Derived.Test.YtnkkabbndmfhmaaOwn
import Derived.Test.YtnkkabbndmfhmaaDec
import Derived.Deep.RegionHeld3
import Derived.Test.YtnkkabbndmfhmaaQuiet
import Derived.BigQuiet
namespace Go.Proofs.Ytnkkabbndmfhmaa
set_option linter.unusedSimpArgs false
set_option linter.unusedVariables false
set_option maxRecDepth 100000
open Go.RowKit

def StrsAt (w : World) (g o : Nat) (ss : List (List UInt8)) : Prop := ∀ i (h : i < ss.length), w.cell? ⟨g, o + i, none⟩ = some (.string (tB ss[i]))
def StrsOf (w : World) (v : Value) (ss : List (List UInt8)) : Prop := ∃ A c, v = .slice A ss.length c ∧ (0 < ss.length → ∃ g o, A = some ⟨g, o, none⟩ ∧ g < w.heap.size ∧ StrsAt w g o ss)
theorem StrsAt.below {w w' : World} {B g o : Nat} {ss : List (List UInt8)} (h : StrsAt w g o ss) (hb : Below B w w') (hg : g < B) : StrsAt w' g o ss := fun i hi => (hb.cell (p := ⟨g, o + i, none⟩) hg).trans (h i hi)
theorem StrsOf.below {w w' : World} {v : Value} {ss : List (List UInt8)} (h : StrsOf w v ss) (hb : Below w.heap.size w w') : StrsOf w' v ss := by
  obtain ⟨A, c, rfl, hat⟩ := h
  refine ⟨A, c, rfl, fun h0 => ?_⟩
  obtain ⟨g, o, rfl, hg, ha⟩ := hat h0
  exact ⟨g, o, rfl, Nat.lt_of_lt_of_le hg hb.size, ha.below hb hg⟩
theorem ownStrs {w : World} {base n : Nat} {v : Value} {ss : List (List UInt8)} {t : TypeId} (h : w.ownsRow base t 1 v n (ss.map encStr)) (hn : n = ss.length) : StrsOf w v ss := by
  subst hn
  rcases h.2 with ⟨rfl, hn⟩ | ⟨g, cap, cur, rfl, hb, hg, _⟩
  · exact ⟨none, 0, by rw [hn], fun h0 => absurd h0 (by omega)⟩
  · refine ⟨_, cap, rfl, fun _ => ⟨g, 0, rfl, (Array.getElem?_eq_some_iff.1 hg).1, fun i hi => ?_⟩⟩
    rw [Nat.zero_add, h.cellAt i (by omega)]
    simp [List.getElem?_eq_getElem hi, encStr_tB]

set_option maxHeartbeats 4000000 in
theorem eqStringS_same (v1 v2 : Value) (ss : List (List UInt8)) (w : World) (hs1 : StrsOf w v1 ss) (hs2 : StrsOf w v2 ss) (hn : ss.length ≤ 400) :
    Calls Try.prog 27 #[v1, v2] w fun e w' => e = .returned (.bool true) ∧ Below w.heap.size w w' := by
  obtain ⟨A1, k1, rfl, hs1⟩ := hs1
  obtain ⟨A2, k2, rfl, hs2⟩ := hs2
  have H1 := Lib.hid hs1
  have H2 := Lib.hid hs2
  clear hs1 hs2
  go_enter Try.func27, Try.ntmps27
  go_wp2
  go_loopw [5] (fun i wr => ∃ k : Nat, k ≤ ss.length ∧ i = .int .i64 k ∧ Below w.heap.size w wr) (fun i _ => ss.length - (intOf i).toNat)
  case atStart => exact ⟨0, Nat.zero_le _, rfl, Below.refl _ _⟩
  case round =>
    obtain ⟨k, hk, rfl, hb⟩ := hrel
    by_cases hlt : k < ss.length
    · obtain ⟨g1, o1, rfl, hg1, ha1⟩ := H1.out (by omega)
      obtain ⟨g2, o2, rfl, hg2, ha2⟩ := H2.out (by omega)
      have p0 := ha1.below hb hg1 k hlt
      have q0 := ha2.below hb hg2 k hlt
      have e0 : ((tB ss[k]).toList == (tB ss[k]).toList) = true := by simp
      clear ha1 ha2
      generalize tB ss[k] = T at *
      go_wp2
      go_quiet (fail)
      clear p0 q0
      go_wp2
      go_roundw
      case rel => exact ⟨k + 1, by omega, by go_num, below_drewN hb _⟩
      case measure => simp [intOf]; omega
    · obtain rfl : k = ss.length := by omega
      go_wp2
      go_ret
      exact ⟨rfl, hb⟩
/-! ### marks -/
def dgF : Nat → Nat → List UInt8 → List UInt8
  | 0, _, o => o
  | f + 1, k, o => if k = 0 then o else dgF f (k / 10) (digB k :: o)
def mtL (k : Nat) : List UInt8 := 109 :: dgF 20 k []
set_option maxHeartbeats 4000000 in
theorem markText_any (k : Nat) (h0 : 0 < k) (hk : k < 10 ^ 12) (w : World) :
    Calls Try.prog 63 #[.int .i64 (k : Int)] w fun e w' => e = .returned (.string (tB (mtL k))) ∧ Below w.heap.size w w' := by
  have hk0 : (10 : Nat) ^ 12 = 1000000000000 := by decide
  have hk1 : ¬ (k : Int) ≤ 0 := by omega
  have HT := Lib.hid (show ∃ T, dgF 20 k [] = T from ⟨_, rfl⟩)
  obtain ⟨T, hT⟩ := HT.out
  have HM := Lib.hid (show mtL k = 109 :: T by unfold mtL; rw [hT])
  have HT := Lib.hid hT
  have HK := Lib.hid hk
  clear hT hk0
  go_enter Try.func63, Try.ntmps63
  go_wp2
  go_loopw [0, 3] (fun k_ o_ wr => ∃ (j f m : Nat) (o : List UInt8), k_ = .int .i64 (j : Int) ∧ o_ = .string (tB o) ∧ dgF f j o = T ∧ j < 10 ^ m ∧ o.length + m ≤ 12 ∧ m < f ∧ j < 1000000000000 ∧ Below w.heap.size w wr) (fun k_ _ _ => (intOf k_).toNat)
  case atStart => exact ⟨k, 20, 12, [], rfl, rfl, HT.out, HK.out, by decide, by decide, by have := HK.out; omega, Below.refl _ _⟩
  case round =>
    obtain ⟨j, f, m, o, rfl, rfl, hd, hj, hom, hmf, hjb, hb⟩ := hrel
    have HJ := Lib.hid hj
    have HB := Lib.hid hb
    clear hj hb
    obtain ⟨f, rfl⟩ : ∃ f', f = f' + 1 := ⟨f - 1, by omega⟩
    by_cases hj0 : 0 < j
    · have hj1 : (0 : Int) < (j : Int) := by omega
      obtain ⟨m, rfl⟩ : ∃ m', m = m' + 1 := by
        cases m with
        | zero => have := HJ.out; rw [Nat.pow_zero] at this; omega
        | succ m => exact ⟨m, rfl⟩
      have HN := Lib.hid (show dgF f (j / 10) (digB j :: o) = T by rw [← hd, dgF, if_neg (by omega)])
      have HJ2 := Lib.hid (show j / 10 < 10 ^ m by have := HJ.out; rw [Nat.pow_succ] at this; omega)
      obtain ⟨r, hr⟩ : ∃ r : Int, r = (48 : Int) + (j : Int) % 10 := ⟨_, rfl⟩
      obtain ⟨q, hq⟩ : ∃ q : Nat, q = j / 10 := ⟨_, rfl⟩
      have T0 : IntKind.i64.wrap ((j : Int) / 10) = (q : Int) := by rw [hq]; exact IntWalk.i64_in _ (by omega)
      have T4 : (j : Int) / 10 = (q : Int) := by omega
      have DC := fun (W : World) (g : Nat) (h : W.cell? ⟨g, 0, none⟩ = some (.int .u8 r)) => oneDigit j W g (by rw [h, hr])
      have T1 : IntKind.i64.wrap (48 + (j : Int).tmod 10) = r := by rw [Int.tmod_eq_emod_of_nonneg (by omega), hr]; exact IntWalk.i64_in _ (by omega)
      have T2 : 48 + (j : Int).tmod 10 = r := by rw [Int.tmod_eq_emod_of_nonneg (by omega), hr]
      have T5 : 48 + (j : Int) % 10 = r := hr.symm
      have T3 : IntKind.u8.wrap r = r := IntWalk.u8_in _ (by omega)
      have hS2 : ¬ (9223372036854775807 < (tB o).size + 1) := by rw [tB_size]; omega
      have hS3 : ¬ (9223372036854775807 < 1 + (tB o).size) := by rw [tB_size]; omega
      have TC := Lib.hid (show (⟨#[digB j]⟩ : ByteArray) ++ tB o = tB (digB j :: o) from by
        apply ByteArray.ext
        simp [tB, ByteArray.data_append])
      have HQ := Lib.hid hq
      clear hr hd hq
      go_wp2
      go_roundw
      case rel => exact ⟨q, f, m, digB j :: o, rfl, by rw [← TC.out], by rw [HQ.out]; exact HN.out, by rw [HQ.out]; exact HJ2.out, by simp; omega, by omega, by have := HQ.out; omega, HB.out.alloc HB.out.size _⟩
      case measure => have := HQ.out; simp [intOf] <;> omega
    · obtain rfl : j = 0 := by omega
      have E := Lib.hid (show o = T by rw [← hd]; rfl)
      have hS2 : ¬ (9223372036854775807 < (tB o).size + 1) := by rw [tB_size]; omega
      have hS3 : ¬ (9223372036854775807 < 1 + (tB o).size) := by rw [tB_size]; omega
      go_wp2
      go_ret
      exact ⟨by rw [HM.out, ← E.out]; rfl, HB.out⟩
def mtV (j : Nat) : List Value := (List.range j).map fun i => Value.string (tB (mtL (i + 1)))
def mtR (n : Nat) : List (List UInt8) := (List.range n).map fun i => mtL (i + 1)
theorem mtV_len (j : Nat) : (mtV j).length = j := by simp [mtV]
theorem mtR_len (n : Nat) : (mtR n).length = n := by simp [mtR]
theorem mtR_map (n : Nat) : (mtR n).map encStr = mtV n := by unfold mtR mtV; rw [List.map_map]; rfl
theorem mtV_set {l : List Value} {j : Nat} (h : j < l.length) : (mtV j ++ l.drop j).set j (.string (tB (mtL (j + 1)))) = mtV (j + 1) ++ l.drop (j + 1) := by
  rw [List.set_append_right _ _ (by rw [mtV_len]; exact Nat.le_refl _), mtV_len, Nat.sub_self, List.drop_eq_getElem_cons h, List.set_cons_zero]
  unfold mtV
  rw [List.range_succ, List.map_append, List.append_assoc]
  rfl
set_option maxHeartbeats 4000000 in
theorem markStringS_any (v : Value) (n : Nat) (l : List Value) (base : Nat) (w : World) (hn : n ≤ 400) (hl : l.length = n) (hown : w.ownsRow base 9 1 v n l) :
    Calls Try.prog 28 #[v, .int .i64 1] w fun e w' => e = .returned (.int .i64 (1 + n)) ∧ w'.ownsRow base 9 1 v n ((mtR n).map encStr) ∧ w.grownBy w' v.ownBlock := by
  rw [mtR_map]
  by_cases h0 : n = 0
  · subst h0
    obtain ⟨A, c, rfl⟩ := vlen_own1 hown
    obtain rfl : l = [] := List.eq_nil_of_length_eq_zero hl
    have HO := Lib.hid hown
    clear hown hn
    go_enter Try.func28, Try.ntmps28
    go_wp2
    refine wp_loop_rounds 1 ?_
    rw [rounds_succ]; go_wp2
    go_ret
    exact ⟨by simp, HO.out, World.grownBy.refl w _⟩
  · obtain ⟨g, cap, rfl⟩ : ∃ g cap, v = .slice (some ⟨g, 0, none⟩) n cap := by
      rcases hown.2 with ⟨_, h⟩ | ⟨g, cap, cur, h, _⟩
      · omega
      · exact ⟨g, cap, h⟩
    have HO := Lib.hid hown
    have HL := Lib.hid hl
    have hgb := Lib.hid ((hown.lt g rfl).1)
    clear hown h0 hl
    go_enter Try.func28, Try.ntmps28
    go_wp2
    go_loopw [1, 5] (fun x i wr => ∃ j : Nat, j ≤ n ∧ i = .int .i64 j ∧ x = .int .i64 (1 + (j : Int)) ∧ wr.ownsRow base 9 1 (.slice (some ⟨g, 0, none⟩) n cap) n (mtV j ++ l.drop j) ∧ w.grownBy wr (some g)) (fun _ i _ => n - (intOf i).toNat)
    case atStart => exact ⟨0, Nat.zero_le _, rfl, by simp, by simpa [mtV] using HO.out, World.grownBy.refl w _⟩
    case round =>
      obtain ⟨j, hj, rfl, rfl, how, hgr⟩ := hrel
      have HW := Lib.hid how
      have HG := Lib.hid hgr
      clear how hgr
      by_cases hlt : j < n
      · have SE := Lib.hid (mtV_set (l := l) (j := j) (by have := HL.out; omega))
        obtain ⟨k, hk⟩ : ∃ k : Nat, k = j + 1 := ⟨_, rfl⟩
        have ek : (1 : Int) + (j : Int) = (k : Int) := by omega
        have LM := Lib.hid (fun W => markText_any k (by omega) (by have : (10 : Nat) ^ 12 = 1000000000000 := by decide
                                                                   omega) W)
        rw [← hk] at SE
        rw [ek]
        have hk2 : k ≤ 400 := by omega
        have HK := Lib.hid hk
        clear hk ek
        go_wp2_with fail
        refine (LM.out _).mono ?_
        rintro e w3 ⟨rfl, h3⟩
        have HW3 := Lib.hid (ownBelow HW.out h3)
        have HG3 := Lib.hid (HG.out.trans (show wr.grownBy w3 (some g) from ⟨h3.os, h3.tape, h3.output, h3.size, fun i hi _ => h3.block i hi⟩))
        have hcl : j < (mtV j ++ l.drop j).length := by rw [List.length_append, mtV_len, List.length_drop]; have := HL.out; omega
        obtain ⟨u, hu⟩ : ∃ u, w3.cell? ⟨g, j, none⟩ = some u := ⟨_, (HW3.out.cellAt j (by omega)).trans (List.getElem?_eq_getElem hcl)⟩
        have fz := HW3.out.frozenAt
        clear h3 hcl
        go_wp2
        go_roundw
        case rel => exact ⟨j + 1, by omega, by go_num, by first | go_num | (have := HK.out; congr 1; push_cast; omega), (by have SE2 := SE.out; rw [HK.out] at SE2; (try rw [HK.out]); rw [← SE2]; exact (HW3.out.stored j _).1), only_set2 HG3.out _ _⟩
        case measure => simp [intOf] <;> omega
      · obtain rfl : j = n := by omega
        have E := Lib.hid (show mtV j ++ l.drop j = mtV j by rw [List.drop_eq_nil_of_le (by have := HL.out; omega), List.append_nil])
        go_wp2
        go_ret
        exact ⟨rfl, by rw [← E.out]; exact HW.out, HG.out⟩
set_option maxHeartbeats 4000000 in
theorem heldStringS_any (v : Value) (n : Nat) (w : World) (hn : n ≤ 400) (hs : StrsOf w v (mtR n)) :
    Calls Try.prog 29 #[v, .int .i64 1] w fun e w' => e = .returned (.int .i64 (1 + n)) ∧ Below w.heap.size w w' := by
  obtain ⟨A, c, rfl, hs⟩ := hs
  have HS := Lib.hid hs
  clear hs
  rw [mtR_len]
  go_enter Try.func29, Try.ntmps29
  go_wp2
  go_loopw [1, 5] (fun x i wr => ∃ j : Nat, j ≤ n ∧ i = .int .i64 j ∧ x = .int .i64 (1 + (j : Int)) ∧ Below w.heap.size w wr) (fun _ i _ => n - (intOf i).toNat)
  case atStart => exact ⟨0, Nat.zero_le _, rfl, by simp, Below.refl _ _⟩
  case round =>
    obtain ⟨j, hj, rfl, rfl, hb⟩ := hrel
    have HB := Lib.hid hb
    clear hb
    by_cases hlt : j < n
    · obtain ⟨g, o, rfl, hg, hat⟩ := HS.out (by rw [mtR_len]; omega)
      have p0 := hat.below HB.out hg j (by rw [mtR_len]; exact hlt)
      rw [show (mtR n)[j]'(by rw [mtR_len]; exact hlt) = mtL (j + 1) by simp [mtR]] at p0
      have z0 := Nat.lt_of_lt_of_le hg HB.out.size
      obtain ⟨k, hk⟩ : ∃ k : Nat, k = j + 1 := ⟨_, rfl⟩
      have ek : (1 : Int) + (j : Int) = (k : Int) := by omega
      have LM := Lib.hid (fun W => markText_any k (by omega) (by have : (10 : Nat) ^ 12 = 1000000000000 := by decide
                                                                 omega) W)
      rw [← hk] at p0
      rw [ek]
      have hk2 : k ≤ 400 := by omega
      have HK := Lib.hid hk
      have e0 : ((tB (mtL k)).toList == (tB (mtL k)).toList) = true := by simp
      clear hk ek hat
      generalize tB (mtL k) = T at *
      replace p0 := belowBy_cell z0 p0
      go_wp2
      refine wp_region_below (by kernel_rfl) (by kernel_rfl) ?_
      iterate 7 (first | go_big_quiet_step ((go_at_call 63; exact calls_below (LM.out _))) | quiet_step ((go_at_call 63; exact calls_below (LM.out _))))
      refine wpQuiet_nil ?_
      rintro wq ⟨⟨_, hq⟩, rfl⟩
      have B2 := Lib.hid (bnext HB.out hq)
      clear p0 hq
      go_wp2
      go_roundw
      case rel => exact ⟨j + 1, by omega, by go_num, by first | go_num | (have := HK.out; congr 1; push_cast; omega), B2.out⟩
      case measure => simp [intOf] <;> omega
    · obtain rfl : j = n := by omega
      go_wp2
      go_ret
      exact ⟨rfl, HB.out⟩
end Go.Proofs.Ytnkkabbndmfhmaa
