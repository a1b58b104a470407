/- Labels with two bytes exchanged, by the model: a contract. No condition. -/
import Derived.Test.YtimojjkblofhnaaNlQ
import Derived.Test.YtimojjkblofhnaaLabV
namespace Go.Proofs.Ytimojjkblofhnaa
set_option linter.unusedSimpArgs false
set_option linter.unusedVariables false
set_option maxRecDepth 100000
open Go.RowKit

/-- A text with two neighbours exchanged. -/
def swT (T : List UInt8) (p : Nat) : List UInt8 := T.take p ++ ((T.drop (p + 1)).take 1 ++ ((T.drop p).take 1 ++ T.drop (p + 2)))
theorem tB_extract (s : List UInt8) (a b : Nat) : (tB s).extract a b = tB ((s.drop a).take (b - a)) := by
  apply ByteArray.ext
  rw [ByteArray.data_extract]
  simp [tB]
theorem tB_append (s t : List UInt8) : tB s ++ tB t = tB (s ++ t) := by
  apply ByteArray.ext
  rw [ByteArray.data_append]
  simp [tB]
theorem swT_text (T : List UInt8) (h9 : T.length = 9) (i : Nat) (hi : i < 8) : (tB T).extract 0 i ++ (tB T).extract (i + 1) (i + 2) ++ (tB T).extract i (i + 1) ++ (tB T).extract (i + 2) 9 = tB (swT T i) := by
  rw [tB_extract, tB_extract, tB_extract, tB_extract, tB_append, tB_append, tB_append]
  unfold swT
  rw [List.drop_zero, Nat.sub_zero, show i + 2 - (i + 1) = 1 by omega, show i + 1 - i = 1 by omega, List.take_of_length_le (l := T.drop (i + 2)) (by rw [List.length_drop]; omega), List.append_assoc, List.append_assoc]
theorem swT_len (T : List UInt8) (h9 : T.length = 9) (i : Nat) (hi : i < 8) : (swT T i).length = 9 := by
  unfold swT
  simp
  omega
theorem toList_eqT {s t : List UInt8} : ((tB s).toList == (tB t).toList) = decide (s = t) := by
  rw [tB_toList, tB_toList]
  by_cases h : s = t
  · subst h; simp
  · rw [decide_eq_false h]; simpa using h
theorem swT_form {T : List UInt8} {p : Nat} (h : p + 1 < T.length) : swT T p = T.take p ++ (T[p + 1] :: T[p] :: T.drop (p + 2)) := by
  unfold swT
  have h1 : T.drop p = T[p] :: T.drop (p + 1) := List.drop_eq_getElem_cons (by omega)
  have h2 : T.drop (p + 1) = T[p + 1] :: T.drop (p + 2) := List.drop_eq_getElem_cons h
  rw [h1, h2]
  rfl
theorem swT_same {T : List UInt8} {p : Nat} (h : p + 1 < T.length) (e : T[p + 1] = T[p]) : swT T p = T := by
  rw [swT_form h, e]
  have h1 : T.drop p = T[p] :: T.drop (p + 1) := List.drop_eq_getElem_cons (by omega)
  have h2 : T.drop (p + 1) = T[p + 1] :: T.drop (p + 2) := List.drop_eq_getElem_cons h
  rw [e] at h2
  rw [← h2, ← h1, List.take_append_drop]
theorem swT_apart {T : List UInt8} (h9 : T.length = 9) (p q : Nat) (hpq : p < q) (hq : q < 8) (hp : swT T p ≠ T) (_ : swT T q ≠ T) : swT T p ≠ swT T q := by
  intro e
  apply hp
  have hl : p + 1 < T.length := by omega
  have hl2 : q + 1 < T.length := by omega
  apply swT_same hl
  have h1 : (swT T p)[p]? = some T[p + 1] := by
    rw [swT_form hl, List.getElem?_append_right (by simp; omega)]
    simp [Nat.min_eq_left (show p ≤ T.length by omega)]
  have h2 : (swT T q)[p]? = some T[p] := by
    rw [swT_form hl2, List.getElem?_append_left (by simp; omega), List.getElem?_take, if_pos hpq, List.getElem?_eq_getElem (by omega)]
  rw [e, h2] at h1
  exact (Option.some.inj h1).symm
theorem putTo_no {c : Nat → List UInt8} {T : List UInt8} {n : Nat} (h : okT T (c n) = false) : putTo c T (n + 1) = putTo c T n := by rw [putTo_succ, h]; rfl
theorem putTo_yes {c : Nat → List UInt8} {T : List UInt8} {n : Nat} (h : okT T (c n) = true) : putTo c T (n + 1) = putS (putTo c T n) (c n) := by rw [putTo_succ, if_pos h]
set_option maxHeartbeats 8000000 in
theorem specSwapped_nine (T : List UInt8) (hm : T.length ≤ maxLen) (h9 : T.length = 9) (w : World) :
    Calls Try.prog 14 #[.string (tB T)] w fun e w' => ∃ g o c, e = .returned (.tuple #[.slice (some ⟨g, o, none⟩) (putTo (swT T) T 8).length c, .int .i64 0]) ∧ g < w'.heap.size ∧ StrsAt w' g o (putTo (swT T) T 8) ∧ Below w.heap.size w w' := by
  have hs : (tB T).size = 9 := by rw [tB_size]; exact h9
  have HT9 := Lib.hid h9
  clear h9
  obtain ⟨S, hS⟩ : ∃ S, tB T = S := ⟨_, rfl⟩
  rw [hS] at hs ⊢
  have LI := Lib.hid (fun (s : List UInt8) (h : s.length ≤ maxLen) W => l07Is_any (tB s) (by rw [tB_size]; exact h) W)
  have G0 := Lib.hid (show Below w.heap.size w (w.alloc (.cells #[] 9)) from (Below.refl _ _).alloc (Nat.le_refl _) _)
  go_enter Try.func14, Try.ntmps14
  go_wp2
  go_loopw [4, 5] (fun v_ i_ wr => ∃ (i g o c : Nat), i ≤ 8 ∧ i_ = .int .i64 (i : Int) ∧ v_ = .slice (some ⟨g, o, none⟩) (putTo (swT T) T i).length c ∧ g < wr.heap.size ∧ StrsAt wr g o (putTo (swT T) T i) ∧ (putTo (swT T) T i).length ≤ c ∧ Below w.heap.size w wr) (fun _ i_ _ => 8 - (intOf i_).toNat)
  case atStart => exact ⟨0, w.heap.size, 0, 0, by omega, rfl, rfl, by simp, (fun i h => by simp [putTo, cndTo] at h), by simp [putTo, cndTo], G0.out⟩
  case round =>
    obtain ⟨i, g, o, c, hi, rfl, rfl, hg, hat, hc, hb⟩ := hrel
    have HA := Lib.hid hat
    have HB := Lib.hid hb
    have HC := Lib.hid hc
    have HLN := Lib.hid (putTo_len (swT T) T i)
    clear hat hb hc
    by_cases hlt : i < 8
    · have i1 : (i : Int) + 1 < 9 := by omega
      obtain ⟨ss, hss⟩ : ∃ z, putTo (swT T) T i = z := ⟨_, rfl⟩
      have HSS := Lib.hid hss
      rw [hss] at HA HC HLN
      rw [hss]
      clear hss
      go_wp2
      refine wp_region_below (by kernel_rfl) (by kernel_rfl) ?_
      iterate 22 (first | go_big_quiet_step (fail) | quiet_step (fail))
      refine wpQuiet_nil ?_
      rintro wq ⟨⟨_, hq⟩, rfl⟩
      have B1 := Lib.hid (bnext HB.out hq)
      have A1 := Lib.hid (HA.out.below hq hg)
      have g1 : g < wq.heap.size := Nat.lt_of_lt_of_le hg hq.size
      have ET := Lib.hid (show S.extract 0 i ++ S.extract (i + 1) (i + 2) ++ S.extract i (i + 1) ++ S.extract (i + 2) 9 = tB (swT T i) by rw [← hS]; exact swT_text T HT9.out i hlt)
      have LX := Lib.hid (swT_len T HT9.out i hlt)
      clear hq
      rw [ET.out]
      have EQT := Lib.hid (toList_eqT (s := swT T i) (t := T))
      rw [hS] at EQT
      by_cases he : swT T i = T
      · have e0 : ((tB (swT T i)).toList == S.toList) = true := by rw [EQT.out]; exact decide_eq_true he
        have PN := Lib.hid (putTo_no (c := swT T) (T := T) (n := i) (by unfold okT; rw [decide_eq_false (fun h => h he)]; rfl))
        clear he
        generalize tB (swT T i) = X at *
        go_wp2
        go_roundw
        case rel => exact ⟨i + 1, g, o, c, by omega, by go_num, by rw [PN.out, HSS.out], g1, by rw [PN.out, HSS.out]; exact A1.out, by rw [PN.out, HSS.out]; exact HC.out, B1.out⟩
        case measure => simp [intOf] <;> omega
      · have e0 : ((tB (swT T i)).toList == S.toList) = false := by rw [EQT.out]; exact decide_eq_false he
        have CL := Lib.hid (fun W => LI.out (swT T i) (by rw [LX.out]; unfold maxLen; decide) W)
        cases hl : lbl (swT T i)
        · have PN := Lib.hid (putTo_no (c := swT T) (T := T) (n := i) (by unfold okT; rw [hl, Bool.and_false]))
          rw [show isB (tB (swT T i)) = false from hl] at CL
          clear he hl
          generalize tB (swT T i) = X at *
          go_wp2_with fail
          refine (CL.out _).mono ?_
          rintro e w2 ⟨rfl, h2⟩
          go_wp2
          go_roundw
          case rel => exact ⟨i + 1, g, o, c, by omega, by go_num, by rw [PN.out, HSS.out], Nat.lt_of_lt_of_le g1 h2.size, by rw [PN.out, HSS.out]; exact A1.out.below h2 g1, by rw [PN.out, HSS.out]; exact HC.out, bnext B1.out h2⟩
          case measure => simp [intOf] <;> omega
        · have PN := Lib.hid (putTo_yes (c := swT T) (T := T) (n := i) (by unfold okT; rw [hl, decide_eq_true he]; rfl))
          rw [show isB (tB (swT T i)) = true from hl] at CL
          have PT := Lib.hid (fun W h1 h2 => l07Put_any g o c ss (swT T i) W h1 h2 HC.out (by have := HLN.out; omega))
          rw [HSS.out] at PN
          clear he hl
          generalize tB (swT T i) = X at *
          go_wp2_with fail
          refine (CL.out _).mono ?_
          rintro e w2 ⟨rfl, h2⟩
          go_wp2_with fail
          refine (PT.out _ (Nat.lt_of_lt_of_le g1 h2.size) (A1.out.below h2 g1)).mono ?_
          rintro e w3 ⟨g', o', c', rfl, g3, a3, c3, h3⟩
          have A3 := Lib.hid a3
          have C3 := Lib.hid c3
          have B3 := Lib.hid (bnext (bnext B1.out h2) h3)
          clear a3 c3 h2 h3
          go_wp2
          go_roundw
          case rel => exact ⟨i + 1, g', o', c', by omega, by go_num, by rw [PN.out], g3, by rw [PN.out]; exact A3.out, by rw [PN.out]; exact C3.out, B3.out⟩
          case measure => simp [intOf] <;> omega
    · obtain rfl : i = 8 := by omega
      go_wp2
      go_ret2
      exact ⟨g, o, c, rfl, hg, HA.out, HB.out⟩
def nlC (T : List UInt8) : Int := if T.length = 9 then 0 else 5
def swL (T : List UInt8) : List (List UInt8) := if T.length = 9 then lbs (swT T) T 8 else []
set_option maxHeartbeats 4000000 in
theorem specSwapped_any (T : List UInt8) (hm : T.length ≤ maxLen) (w : World) :
    Calls Try.prog 14 #[.string (tB T)] w fun e w' => ∃ u, e = .returned (.tuple #[u, .int .i64 (nlC T)]) ∧ StrsOf w' u (swL T) ∧ Below w.heap.size w w' := by
  by_cases h9 : T.length = 9
  · rw [show nlC T = 0 by unfold nlC; rw [if_pos h9], show swL T = putTo (swT T) T 8 by unfold swL; rw [if_pos h9, putTo_all 8 (fun p q hpq hq => swT_apart h9 p q hpq hq)]]
    refine (specSwapped_nine T hm h9 w).mono fun e w' h => ?_
    obtain ⟨g, o, c, rfl, h1, h2, h3⟩ := h
    exact ⟨_, rfl, ⟨_, c, rfl, fun _ => ⟨g, o, rfl, h1, h2⟩⟩, h3⟩
  · rw [show nlC T = 5 by unfold nlC; rw [if_neg h9], show swL T = [] by unfold swL; rw [if_neg h9]]
    have hs : (tB T).size = T.length := tB_size T
    have d0 : ((T.length : Int) != 9) = true := by rw [bne_iff_ne]; omega
    have hm2 : T.length ≤ 9223372036854775807 := by unfold maxLen at hm; omega
    generalize tB T = S at *
    go_enter Try.func14, Try.ntmps14
    go_wp2
    go_ret2
    exact ⟨_, rfl, ⟨_, 0, rfl, fun h => absurd h (Nat.lt_irrefl _)⟩, (Below.refl _ _).alloc (Nat.le_refl _) _⟩
end Go.Proofs.Ytimojjkblofhnaa
