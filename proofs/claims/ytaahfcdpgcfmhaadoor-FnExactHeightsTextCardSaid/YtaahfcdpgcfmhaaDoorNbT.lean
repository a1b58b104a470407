/- The text of several numbers, a byte between each two, by the program: contracts. Condition: the table of powers of ten is as laid; numbers none below nought; the bytes are not too many. -/
import Derived.Test.YtaahfcdpgcfmhaaDoorApB
import Derived.Test.YtaahfcdpgcfmhaaDoorNums
namespace Go.Proofs.YtaahfcdpgcfmhaaDoor
set_option linter.unusedSimpArgs false
set_option linter.unusedVariables false
set_option maxRecDepth 100000
open Go.RowKit

/-- The text of the first k numbers. -/
def numsTo (s : UInt8) (zs : List Int) : Nat → List UInt8
  | 0 => []
  | k + 1 => numsTo s zs k ++ ((if k = 0 then [] else [s]) ++ dec (zs.getD k 0))
theorem int_getD {zs : List Int} {k : Nat} (h : k < zs.length) : zs.getD k 0 = zs[k] := by
  rw [List.getD_eq_getElem?_getD, List.getElem?_eq_getElem h]; rfl
theorem numsTo_first {s : UInt8} {zs : List Int} (h : 0 < zs.length) : numsTo s zs 1 = dec zs[0] := by
  rw [numsTo, numsTo, int_getD h]; rfl
theorem numsTo_succ {s : UInt8} {zs : List Int} {k : Nat} (h0 : k ≠ 0) (h : k < zs.length) : numsTo s zs (k + 1) = numsTo s zs k ++ ([s] ++ dec zs[k]) := by
  rw [numsTo, int_getD h, if_neg h0]
theorem numsTo_len {s : UInt8} {zs : List Int} (hz : ∀ z ∈ zs, 0 ≤ z ∧ z ≤ 1000000) : ∀ k, k ≤ zs.length → (numsTo s zs k).length ≤ 21 * k
  | 0, _ => by simp [numsTo]
  | k + 1, h => by
    have h1 := numsTo_len (s := s) hz k (by omega)
    have h2 := dec_len (z := zs[k]) (by have := hz _ (List.getElem_mem (show k < zs.length by omega)); omega)
    have h3 : (if k = 0 then [] else [s] : List UInt8).length ≤ 1 := by split <;> simp
    rw [numsTo, int_getD (by omega)]
    simp only [List.length_append]
    omega

set_option maxHeartbeats 8000000 in
theorem appendNumbers_i64 (zs : List Int) (hz : ∀ z ∈ zs, 0 ≤ z ∧ z ≤ 32767) (s : UInt8) (sv : Int) (hsv : sv = (s.toNat : Int)) (B : Nat) (L : List UInt8) (v : Value) (w : World) (ht : Txt w B v L) (hB : B ≤ w.heap.size) (hlim : L.length ≤ 100000000) (hn : zs.length ≤ 1000) (htab : Tab B w) (A : Option Addr) (c : Nat) (hk : ∀ W, Kp B w W → IntsOf .i64 W (.slice A zs.length c) zs) :
    Calls Tryd.prog 96 #[v, .slice A zs.length c, .int .u8 sv] w fun e w' => ∃ v', e = .returned v' ∧ Txt w' B v' (L ++ numsTo s zs zs.length) ∧ Kp B w w' := by
  obtain ⟨i0, hi0, hz0, hz1, hz2⟩ := info_parts infoByteT
  have HK := Lib.hid hk
  have HT := Lib.hid htab
  have HZ := Lib.hid hz
  have HL := Lib.hid (numsTo_len (s := s) (fun z h => ⟨(hz z h).1, Int.le_trans (hz z h).2 (by decide)⟩))
  have T0 := Lib.hid ht
  have ES := Lib.hid (show Value.int .u8 sv = .int .u8 (s.toNat : Int) by rw [hsv])
  clear hk htab hz ht hsv
  go_enter Tryd.func96, Tryd.ntmps96
  go_wp2
  go_loopw [0, 11] (fun o i wr => ∃ k : Nat, k ≤ zs.length ∧ i = .int .i64 k ∧ Txt wr B o (L ++ numsTo s zs k) ∧ Kp B w wr) (fun _ i _ => zs.length - (intOf i).toNat)
  case atStart => exact ⟨0, Nat.zero_le _, rfl, by show Txt w B v (L ++ []); rw [List.append_nil]; exact T0.out, Kp.refl _ _⟩
  case round =>
    obtain ⟨k, hk, rfl, ht, hb⟩ := hrel
    have TR := Lib.hid ht
    have KR := Lib.hid hb
    have zr := hb.size
    clear ht
    by_cases hlt : k < zs.length
    · obtain ⟨A', c', e1, hs⟩ := HK.out wr hb
      injection e1 with e1 e2 e3
      subst e1
      subst e3
      obtain ⟨ga, oa, rfl, hga, hat⟩ := hs (by omega)
      have p0 := hat k hlt
      have zk := HZ.out _ (List.getElem_mem hlt)
      obtain ⟨zk1, zk2⟩ := zk
      have l1 := HL.out k hk
      clear hat hb hs e2
      by_cases h0 : k = 0
      · subst h0
        have EF := Lib.hid (numsTo_first (s := s) hlt)
        rw [Nat.add_zero] at p0
        go_wp2_with fail
        refine (number_txt B zs[0] zk1 (by omega) [] (L ++ numsTo s zs 0) _ _ TR.out (by omega) (by simp only [List.length_append, List.length_nil]; omega) (HT.out.on KR.out.b)).mono ?_
        rintro e w2 ⟨v2, rfl, ht2, hk2⟩
        have T2 := Lib.hid (show Txt w2 B v2 (L ++ numsTo s zs 1) by
          rw [EF.out]
          have h := ht2
          rw [List.append_nil, show L ++ numsTo s zs 0 = L from List.append_nil L] at h
          exact h)
        have G2 := Lib.hid (KR.out.trans hk2)
        clear ht2 hk2 p0
        go_wp2
        exact ⟨⟨1, hlt, by simp, T2.out, G2.out⟩, by simp only [intOf]; omega⟩
      · have EF := Lib.hid (numsTo_succ (s := s) h0 hlt)
        have hpos : 0 < k := by omega
        have TX := Lib.hid (show Txt (wr.alloc (.cells #[.int .u8 sv] 5)) B u0 (L ++ numsTo s zs k) from TR.out.below ((Below.refl _ _).alloc (Nat.le_refl _) _))
        have pX : (wr.alloc (.cells #[.int .u8 sv] 5)).cell? ⟨ga, oa + k, none⟩ = some (.int .i64 zs[k]) := (Below.cell ((Below.refl wr.heap.size wr).alloc (Nat.le_refl _) _) (p := ⟨ga, oa + k, none⟩) hga).trans p0
        go_wp2_with (at_builtin; refine wpList_append_own _ rfl (.tmp 18) (.tmp 20) _ rfl B 5 i0 (.int .u8 0) 1 1 Tryd.underlying121 hi0 hz0 hz1 hz2 rfl (by decide) _ _ _ rfl TX.out ⟨wr.heap.size, 0, none⟩ 1 1 [.int .u8 sv] rfl rfl (cellOne wr _ _) ?d2a ?d3a ?d4a ?d5a ?_)
        case d2a => (intro u hu; simp at hu; subst hu; rfl)
        case d3a => (simp only [List.length_append, List.length_cons, List.length_nil]; unfold maxLen; omega)
        case d4a => (simp only [List.length_append, List.length_cons, List.length_nil]; omega)
        case d5a => (simp; omega)
        intro v3 w3 hown3 hgrow3 _
        have T3 := Lib.hid (show Txt w3 B v3 (L ++ numsTo s zs k ++ [s]) by
          refine Txt.of hown3 ?_ ?_
          · simp only [List.length_append, List.length_cons, List.length_nil]
          · rw [ES.out, Lib.byteCells_append _ [s]]
            rfl)
        have G3 := Lib.hid ((KR.out.alloc (by omega) (.cells #[.int .u8 sv] 5)).grown TX.out hgrow3 (by simp; omega))
        have z3 := G3.out.size
        clear hown3 hgrow3 p0 pX
        go_wp2_with fail
        refine (number_txt B zs[k] zk1 (by omega) [] (L ++ numsTo s zs k ++ [s]) _ _ T3.out (by omega) (by simp only [List.length_append, List.length_cons, List.length_nil]; omega) (HT.out.on G3.out.b)).mono ?_
        rintro e w2 ⟨v2, rfl, ht2, hk2⟩
        have T2 := Lib.hid (show Txt w2 B v2 (L ++ numsTo s zs (k + 1)) by
          rw [EF.out]
          have h := ht2
          rw [List.append_nil, List.append_assoc, List.append_assoc] at h
          exact h)
        have G2 := Lib.hid (G3.out.trans hk2)
        clear ht2 hk2
        go_wp2
        exact ⟨⟨k + 1, hlt, by simp, T2.out, G2.out⟩, by simp only [intOf]; omega⟩
    · have ek : k = zs.length := by omega
      have TE := Lib.hid (show Txt wr B u0 (L ++ numsTo s zs zs.length) by rw [← ek]; exact TR.out)
      go_wp2
      go_ret
      exact ⟨_, rfl, TE.out, KR.out⟩
set_option maxHeartbeats 8000000 in
theorem appendNumbers_i16 (zs : List Int) (hz : ∀ z ∈ zs, 0 ≤ z ∧ z ≤ 32767) (s : UInt8) (sv : Int) (hsv : sv = (s.toNat : Int)) (B : Nat) (L : List UInt8) (v : Value) (w : World) (ht : Txt w B v L) (hB : B ≤ w.heap.size) (hlim : L.length ≤ 100000000) (hn : zs.length ≤ 1000) (htab : Tab B w) (A : Option Addr) (c : Nat) (hk : ∀ W, Kp B w W → IntsOf .i16 W (.slice A zs.length c) zs) :
    Calls Tryd.prog 90 #[v, .slice A zs.length c, .int .u8 sv] w fun e w' => ∃ v', e = .returned v' ∧ Txt w' B v' (L ++ numsTo s zs zs.length) ∧ Kp B w w' := by
  obtain ⟨i0, hi0, hz0, hz1, hz2⟩ := info_parts infoByteT
  have HK := Lib.hid hk
  have HT := Lib.hid htab
  have HZ := Lib.hid hz
  have HL := Lib.hid (numsTo_len (s := s) (fun z h => ⟨(hz z h).1, Int.le_trans (hz z h).2 (by decide)⟩))
  have T0 := Lib.hid ht
  have ES := Lib.hid (show Value.int .u8 sv = .int .u8 (s.toNat : Int) by rw [hsv])
  clear hk htab hz ht hsv
  go_enter Tryd.func90, Tryd.ntmps90
  go_wp2
  go_loopw [0, 11] (fun o i wr => ∃ k : Nat, k ≤ zs.length ∧ i = .int .i64 k ∧ Txt wr B o (L ++ numsTo s zs k) ∧ Kp B w wr) (fun _ i _ => zs.length - (intOf i).toNat)
  case atStart => exact ⟨0, Nat.zero_le _, rfl, by show Txt w B v (L ++ []); rw [List.append_nil]; exact T0.out, Kp.refl _ _⟩
  case round =>
    obtain ⟨k, hk, rfl, ht, hb⟩ := hrel
    have TR := Lib.hid ht
    have KR := Lib.hid hb
    have zr := hb.size
    clear ht
    by_cases hlt : k < zs.length
    · obtain ⟨A', c', e1, hs⟩ := HK.out wr hb
      injection e1 with e1 e2 e3
      subst e1
      subst e3
      obtain ⟨ga, oa, rfl, hga, hat⟩ := hs (by omega)
      have p0 := hat k hlt
      have zk := HZ.out _ (List.getElem_mem hlt)
      obtain ⟨zk1, zk2⟩ := zk
      have l1 := HL.out k hk
      clear hat hb hs e2
      by_cases h0 : k = 0
      · subst h0
        have EF := Lib.hid (numsTo_first (s := s) hlt)
        rw [Nat.add_zero] at p0
        go_wp2_with fail
        refine (number_txt B zs[0] zk1 (by omega) [] (L ++ numsTo s zs 0) _ _ TR.out (by omega) (by simp only [List.length_append, List.length_nil]; omega) (HT.out.on KR.out.b)).mono ?_
        rintro e w2 ⟨v2, rfl, ht2, hk2⟩
        have T2 := Lib.hid (show Txt w2 B v2 (L ++ numsTo s zs 1) by
          rw [EF.out]
          have h := ht2
          rw [List.append_nil, show L ++ numsTo s zs 0 = L from List.append_nil L] at h
          exact h)
        have G2 := Lib.hid (KR.out.trans hk2)
        clear ht2 hk2 p0
        go_wp2
        exact ⟨⟨1, hlt, by simp, T2.out, G2.out⟩, by simp only [intOf]; omega⟩
      · have EF := Lib.hid (numsTo_succ (s := s) h0 hlt)
        have hpos : 0 < k := by omega
        have TX := Lib.hid (show Txt (wr.alloc (.cells #[.int .u8 sv] 5)) B u0 (L ++ numsTo s zs k) from TR.out.below ((Below.refl _ _).alloc (Nat.le_refl _) _))
        have pX : (wr.alloc (.cells #[.int .u8 sv] 5)).cell? ⟨ga, oa + k, none⟩ = some (.int .i16 zs[k]) := (Below.cell ((Below.refl wr.heap.size wr).alloc (Nat.le_refl _) _) (p := ⟨ga, oa + k, none⟩) hga).trans p0
        go_wp2_with (at_builtin; refine wpList_append_own _ rfl (.tmp 18) (.tmp 20) _ rfl B 5 i0 (.int .u8 0) 1 1 Tryd.underlying121 hi0 hz0 hz1 hz2 rfl (by decide) _ _ _ rfl TX.out ⟨wr.heap.size, 0, none⟩ 1 1 [.int .u8 sv] rfl rfl (cellOne wr _ _) ?d2a ?d3a ?d4a ?d5a ?_)
        case d2a => (intro u hu; simp at hu; subst hu; rfl)
        case d3a => (simp only [List.length_append, List.length_cons, List.length_nil]; unfold maxLen; omega)
        case d4a => (simp only [List.length_append, List.length_cons, List.length_nil]; omega)
        case d5a => (simp; omega)
        intro v3 w3 hown3 hgrow3 _
        have T3 := Lib.hid (show Txt w3 B v3 (L ++ numsTo s zs k ++ [s]) by
          refine Txt.of hown3 ?_ ?_
          · simp only [List.length_append, List.length_cons, List.length_nil]
          · rw [ES.out, Lib.byteCells_append _ [s]]
            rfl)
        have G3 := Lib.hid ((KR.out.alloc (by omega) (.cells #[.int .u8 sv] 5)).grown TX.out hgrow3 (by simp; omega))
        have z3 := G3.out.size
        clear hown3 hgrow3 p0 pX
        go_wp2_with fail
        refine (number_txt B zs[k] zk1 (by omega) [] (L ++ numsTo s zs k ++ [s]) _ _ T3.out (by omega) (by simp only [List.length_append, List.length_cons, List.length_nil]; omega) (HT.out.on G3.out.b)).mono ?_
        rintro e w2 ⟨v2, rfl, ht2, hk2⟩
        have T2 := Lib.hid (show Txt w2 B v2 (L ++ numsTo s zs (k + 1)) by
          rw [EF.out]
          have h := ht2
          rw [List.append_nil, List.append_assoc, List.append_assoc] at h
          exact h)
        have G2 := Lib.hid (G3.out.trans hk2)
        clear ht2 hk2
        go_wp2
        exact ⟨⟨k + 1, hlt, by simp, T2.out, G2.out⟩, by simp only [intOf]; omega⟩
    · have ek : k = zs.length := by omega
      have TE := Lib.hid (show Txt wr B u0 (L ++ numsTo s zs zs.length) by rw [← ek]; exact TR.out)
      go_wp2
      go_ret
      exact ⟨_, rfl, TE.out, KR.out⟩
end Go.Proofs.YtaahfcdpgcfmhaaDoor
