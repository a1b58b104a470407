/- The text of acts, by the model and by the program: contracts. Condition: the table of powers of ten is as laid. -/
import Derived.Test.YtaahfcdpgcfmhaaDoorAcX
namespace Go.Proofs.YtaahfcdpgcfmhaaDoor
set_option linter.unusedSimpArgs false
set_option linter.unusedVariables false
set_option maxRecDepth 100000
open Go.RowKit

/-- The text of the first k acts, a line each. -/
def actsTo (ms : List Ac) : Nat → List UInt8
  | 0 => []
  | k + 1 => actsTo ms k ++ (actT (ms.getD k default) ++ [10])
theorem ac_getD {ms : List Ac} {k : Nat} (h : k < ms.length) : ms.getD k default = ms[k] := by
  rw [List.getD_eq_getElem?_getD, List.getElem?_eq_getElem h]; rfl
theorem actsTo_succ {ms : List Ac} {k : Nat} (h : k < ms.length) : actsTo ms (k + 1) = actsTo ms k ++ (actT ms[k] ++ [10]) := by
  rw [actsTo, ac_getD h]
def AcTo (ms : List Ac) (k : Nat) : Prop := ∀ (i : Nat) (h : i < ms.length), i < k → actB ms[i] = true
theorem AcTo.succ {ms : List Ac} {k : Nat} (h : AcTo ms k) (hk : k < ms.length) (hb : actB ms[k] = true) : AcTo ms (k + 1) := by
  intro i hi hik
  by_cases e : i = k
  · subst e; exact hb
  · exact h i hi (by omega)
theorem actsTo_len {ms : List Ac} : ∀ k, k ≤ ms.length → AcTo ms k → (actsTo ms k).length ≤ 51 * k
  | 0, _, _ => by simp [actsTo]
  | k + 1, h, hm => by
    have h1 := actsTo_len k (by omega) (fun i hi hik => hm i hi (by omega))
    have h2 := actT_len (hm k (by omega) (by omega))
    rw [actsTo_succ (by omega)]
    simp only [List.length_append, List.length_cons, List.length_nil]
    omega
/-- The acts have a text. -/
def atxB (ms : List Ac) : Bool := ms.all actB && decide (ms.length ≤ 200)
theorem atx_bad {ms : List Ac} {k : Nat} (hk : k < ms.length) (h : actB ms[k] = false) : atxB ms = false := by
  unfold atxB
  rw [show ms.all actB = false from by rw [List.all_eq_false]; exact ⟨ms[k], List.getElem_mem hk, by rw [h]; simp⟩]
  rfl
theorem atx_long {ms : List Ac} (h : 200 < ms.length) : atxB ms = false := by
  unfold atxB
  rw [decide_eq_false (by omega)]
  simp
theorem atx_ok {ms : List Ac} (h1 : ms.length ≤ 200) (h : AcTo ms ms.length) : atxB ms = true := by
  unfold atxB
  rw [decide_eq_true h1, Bool.and_true, List.all_eq_true]
  intro z hz
  obtain ⟨k, hk, rfl⟩ := List.getElem_of_mem hz
  exact h k hk hk
/-- What ActsText answers. -/
def actsS (ms : List Ac) : ByteArray := if atxB ms then strOf (actsTo ms ms.length) else ⟨#[]⟩
set_option maxHeartbeats 4000000 in
theorem l06ListText_any (v : Value) (ms : List Ac) (ha : AcTo ms ms.length) (w : World) (hs : ActsOf w v ms) (hn : ms.length ≤ 200) :
    Calls Tryd.prog 114 #[v] w fun e w' => e = .returned (.string (strOf (actsTo ms ms.length))) ∧ Below w.heap.size w w' := by
  obtain ⟨A, c, rfl, hs⟩ := hs
  have HS := Lib.hid hs
  have HA := Lib.hid ha
  clear hs ha
  go_enter Tryd.func114, Tryd.ntmps114
  go_wp2
  go_loopw [3, 4] (fun o i wr => ∃ k : Nat, k ≤ ms.length ∧ i = .int .i64 k ∧ o = .string (strOf (actsTo ms k)) ∧ Below w.heap.size w wr) (fun _ i _ => ms.length - (intOf i).toNat)
  case atStart => exact ⟨0, Nat.zero_le _, rfl, rfl, Below.refl _ _⟩
  case round =>
    obtain ⟨k, hk, rfl, rfl, hb⟩ := hrel
    by_cases hlt : k < ms.length
    · obtain ⟨ga, oa, rfl, hga, hat⟩ := HS.out (by omega)
      obtain ⟨p0, p1, p2⟩ := hat.below hb hga k hlt
      have LT := Lib.hid (l06Text_any ms[k] (HA.out k hlt hlt) wr)
      have ES := Lib.hid (actsTo_succ hlt)
      have l1 := actsTo_len k hk (fun i hi hik => HA.out i hi hi)
      have l2 := actT_len (HA.out k hlt hlt)
      have s1 := strOf_size (actsTo ms k)
      have s2 := strOf_size (actT ms[k])
      have s3 : (⟨#[10]⟩ : ByteArray).size = 1 := rfl
      have CT := Lib.hid (show strOf (actsTo ms k) ++ (strOf (actT ms[k]) ++ ⟨#[10]⟩) = strOf (actsTo ms (k + 1)) by
        rw [ES.out, ← strOf_cat, ← strOf_cat]
        rfl)
      have HB := Lib.hid hb
      clear hat hb
      have a1 : ¬ (9223372036854775807 < (strOf (actT ms[k])).size + 1) := by omega
      have a2 : ¬ (9223372036854775807 < (strOf (actsTo ms k)).size + ((strOf (actT ms[k])).size + 1)) := by omega
      generalize strOf (actT ms[k]) = T at *
      generalize hS : strOf (actsTo ms k) = S at *
      clear s1 s2 s3 l1 l2 hS
      go_wp2_with fail
      refine LT.out.mono ?_
      rintro e w1 ⟨rfl, h1⟩
      have hb1 := bnext HB.out h1
      clear p0 p1 p2
      go_wp2
      exact ⟨⟨k + 1, hlt, by simp, by rw [CT.out], hb1⟩, by simp only [intOf]; omega⟩
    · have ek : k = ms.length := by omega
      have EK := Lib.hid (show actsTo ms k = actsTo ms ms.length by rw [ek])
      go_wp2
      go_ret
      exact ⟨by rw [EK.out]; rfl, hb⟩
set_option maxHeartbeats 4000000 in
theorem specActsText_any (v : Value) (ms : List Ac) (hw : ∀ m ∈ ms, m.Wf) (w : World) (hs : ActsOf w v ms) (hn : ms.length ≤ maxLen) :
    Calls Tryd.prog 57 #[v] w fun e w' => e = .returned (.string (actsS ms)) ∧ Below w.heap.size w w' := by
  have HM := Lib.hid hs
  obtain ⟨A, c, rfl, hs⟩ := hs
  have HS := Lib.hid hs
  have HW := Lib.hid hw
  unfold maxLen at hn
  clear hs hw
  go_enter Tryd.func57, Tryd.ntmps57
  go_wp2
  go_loopw [3] (fun i wr => ∃ k : Nat, k ≤ ms.length ∧ i = .int .i64 k ∧ AcTo ms k ∧ Below w.heap.size w wr) (fun i _ => ms.length - (intOf i).toNat)
  case atStart => exact ⟨0, Nat.zero_le _, rfl, fun _ _ h => absurd h (Nat.not_lt_zero _), Below.refl _ _⟩
  case round =>
    obtain ⟨k, hk, rfl, hno, hb⟩ := hrel
    have HN := Lib.hid hno
    have HB := Lib.hid hb
    clear hno hb
    by_cases hlt : k < ms.length
    · obtain ⟨ga, oa, rfl, hga, hat⟩ := HS.out (by omega)
      obtain ⟨p0, p1, p2⟩ := hat.below HB.out hga k hlt
      have LA := Lib.hid (l06Act_any ms[k] (HW.out _ (List.getElem_mem hlt)) wr)
      clear hat
      go_wp2_with fail
      refine LA.out.mono ?_
      rintro e w1 ⟨rfl, h1⟩
      have B1 := Lib.hid (bnext HB.out h1)
      clear p0 p1 p2 h1
      cases hf : actB ms[k]
      · have E := Lib.hid (show actsS ms = ⟨#[]⟩ by unfold actsS; rw [atx_bad hlt hf]; rfl)
        go_wp2
        go_ret
        exact ⟨by rw [E.out]; rfl, B1.out⟩
      · have H1 := Lib.hid (HN.out.succ hlt hf)
        go_wp2
        exact ⟨⟨k + 1, by omega, by simp, H1.out, B1.out⟩, by simp only [intOf]; omega⟩
    · obtain rfl : k = ms.length := by omega
      by_cases h200 : 200 < ms.length
      · have E := Lib.hid (show actsS ms = ⟨#[]⟩ by unfold actsS; rw [atx_long h200]; rfl)
        have g200 : (200 : Int) < (ms.length : Int) := by omega
        go_wp2
        go_ret
        exact ⟨by rw [E.out]; rfl, HB.out⟩
      · have E := Lib.hid (show actsS ms = strOf (actsTo ms ms.length) by unfold actsS; rw [atx_ok (by omega) HN.out]; rfl)
        have g200 : ¬ (200 : Int) < (ms.length : Int) := by omega
        have LT := Lib.hid (l06ListText_any _ ms HN.out wr (HM.out.below HB.out) (by omega))
        go_wp2_with fail
        refine LT.out.mono ?_
        rintro e w2 ⟨rfl, h2⟩
        go_wp2
        go_ret
        exact ⟨by rw [E.out]; rfl, bnext HB.out h2⟩
set_option maxHeartbeats 8000000 in
theorem actsText_any (v : Value) (ms : List Ac) (hw : ∀ m ∈ ms, m.Wf) (w : World) (hs : ActsOf w v ms) (hn : ms.length ≤ maxLen) (htab : Tab w.heap.size w) :
    Calls Tryd.prog 59 #[v] w fun e w' => e = .returned (.string (actsS ms)) ∧ Below w.heap.size w w' := by
  obtain ⟨i0, hi0, hz0, hz1, hz2⟩ := info_parts infoByteT
  obtain ⟨A, c, rfl, hs⟩ := hs
  have HS := Lib.hid hs
  have HW := Lib.hid hw
  have HT := Lib.hid htab
  unfold maxLen at hn
  clear hs hw htab
  by_cases h200 : 200 < ms.length
  · have E := Lib.hid (show actsS ms = ⟨#[]⟩ by unfold actsS; rw [atx_long h200]; rfl)
    have g200 : (200 : Int) < (ms.length : Int) := by omega
    go_enter Tryd.func59, Tryd.ntmps59
    go_wp2
    go_ret
    exact ⟨by rw [E.out]; rfl, Below.refl _ _⟩
  have g200 : ¬ (200 : Int) < (ms.length : Int) := by omega
  go_enter Tryd.func59, Tryd.ntmps59
  go_wp2
  go_loopw [3, 11] (fun o i wr => ∃ k : Nat, k ≤ ms.length ∧ i = .int .i64 k ∧ AcTo ms k ∧ Txt wr w.heap.size o (actsTo ms k) ∧ Kp w.heap.size w wr) (fun _ i _ => ms.length - (intOf i).toNat)
  case atStart => exact ⟨0, Nat.zero_le _, rfl, fun _ _ h => absurd h (Nat.not_lt_zero _), Txt.nil _ _, Kp.refl _ _⟩
  case round =>
    obtain ⟨k, hk, rfl, hno, ht, hb⟩ := hrel
    have HN := Lib.hid hno
    have TR := Lib.hid ht
    have KR := Lib.hid hb
    have zr := hb.size
    clear hno ht
    by_cases hlt : k < ms.length
    · obtain ⟨ga, oa, rfl, hga, hat⟩ := HS.out (by omega)
      obtain ⟨p0, p1, p2⟩ := hat.below hb.b hga k hlt
      have GX := Lib.hid (show Kp w.heap.size w (wr.alloc (.cells #[.int .i8 ms[k].wt, .int .i8 ms[k].wo, .int .i8 ms[k].bo] 89)) from KR.out.alloc zr _)
      have BX := Lib.hid (heap_alloc_new wr (.cells #[.int .i8 ms[k].wt, .int .i8 ms[k].wo, .int .i8 ms[k].bo] 89))
      have TX := Lib.hid (show Txt (wr.alloc (.cells #[.int .i8 ms[k].wt, .int .i8 ms[k].wo, .int .i8 ms[k].bo] 89)) w.heap.size u3 (actsTo ms k) from TR.out.below ((Below.refl _ _).alloc (Nat.le_refl _) _))
      have ZX := Lib.hid (show w.heap.size ≤ (wr.alloc (.cells #[.int .i8 ms[k].wt, .int .i8 ms[k].wo, .int .i8 ms[k].bo] 89)).heap.size by simp; omega)
      have l1 := actsTo_len k hk HN.out
      have ES := Lib.hid (actsTo_succ hlt)
      have LA := Lib.hid (fun W => isAct_any ms[k] (HW.out _ (List.getElem_mem hlt)) W)
      clear hat hb
      go_upto_region 7 with (fail)
      generalize World.alloc wr _ = W1 at GX BX TX ZX ⊢
      clear p0 p1 p2
      have q0 := cell_of_row W1 _ 0 _ _ _ BX.out
      have q1 := cell_of_row W1 _ 1 _ _ _ BX.out
      have q2 := cell_of_row W1 _ 2 _ _ _ BX.out
      simp only [List.getElem?_toArray, List.getElem?_cons_zero, List.getElem?_cons_succ] at q0 q1 q2
      go_wp2_with fail
      refine (LA.out _).mono ?_
      rintro e w1 ⟨rfl, h1⟩
      have zx := ZX.out
      have G1 := Lib.hid (GX.out.below ZX.out h1)
      have B1 := Lib.hid ((h1.block _ (Array.getElem?_eq_some_iff.1 BX.out).1).trans BX.out)
      have T1 := Lib.hid (TX.out.below h1)
      have z1 := h1.size
      clear q0 q1 q2 h1
      cases hf : actB ms[k]
      · have E := Lib.hid (show actsS ms = ⟨#[]⟩ by unfold actsS; rw [atx_bad hlt hf]; rfl)
        go_wp2
        go_ret
        exact ⟨by rw [E.out]; rfl, G1.out.b⟩
      have HN1 := Lib.hid (HN.out.succ hlt hf)
      have l2 := actT_len hf
      have AA := Lib.hid (appendAct_any ms[k] hf w.heap.size (actsTo ms k) u3 w1 T1.out (by omega) (by omega) (HT.out.on G1.out.b))
      have q0 := cell_of_row w1 _ 0 _ _ _ B1.out
      have q1 := cell_of_row w1 _ 1 _ _ _ B1.out
      have q2 := cell_of_row w1 _ 2 _ _ _ B1.out
      simp only [List.getElem?_toArray, List.getElem?_cons_zero, List.getElem?_cons_succ] at q0 q1 q2
      go_wp2_with fail
      refine AA.out.mono ?_
      rintro e w2 ⟨v2, rfl, ht2, hk2⟩
      have G2 := Lib.hid (G1.out.trans hk2)
      have z2 := (G1.out.trans hk2).size
      have T3 := Lib.hid (show Txt (w2.alloc (.cells #[.int .u8 10] 5)) w.heap.size v2 (actsTo ms k ++ actT ms[k]) from ht2.below ((Below.refl _ _).alloc (Nat.le_refl _) _))
      clear ht2 hk2 q0 q1 q2
      go_wp2_with (at_builtin; refine wpList_append_own _ rfl (.tmp 20) (.tmp 21) _ rfl w.heap.size 5 i0 (.int .u8 0) 1 1 Tryd.underlying121 hi0 hz0 hz1 hz2 rfl (by decide) _ _ _ rfl T3.out ⟨w2.heap.size, 0, none⟩ 1 1 [.int .u8 10] rfl rfl (cellOne w2 _ _) ?d2a ?d3a ?d4a ?d5a ?_)
      case d2a => (intro u hu; simp at hu; subst hu; rfl)
      case d3a => (simp only [List.length_append, List.length_cons, List.length_nil]; unfold maxLen; omega)
      case d4a => (simp only [List.length_append, List.length_cons, List.length_nil]; omega)
      case d5a => (simp; omega)
      intro v3 w3 hown3 hgrow3 _
      have T4 := Lib.hid (show Txt w3 w.heap.size v3 (actsTo ms (k + 1)) by
        rw [ES.out]
        refine Txt.of hown3 ?_ ?_
        · simp only [List.length_append, List.length_cons, List.length_nil]
          omega
        · rw [← List.append_assoc, Lib.byteCells_append _ [10]]
          rfl)
      have G4 := Lib.hid ((G2.out.alloc z2 (.cells #[.int .u8 10] 5)).grown T3.out hgrow3 (by simp; omega))
      clear hown3 hgrow3
      go_wp2
      exact ⟨⟨k + 1, hlt, by simp, HN1.out, T4.out, G4.out⟩, by simp only [intOf]; omega⟩
    · obtain rfl : k = ms.length := by omega
      have E := Lib.hid (show actsS ms = strOf (actsTo ms ms.length) by unfold actsS; rw [atx_ok (by omega) HN.out]; rfl)
      have DC := TR.out.string
      go_wp2
      go_ret
      exact ⟨by rw [E.out]; rfl, KR.out.b⟩
end Go.Proofs.YtaahfcdpgcfmhaaDoor
