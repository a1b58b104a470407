/- The text of a layout, by the model and by the program: contracts. Condition: the table of powers of ten is as laid. -/
import Derived.Test.YtaahfcdpgcfmhaaDoorNbT
import Derived.Test.YtaahfcdpgcfmhaaDoorCaseOk
namespace Go.Proofs.YtaahfcdpgcfmhaaDoor
set_option linter.unusedSimpArgs false
set_option linter.unusedVariables false
set_option maxRecDepth 100000
open Go.RowKit

/-- The numbers have a text. -/
def plainB (zs : List Int) : Bool := inB (zs.length : Int) 1 12 && zs.all fun z => inB z 0 60
theorem plain_len {zs : List Int} (h : inB (zs.length : Int) 1 12 = false) : plainB zs = false := by unfold plainB; rw [h]; rfl
theorem plain_bad {zs : List Int} {k : Nat} (hk : k < zs.length) (h : inB zs[k] 0 60 = false) : plainB zs = false := by
  unfold plainB
  rw [Bool.and_eq_false_iff]
  refine .inr ?_
  rw [List.all_eq_false]
  exact ⟨zs[k], List.getElem_mem hk, by rw [h]; simp⟩
def InTo (zs : List Int) (k : Nat) : Prop := ∀ (i : Nat) (h : i < zs.length), i < k → inB zs[i] 0 60 = true
theorem InTo.succ {zs : List Int} {k : Nat} (h : InTo zs k) (hk : k < zs.length) (hb : inB zs[k] 0 60 = true) : InTo zs (k + 1) := by
  intro i hi hik
  by_cases e : i = k
  · subst e; exact hb
  · exact h i hi (by omega)
theorem plain_ok {zs : List Int} (h1 : inB (zs.length : Int) 1 12 = true) (h : InTo zs zs.length) : plainB zs = true := by
  unfold plainB
  rw [h1, Bool.true_and, List.all_eq_true]
  intro z hz
  obtain ⟨k, hk, rfl⟩ := List.getElem_of_mem hz
  exact h k hk hk
theorem plain_of {zs : List Int} (h : plainB zs = true) : (1 ≤ zs.length ∧ zs.length ≤ 12) ∧ ∀ z ∈ zs, 0 ≤ z ∧ z ≤ 60 := by
  unfold plainB at h
  rw [Bool.and_eq_true, List.all_eq_true] at h
  obtain ⟨h1, h2⟩ := h
  unfold inB at h1 h2
  simp only [decide_eq_true_eq] at h1 h2
  exact ⟨by omega, fun z hz => h2 z hz⟩
/-- What LayoutText answers. -/
def layS (zs : List Int) : ByteArray := if plainB zs then strOf (numsTo 44 zs zs.length) else ⟨#[]⟩
set_option maxHeartbeats 4000000 in
theorem l02Plain_any (v : Value) (zs : List Int) (w : World) (hs : IntsOf .i64 w v zs) (hn : zs.length ≤ maxLen) :
    Calls Tryd.prog 92 #[v] w fun e w' => e = .returned (.bool (plainB zs)) ∧ Below w.heap.size w w' := by
  obtain ⟨A, c, rfl, hs⟩ := hs
  have HS := Lib.hid hs
  unfold maxLen at hn
  clear hs
  go_enter Tryd.func92, Tryd.ntmps92
  go_wp2
  go_loopw [3] (fun i wr => ∃ k : Nat, k ≤ zs.length ∧ i = .int .i64 k ∧ InTo zs k ∧ Below w.heap.size w wr) (fun i _ => zs.length - (intOf i).toNat)
  case atStart => exact ⟨0, Nat.zero_le _, rfl, fun _ _ h => absurd h (Nat.not_lt_zero _), Below.refl _ _⟩
  case round =>
    obtain ⟨k, hk, rfl, hno, hb⟩ := hrel
    have HN := Lib.hid hno
    have HB := Lib.hid hb
    clear hno hb
    by_cases hlt : k < zs.length
    · obtain ⟨g, o, rfl, hg, hat⟩ := HS.out (by omega)
      have p0 := hat.below HB.out hg k hlt
      clear hat
      go_wp2_with fail
      refine (l00In_any zs[k] 0 60 wr).mono ?_
      rintro e w' ⟨rfl, rfl⟩
      cases hi : inB zs[k] 0 60
      · have E := Lib.hid (plain_bad hlt hi)
        go_wp2
        go_ret
        exact ⟨by rw [E.out]; rfl, HB.out⟩
      · have H1 := Lib.hid (HN.out.succ hlt hi)
        go_wp2
        exact ⟨⟨k + 1, by omega, by simp, H1.out, HB.out⟩, by simp only [intOf]; omega⟩
    · obtain rfl : k = zs.length := by omega
      go_wp2_with fail
      refine (l00In_any (zs.length : Int) 1 12 wr).mono ?_
      rintro e w' ⟨rfl, rfl⟩
      have E := Lib.hid (show inB (zs.length : Int) 1 12 = plainB zs by
        cases hi : inB (zs.length : Int) 1 12
        · exact (plain_len hi).symm
        · exact (plain_ok hi HN.out).symm)
      go_wp2
      go_ret
      exact ⟨by rw [← E.out]; rfl, HB.out⟩
set_option maxHeartbeats 4000000 in
theorem l02EndsText_any (v : Value) (zs : List Int) (hz : ∀ z ∈ zs, 0 ≤ z ∧ z ≤ 60) (w : World) (hs : IntsOf .i64 w v zs) (h1 : 1 ≤ zs.length) (hn : zs.length ≤ 12) :
    Calls Tryd.prog 93 #[v] w fun e w' => e = .returned (.string (strOf (numsTo 44 zs zs.length))) ∧ Below w.heap.size w w' := by
  obtain ⟨A, c, rfl, hs⟩ := hs
  obtain ⟨g, o, rfl, hg, hat⟩ := hs (by omega)
  have HZ := Lib.hid hz
  have HA := Lib.hid hat
  have p0 := hat 0 (by omega)
  rw [Nat.add_zero] at p0
  have z0 := hz _ (List.getElem_mem (show 0 < zs.length by omega))
  have HL := Lib.hid (numsTo_len (s := 44) (fun z h => ⟨(hz z h).1, Int.le_trans (hz z h).2 (by decide)⟩))
  have D0 := Lib.hid (dec_any z0.1 (by omega) w)
  have E0 := Lib.hid (show dec zs[0] = numsTo 44 zs 1 from (numsTo_first (s := 44) (by omega)).symm)
  clear hs hz hat z0
  go_enter Tryd.func93, Tryd.ntmps93
  go_wp2_with fail
  refine D0.out.mono ?_
  rintro e w1 ⟨rfl, h1'⟩
  rw [E0.out]
  go_wp2
  go_loopw [3, 4] (fun o i wr => ∃ k : Nat, 1 ≤ k ∧ k ≤ zs.length ∧ i = .int .i64 k ∧ o = .string (strOf (numsTo 44 zs k)) ∧ Below w.heap.size w wr) (fun _ i _ => zs.length - (intOf i).toNat)
  case atStart => exact ⟨1, Nat.le_refl _, h1, rfl, rfl, h1'⟩
  case round =>
    obtain ⟨k, hk1, hk, rfl, rfl, hb⟩ := hrel
    have HB := Lib.hid hb
    clear hb
    by_cases hlt : k < zs.length
    · have p1 := HA.out.below HB.out hg k hlt
      have zk := HZ.out _ (List.getElem_mem hlt)
      obtain ⟨zk1, zk2⟩ := zk
      have DK := Lib.hid (dec_any zk1 (by omega) wr)
      have l1 := HL.out k hk
      have l2 := dec_len (z := zs[k]) (by omega)
      have s1 := strOf_size (numsTo 44 zs k)
      have s2 := strOf_size (dec zs[k])
      have ES := Lib.hid (numsTo_succ (s := 44) (show k ≠ 0 by omega) hlt)
      have CT := Lib.hid (show strOf (numsTo 44 zs k) ++ (⟨#[44]⟩ ++ strOf (dec zs[k])) = strOf (numsTo 44 zs (k + 1)) by
        rw [ES.out, ← strOf_cat, ← strOf_cat]
        rfl)
      have a1 : ¬ (9223372036854775807 < 1 + (strOf (dec zs[k])).size) := by omega
      have a2 : ¬ (9223372036854775807 < (strOf (numsTo 44 zs k)).size + (1 + (strOf (dec zs[k])).size)) := by omega
      generalize strOf (dec zs[k]) = T at *
      generalize hS : strOf (numsTo 44 zs k) = S at *
      clear s1 s2 l1 l2 hS
      go_wp2_with fail
      refine DK.out.mono ?_
      rintro e w2 ⟨rfl, h2⟩
      have hb1 := bnext HB.out h2
      go_wp2
      exact ⟨⟨k + 1, by omega, hlt, by simp, by rw [CT.out], hb1⟩, by simp only [intOf]; omega⟩
    · have ek : k = zs.length := by omega
      have EK := Lib.hid (show numsTo 44 zs k = numsTo 44 zs zs.length by rw [ek])
      go_wp2
      go_ret
      exact ⟨by rw [EK.out]; rfl, HB.out⟩
set_option maxHeartbeats 1000000 in
theorem specLayoutText_any (v : Value) (zs : List Int) (w : World) (hs : IntsOf .i64 w v zs) (hn : zs.length ≤ maxLen) :
    Calls Tryd.prog 37 #[v] w fun e w' => e = .returned (.string (layS zs)) ∧ Below w.heap.size w w' := by
  have OK := Lib.hid (l02Plain_any v zs w hs hn)
  have HS := Lib.hid hs
  have HP := Lib.hid (fun h => plain_of (zs := zs) h)
  obtain ⟨A, c, rfl, -⟩ := hs
  clear hn
  go_enter Tryd.func37, Tryd.ntmps37
  go_wp2_with fail
  refine OK.out.mono ?_
  rintro e w1 ⟨rfl, h1⟩
  cases hk : plainB zs
  · have E := Lib.hid (show layS zs = ⟨#[]⟩ by unfold layS; rw [hk]; rfl)
    go_wp2
    go_ret
    exact ⟨by rw [E.out]; rfl, h1⟩
  · have E := Lib.hid (show layS zs = strOf (numsTo 44 zs zs.length) by unfold layS; rw [hk]; rfl)
    have LT := Lib.hid (l02EndsText_any _ zs (HP.out hk).2 w1 (HS.out.below h1) (HP.out hk).1.1 (HP.out hk).1.2)
    go_wp2_with fail
    refine LT.out.mono ?_
    rintro e w2 ⟨rfl, h2⟩
    go_wp2
    go_ret
    exact ⟨by rw [E.out]; rfl, bnext h1 h2⟩
set_option maxHeartbeats 4000000 in
theorem layoutText_any (v : Value) (zs : List Int) (w : World) (hs : IntsOf .i64 w v zs) (hn : zs.length ≤ maxLen) (htab : Tab w.heap.size w) :
    Calls Tryd.prog 39 #[v] w fun e w' => e = .returned (.string (layS zs)) ∧ Below w.heap.size w w' := by
  have HS := Lib.hid hs
  have HT := Lib.hid htab
  have HP := Lib.hid (fun h => plain_of (zs := zs) h)
  obtain ⟨A, c, rfl, hs⟩ := hs
  have HI := Lib.hid hs
  unfold maxLen at hn
  clear htab hs
  go_enter Tryd.func39, Tryd.ntmps39
  go_wp2_with fail
  refine (withinI_any (zs.length : Int) 1 12 w).mono ?_
  rintro e w' ⟨rfl, rfl⟩
  cases hl : inB (zs.length : Int) 1 12
  · have E := Lib.hid (show layS zs = ⟨#[]⟩ by unfold layS; rw [plain_len hl]; rfl)
    go_wp2
    go_ret
    exact ⟨by rw [E.out]; rfl, Below.refl _ _⟩
  · have HLL := Lib.hid hl
    go_wp2
    go_loopw [11] (fun i wr => ∃ k : Nat, k ≤ zs.length ∧ i = .int .i64 k ∧ InTo zs k ∧ Below w.heap.size w wr) (fun i _ => zs.length - (intOf i).toNat)
    case atStart => exact ⟨0, Nat.zero_le _, rfl, fun _ _ h => absurd h (Nat.not_lt_zero _), Below.refl _ _⟩
    case round =>
      obtain ⟨k, hk, rfl, hno, hb⟩ := hrel
      have HN := Lib.hid hno
      have HB := Lib.hid hb
      clear hno hb
      by_cases hlt : k < zs.length
      · obtain ⟨g, o, rfl, hg, hat⟩ := HI.out (by omega)
        have p0 := hat.below HB.out hg k hlt
        clear hat
        go_wp2_with fail
        refine (within64_any zs[k] 0 60 wr).mono ?_
        rintro e w' ⟨rfl, rfl⟩
        cases hi : inB zs[k] 0 60
        · have E := Lib.hid (show layS zs = ⟨#[]⟩ by unfold layS; rw [plain_bad hlt hi]; rfl)
          go_wp2
          go_ret
          exact ⟨by rw [E.out]; rfl, HB.out⟩
        · have H1 := Lib.hid (HN.out.succ hlt hi)
          go_wp2
          exact ⟨⟨k + 1, by omega, by simp, H1.out, HB.out⟩, by simp only [intOf]; omega⟩
      · obtain rfl : k = zs.length := by omega
        have HK := Lib.hid (plain_ok HLL.out HN.out)
        have E := Lib.hid (show layS zs = strOf (numsTo 44 zs zs.length) by unfold layS; rw [HK.out]; rfl)
        have PZ := Lib.hid (HP.out HK.out).2
        have p12 := (HP.out HK.out).1
        have AN := Lib.hid (appendNumbers_i64 zs (fun z hz => ⟨(PZ.out z hz).1, Int.le_trans (PZ.out z hz).2 (by decide)⟩) 44 44 rfl w.heap.size [] (.slice none 0 0) wr (Txt.nil _ _) HB.out.size (Nat.zero_le _) (by omega) (HT.out.on HB.out) A c (fun W h => HS.out.below (HB.out.trans h.b)))
        go_wp2_with fail
        refine AN.out.mono ?_
        rintro e w3 ⟨v3, rfl, ht3, hk3⟩
        have DC := ht3.string
        rw [List.nil_append] at DC
        go_wp2
        go_ret
        exact ⟨by rw [E.out]; rfl, HB.out.trans hk3.b⟩
end Go.Proofs.YtaahfcdpgcfmhaaDoor
