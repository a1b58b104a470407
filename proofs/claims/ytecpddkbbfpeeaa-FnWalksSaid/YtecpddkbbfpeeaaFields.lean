/- Two books compared by an order, by the program, and by the usual order, by both: contracts. Condition: the order's fields are among the six; it is no longer than a slice can be. -/
import Derived.Test.YtecpddkbbfpeeaaField
namespace Go.Proofs.Ytecpddkbbfpeeaa
set_option linter.unusedSimpArgs false
set_option linter.unusedVariables false
set_option maxRecDepth 100000
open Go.RowKit

theorem compareField_any (z : Int) (hz : 1 ≤ fieldOf z ∧ fieldOf z ≤ 6) (a b : Bk) (ha : a.Wf) (hb : b.Wf) (w : World) :
    Calls Try.prog 56 #[.int .i8 z, .agg #[.int .i16 a.c, .int .u8 a.m0, .int .u8 a.m1, .int .u8 a.m2, .int .i16 a.v, .int .i16 a.wi, .int .i16 a.hi, .int .i16 a.we], .agg #[.int .i16 b.c, .int .u8 b.m0, .int .u8 b.m1, .int .u8 b.m2, .int .i16 b.v, .int .i16 b.wi, .int .i16 b.hi, .int .i16 b.we]] w fun e w' => e = .returned (.int .i64 (cmp1 z a b)) ∧ Below w.heap.size w w' := by
  by_cases h : z < 0
  · have e : fieldOf z = -z := by
      unfold fieldOf at hz ⊢
      rw [if_pos h] at hz ⊢
      by_cases h2 : z = -128
      · rw [if_pos h2] at hz; omega
      · rw [if_neg h2]
    rw [e] at hz
    obtain ⟨f, rfl⟩ : ∃ f, z = -f := ⟨-z, by omega⟩
    have hf : 1 ≤ f ∧ f ≤ 6 := by omega
    rw [cmp1_neg f hf a b ha hb]
    exact compareField_neg f hf a b ha hb w
  · have e : fieldOf z = z := by unfold fieldOf; rw [if_neg h]
    rw [e] at hz
    rw [cmp1_pos z hz a b ha hb]
    exact compareField_pos z hz a b ha hb w

set_option maxHeartbeats 2000000 in
theorem compareFields_any (v : Value) (zs : List Int) (hz : ∀ z ∈ zs, 1 ≤ fieldOf z ∧ fieldOf z ≤ 6) (a b : Bk) (ha : a.Wf) (hb : b.Wf) (w : World) (hs : IntsOf .i8 w v zs) (hn : zs.length ≤ maxLen) :
    Calls Try.prog 40 #[v, .agg #[.int .i16 a.c, .int .u8 a.m0, .int .u8 a.m1, .int .u8 a.m2, .int .i16 a.v, .int .i16 a.wi, .int .i16 a.hi, .int .i16 a.we], .agg #[.int .i16 b.c, .int .u8 b.m0, .int .u8 b.m1, .int .u8 b.m2, .int .i16 b.v, .int .i16 b.wi, .int .i16 b.hi, .int .i16 b.we]] w fun e w' => e = .returned (.int .i64 (cmpL zs a b)) ∧ Below w.heap.size w w' := by
  obtain ⟨A, c, rfl, hs⟩ := hs
  unfold maxLen at hn
  have HS := Lib.hid hs
  have HZ := Lib.hid hz
  have WA := Lib.hid ha
  have WB := Lib.hid hb
  clear hs hz ha hb
  go_enter Try.func40, Try.ntmps40
  go_wp2
  generalize hW : (w.alloc _).alloc _ = W
  have P0 := Lib.hid (show BkAt W w.heap.size 0 a by rw [← hW]; exact (bkAt_new w a _).next ((Below.refl _ _).alloc (Nat.le_refl _) _))
  have Q0 := Lib.hid (show BkAt W (w.heap.size + 1) 0 b by rw [← hW]; have := bkAt_new (w.alloc (.cells #[.int .i16 a.c, .int .u8 a.m0, .int .u8 a.m1, .int .u8 a.m2, .int .i16 a.v, .int .i16 a.wi, .int .i16 a.hi, .int .i16 a.we] 42)) b 42; simpa using this)
  have G0 := Lib.hid (show Below w.heap.size w W by rw [← hW]; exact ((Below.refl _ _).alloc (Nat.le_refl _) _).alloc (by simp) _)
  clear hW
  go_loopw [12] (fun i wr => ∃ k : Nat, k ≤ zs.length ∧ i = .int .i64 k ∧ RestTo zs a b k ∧ Below W.heap.size W wr) (fun i _ => zs.length - (intOf i).toNat)
  case atStart => exact ⟨0, Nat.zero_le _, rfl, rfl, Below.refl _ _⟩
  case round =>
    obtain ⟨k, hk, rfl, hrest, hb⟩ := hrel
    have HR := Lib.hid hrest
    clear hrest
    have gg := Lib.hid (bnext G0.out hb)
    by_cases hlt : k < zs.length
    · obtain ⟨gs, os, rfl, hgs, hat⟩ := HS.out (by omega)
      have p0 := hat.below gg.out hgs k hlt
      obtain ⟨-, a0, a1, a2, a3, a4, a5, a6, a7⟩ := P0.out.next hb
      obtain ⟨-, b0, b1, b2, b3, b4, b5, b6, b7⟩ := Q0.out.next hb
      clear hat
      go_wp2_with fail
      refine (compareField_any zs[k] (HZ.out _ (List.getElem_mem hlt)) a b WA.out WB.out _).mono ?_
      rintro e w1 ⟨rfl, h1⟩
      clear a0 a1 a2 a3 a4 a5 a6 a7 b0 b1 b2 b3 b4 b5 b6 b7 p0
      have FST := Lib.hid (fun r hc hr => HR.out.stop hlt (r := r) hc hr)
      have FSU := Lib.hid (fun hc => HR.out.succ hlt hc)
      generalize cmp1 zs[k] a b = cc at FST FSU ⊢
      by_cases hc : cc = 0
      · subst hc
        go_wp2
        go_roundw
        case rel => exact ⟨k + 1, by omega, by go_num, (by first | exact FSU.out rfl | exact FSU.out trivial), bnext hb h1⟩
        case measure => simp [intOf]; omega
      · have hd : (cc != 0) = true := by simpa using hc
        have HC := Lib.hid hc
        clear hc
        go_wp2
        go_ret
        exact ⟨by rw [FST.out _ rfl HC.out]; rfl, bnext G0.out (bnext hb h1)⟩
    · obtain rfl : k = zs.length := by omega
      go_wp2
      go_ret
      refine ⟨?_, gg.out⟩
      have e := HR.out
      unfold RestTo at e
      rw [e, cmpL_end]
      rfl

theorem ints123 (w : World) : IntsOf .i8 (w.alloc (.cells #[.int .i8 1, .int .i8 2, .int .i8 3] 65)) (.slice (some ⟨w.heap.size, 0, none⟩) 3 3) [1, 2, 3] := by
  have h := heap_alloc_new w (.cells #[.int .i8 1, .int .i8 2, .int .i8 3] 65)
  refine ⟨_, _, rfl, fun _ => ⟨_, _, rfl, by simp, fun i hi => ?_⟩⟩
  rw [cell_of_row _ _ _ _ _ _ h]
  have : i = 0 ∨ i = 1 ∨ i = 2 := by simp at hi; omega
  rcases this with rfl | rfl | rfl <;> rfl

set_option maxHeartbeats 1000000 in
theorem compareBooks_any (a b : Bk) (ha : a.Wf) (hb : b.Wf) (w : World) :
    Calls Try.prog 17 #[.agg #[.int .i16 a.c, .int .u8 a.m0, .int .u8 a.m1, .int .u8 a.m2, .int .i16 a.v, .int .i16 a.wi, .int .i16 a.hi, .int .i16 a.we], .agg #[.int .i16 b.c, .int .u8 b.m0, .int .u8 b.m1, .int .u8 b.m2, .int .i16 b.v, .int .i16 b.wi, .int .i16 b.hi, .int .i16 b.we]] w fun e w' => e = .returned (.int .i64 (usual a b)) ∧ Below w.heap.size w w' := by
  go_enter Try.func17, Try.ntmps17
  go_wp2_with fail
  refine (compareFields_any _ [1, 2, 3] (by decide) a b ha hb _ (by have e := ints123 ((w.alloc (.cells #[.int .i16 a.c, .int .u8 a.m0, .int .u8 a.m1, .int .u8 a.m2, .int .i16 a.v, .int .i16 a.wi, .int .i16 a.hi, .int .i16 a.we] 42)).alloc (.cells #[.int .i16 b.c, .int .u8 b.m0, .int .u8 b.m1, .int .u8 b.m2, .int .i16 b.v, .int .i16 b.wi, .int .i16 b.hi, .int .i16 b.we] 42)); simp only [World.size_alloc] at e; exact e) (by simp [maxLen])).mono ?_
  rintro e w1 ⟨rfl, h1⟩
  go_wp2
  go_ret
  exact ⟨rfl, bnew _ (bnew _ (bnew _ h1))⟩

set_option maxHeartbeats 1000000 in
theorem l01Usual_any (a b : Bk) (ha : a.Wf) (hb : b.Wf) (ga oa gb ob : Nat) (w : World) (pa : BkAt w ga oa a) (pb : BkAt w gb ob b) :
    Calls Try.prog 38 #[.pointer (some ⟨ga, oa, none⟩), .pointer (some ⟨gb, ob, none⟩)] w fun e w' => e = .returned (.int .i64 (usual a b)) ∧ Below w.heap.size w w' := by
  have PA := Lib.hid pa
  have PB := Lib.hid pb
  clear pa pb
  go_enter Try.func38, Try.ntmps38
  go_wp2_with fail
  refine (l01Compare_any _ [1, 2, 3] (by decide) a b ha hb ga oa gb ob _ (by exact ints123 _) (by simp [maxLen]) (PA.out.next ((Below.refl _ _).alloc (Nat.le_refl _) _)) (PB.out.next ((Below.refl _ _).alloc (Nat.le_refl _) _))).mono ?_
  rintro e w1 ⟨rfl, h1⟩
  go_wp2
  go_ret
  exact ⟨rfl, bnew _ h1⟩

end Go.Proofs.Ytecpddkbbfpeeaa
