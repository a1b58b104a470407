/- The library puts lists one behind the other, at impl.rackPlaces: contracts. Condition: no more than 1048576 elements. -/
import Derived.Test.YtgmipobohnagnaaDoorRkI
import Derived.IntWalk
import Derived.Lib.AppendZeros
namespace Go.Proofs.YtgmipobohnagnaaDoor
set_option linter.unusedSimpArgs false
set_option linter.unusedVariables false
set_option maxRecDepth 100000
open Go.RowKit Go.Sort

structure Sl where
  g : Nat
  o : Nat
  n : Nat
  c : Nat
  L : List Value
  deriving Inhabited
def Sl.v (s : Sl) : Value := .slice (some ⟨s.g, s.o, none⟩) s.n s.c
/-- A list whose elements have k cells each. -/
structure SlOk (k : Nat) (w : World) (s : Sl) : Prop where
  lt : s.g < w.heap.size
  len : s.L.length = s.n * k
  at_ : ∀ (j : Nat) (u : Value), s.L[j]? = some u → w.cell? ⟨s.g, s.o + j, none⟩ = some u
  one : ∀ u ∈ s.L, u.oneCell' = true
theorem SlOk.below {k : Nat} {w w' : World} {s : Sl} (h : SlOk k w s) (hb : Below w.heap.size w w') : SlOk k w' s :=
  ⟨Nat.lt_of_lt_of_le h.lt hb.size, h.len, fun j u hj => (hb.cell (p := ⟨s.g, s.o + j, none⟩) h.lt).trans (h.at_ j u hj), h.one⟩
def catN (ss : List Sl) : Nat → Nat
  | 0 => 0
  | k + 1 => catN ss k + (ss.getD k default).n
def catL (ss : List Sl) : Nat → List Value
  | 0 => []
  | k + 1 => catL ss k ++ (ss.getD k default).L
theorem sl_getD {ss : List Sl} {k : Nat} (h : k < ss.length) : ss.getD k default = ss[k] := by
  rw [List.getD_eq_getElem?_getD, List.getElem?_eq_getElem h]; rfl
theorem catN_succ {ss : List Sl} {k : Nat} (h : k < ss.length) : catN ss (k + 1) = catN ss k + ss[k].n := by rw [catN, sl_getD h]
theorem catL_succ {ss : List Sl} {k : Nat} (h : k < ss.length) : catL ss (k + 1) = catL ss k ++ ss[k].L := by rw [catL, sl_getD h]
theorem catN_mono (ss : List Sl) (i : Nat) : ∀ k, i ≤ k → catN ss i ≤ catN ss k
  | 0, h => by obtain rfl : i = 0 := by omega
               exact Nat.le_refl _
  | k + 1, h => by
    by_cases e : i = k + 1
    · subst e; exact Nat.le_refl _
    · have := catN_mono ss i k (by omega)
      rw [catN]; omega

set_option maxHeartbeats 8000000 in
theorem growP_any (n : Nat) (hn : n ≤ 1048576) (w : World) :
    Calls Tryd.prog 29 #[.slice none 0 0, .int .i64 (n : Int)] w fun e w' => ∃ v, e = .returned v ∧ w'.ownsRow w.heap.size 53 9 v 0 [] ∧ Below w.heap.size w w' := by
  obtain ⟨i0, hi, hz0, hz1, hz2⟩ := info_parts infoPlace
  have hn2 : (n : Int) ≤ 1048576 := by omega
  have hn0 : (0 : Int) ≤ (n : Int) := by omega
  by_cases h0 : n = 0
  · subst h0
    go_enter Tryd.func29, Tryd.ntmps29
    go_wp2
    go_ret
    exact ⟨_, rfl, ⟨rfl, .inl ⟨rfl, rfl⟩⟩, Below.refl _ _⟩
  · have h1 : (0 : Int) < (n : Int) := by omega
    have hpos : 0 < n := by omega
    have RZ := Lib.hid (fun (ty : TypeId) => Lib.run_append_nil_zeros (P := Tryd.prog) w 48 3 ty 53 i0 _ .i64 .i64 Tryd.underlying48 Tryd.underlying3 hi hz0 n hpos (by rw [hz1]; decide) (by omega) (by rw [hz2]; omega))
    obtain ⟨cap, hcap⟩ : ∃ cap, grownCap w n 0 53 = cap := ⟨_, rfl⟩
    have c1 : n ≤ cap := by rw [← hcap]; exact grownCap_ge w n 0 _
    have c2 : cap ≤ maxLen := by rw [← hcap]; exact grownCap_le_maxLen w n 0 _ (by unfold maxLen; omega)
    rw [hcap] at RZ
    obtain ⟨ob, hob⟩ : ∃ ob, Builtin.zeroCells (.agg #[.bool false, .int .i16 0, .int .u8 0, .int .u8 0, .int .u8 0, .int .i16 0, .int .i16 0, .int .i16 0, .int .i16 0] : Value).cells n ++ Builtin.zeroCells (.agg #[.bool false, .int .i16 0, .int .u8 0, .int .u8 0, .int .u8 0, .int .i16 0, .int .i16 0, .int .i16 0, .int .i16 0] : Value).cells (cap - n) = ob := ⟨_, rfl⟩
    have os : ob.size = cap * 9 := by
      rw [← hob, Array.size_append, size_zeroCells, size_zeroCells, show (.agg #[.bool false, .int .i16 0, .int .u8 0, .int .u8 0, .int .u8 0, .int .i16 0, .int .i16 0, .int .i16 0, .int .i16 0] : Value).cells.size = 9 from rfl]
      omega
    rw [hob] at RZ
    have GA := Lib.hid (show Below w.heap.size w (w.drew.alloc (.cells ob 53)) from ((Below.refl _ _).drew).alloc (Nat.le_refl _) _)
    have OE := Lib.hid (show (w.drew.alloc (.cells ob 53)).ownsRow w.heap.size 53 9 (.slice (some ⟨w.heap.size, 0, none⟩) 0 cap) 0 [] from ⟨rfl, .inr ⟨w.heap.size, cap, ob, rfl, Nat.le_refl _, heap_alloc_new w.drew _, Nat.zero_le _, c2, os, by simp⟩⟩)
    have c0 : (0 : Int) ≤ (cap : Int) := by omega
    clear hcap hob os
    go_enter Tryd.func29, Tryd.ntmps29
    go_wp2_with (at_builtin; refine Lib.wpList_append_run _ rfl _ _ _ _ rfl _ _ rfl rfl _ _ (RZ.out _) ?_)
    go_wp2
    go_ret
    exact ⟨_, rfl, OE.out, GA.out⟩

set_option maxHeartbeats 8000000 in
theorem concatP_any (ss : List Sl) (g0 : Nat) (w : World) (hs : ∀ s ∈ ss, SlOk 9 w s) (hc : ∀ (k : Nat) (h : k < ss.length), w.cell? ⟨g0, k, none⟩ = some ss[k].v) (hg0 : g0 < w.heap.size) (hN : catN ss ss.length ≤ 1048576) (hm : ss.length ≤ 1000) :
    Calls Tryd.prog 16 #[.slice (some ⟨g0, 0, none⟩) ss.length ss.length] w fun e w' => ∃ v, e = .returned v ∧ w'.ownsRow w.heap.size 53 9 v (catN ss ss.length) (catL ss ss.length) ∧ Below w.heap.size w w' := by
  obtain ⟨i0, hi, hz0, hz1, hz2⟩ := info_parts infoPlace
  have HS := Lib.hid hs
  have HC := Lib.hid hc
  clear hs hc
  go_enter Tryd.func16, Tryd.ntmps16
  go_wp2
  go_loopw [3, 11] (fun s_ i_ wr => ∃ k : Nat, k ≤ ss.length ∧ i_ = .int .i64 (k : Int) ∧ s_ = .int .i64 (catN ss k : Int) ∧ wr = w) (fun _ i_ _ => ss.length - (intOf i_).toNat)
  case atStart => exact ⟨0, Nat.zero_le _, rfl, rfl, rfl⟩
  case round =>
    obtain ⟨k, hk, rfl, rfl, rfl⟩ := hrel
    by_cases hlt : k < ss.length
    · have hlt' := hlt
      have c1 := HC.out k hlt
      have CS := catN_succ hlt
      have CM := catN_mono ss (k + 1) ss.length (by omega)
      unfold Sl.v at c1
      generalize ss[k] = s at c1 CS
      obtain ⟨t, ht⟩ : ∃ t, catN ss k = t := ⟨_, rfl⟩
      rw [ht] at CS ⊢
      have CS2 := Lib.hid CS
      have b1 : (t : Int) + (s.n : Int) ≤ 1048576 := by omega
      have b2 : (0 : Int) ≤ (t : Int) + (s.n : Int) := by omega
      have b3 : ¬ ((t : Int) + (s.n : Int) < 0) := by omega
      clear CS CM ht
      go_wp2
      go_roundw
      case rel => exact ⟨k + 1, by omega, by go_num, by rw [CS2.out]; go_num, by first | rfl | trivial⟩
      case measure => simp [intOf]; omega
    · obtain rfl : k = ss.length := by omega
      go_wp2_with fail
      refine (growP_any (catN ss ss.length) hN _).mono ?_
      rintro e w1 ⟨v, rfl, ho, g1⟩
      have z1 := g1.size
      have OV := Lib.hid ho
      have G1 := Lib.hid g1
      have HC1 := Lib.hid (fun (k : Nat) (h : k < ss.length) => (g1.cell (p := ⟨g0, k, none⟩) hg0).trans (HC.out k h))
      clear ho g1
      obtain ⟨w2, rfl⟩ : ∃ w2 : World, w2 = wr := ⟨_, rfl⟩
      go_wp2
      go_loopw [6, 27] (fun v_ i_ wr => ∃ k : Nat, k ≤ ss.length ∧ i_ = .int .i64 (k : Int) ∧ wr.ownsRow w2.heap.size 53 9 v_ (catN ss k) (catL ss k) ∧ Below w2.heap.size w2 wr) (fun _ i_ _ => ss.length - (intOf i_).toNat)
      case atStart => exact ⟨0, Nat.zero_le _, rfl, OV.out, G1.out⟩
      case round =>
        obtain ⟨k, hk, rfl, ho, hb⟩ := hrel
        have OW := Lib.hid ho
        have HB := Lib.hid hb
        have zw := hb.size
        clear ho hb
        by_cases hlt : k < ss.length
        · have hlt' := hlt
          have c1 := (HB.out.cell (p := ⟨g0, k, none⟩) hg0).trans (HC.out k hlt)
          have CS := Lib.hid (catN_succ hlt)
          have CL := Lib.hid (catL_succ hlt)
          have b1 : catN ss k + ss[k].n ≤ 1048576 := by
            have := catN_mono ss (k + 1) ss.length (by omega)
            rw [catN_succ hlt] at this
            omega
          have SO := Lib.hid ((HS.out _ (List.getElem_mem hlt)).below HB.out)
          unfold Sl.v at c1
          generalize ss[k] = s at c1 CS CL SO b1
          go_wp2_with (at_builtin; refine wpList_append_own _ rfl _ _ _ rfl w2.heap.size 53 i0 _ 9 16 Tryd.underlying48 hi hz0 hz1 hz2 rfl (by decide) _ _ _ rfl OW.out ⟨s.g, s.o, none⟩ s.n s.c s.L rfl SO.out.len (fun j u hu => by rw [Addr.add_lit]; exact SO.out.at_ j u hu) SO.out.one (by unfold maxLen; omega) (by omega) zw ?_)
          intro v' w4 ho4 hg4 _
          have OW2 := Lib.hid (show w4.ownsRow w2.heap.size 53 9 v' (catN ss (k + 1)) (catL ss (k + 1)) by rw [CS.out, CL.out]; exact ho4)
          have HB2 := Lib.hid (HB.out.grown hg4 zw (fun k hk => (OW.out.lt k hk).1))
          clear ho4 hg4
          go_wp2
          go_roundw
          case rel => exact ⟨k + 1, by omega, by go_num, OW2.out, HB2.out⟩
          case measure => simp [intOf]; omega
        · obtain rfl : k = ss.length := by omega
          go_wp2
          go_ret
          exact ⟨_, rfl, OW.out, HB.out⟩
end Go.Proofs.YtgmipobohnagnaaDoor
