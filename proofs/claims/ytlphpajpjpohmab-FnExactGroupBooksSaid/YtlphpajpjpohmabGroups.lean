/- The books of each height, by the program: a contract. Condition: at most six heights, at most 60 books, whose numbers lie within their kinds. -/
import Derived.Test.YtlphpajpjpohmabTg
import Derived.Deep.RegionHeldLaw
import Derived.Deep.RegionLaw
import Derived.Deep.AppendLies
namespace Go.Proofs.Ytlphpajpjpohmab
set_option linter.unusedSimpArgs false
set_option linter.unusedVariables false
set_option maxRecDepth 100000
open Go.RowKit

theorem infoI64G : (Try.prog.info? 2).map (fun i => (i.zero, i.size, i.bytes)) = some (some (.int .i64 0), 1, 8) := by kernel_rfl
theorem infoI64S : (Try.prog.info? 35).map (fun i => (i.zero, i.size, i.bytes)) = some (some (.slice none 0 0), 1, 24) := by kernel_rfl
theorem lvF_at {hs : List Int} {b : Int} (h : hIx hs b < hs.length) : ∃ x, lvF hs b = .iface 101 (.agg #[.int .i64 ((hIx hs b : Nat) : Int), .int .i64 x]) := ⟨_, by unfold lvF; rw [dif_pos h]; rfl⟩
theorem lvF_top {hs : List Int} {b : Int} (h : ¬ hIx hs b < hs.length) : lvF hs b = .iface 103 (.agg #[]) := by unfold lvF; rw [dif_neg h]; rfl
theorem ta_top2 (W : World) : (Instr.typeAssert (.iface 103 (.agg #[])) 98 103 true).run Try.prog W = .ok (.tuple #[.agg #[], .bool true]) W := by
  rfl
theorem gr_step {hs : List Int} {xs : List Bk} {k : Nat} (hk : k < xs.length) {K : Nat} (h : hIx hs xs[k].hi = K) : (fun j => if j = K then grP hs xs K k ++ [(k : Int)] else grP hs xs j k) = fun j => grP hs xs j (k + 1) := by
  funext j
  by_cases e : j = K
  · subst e
    rw [if_pos rfl, grP_yes hk h]
  · rw [if_neg e, grP_no hk (by rw [h]; exact fun e2 => e e2.symm)]
theorem allHB_false {hs : List Int} {xs : List Bk} {k : Nat} (hk : k < xs.length) (h : ¬ hIx hs xs[k].hi < hs.length) : allHB hs xs = false := by
  cases e : allHB hs xs
  · rfl
  · exact absurd (allHB_get e hk) h
theorem allHB_true {hs : List Int} {xs : List Bk} (h : ∀ (j : Nat) (hj : j < xs.length), hIx hs xs[j].hi < hs.length) : allHB hs xs = true := by
  unfold allHB
  rw [List.all_eq_true]
  intro b hb
  obtain ⟨j, hj, rfl⟩ := List.getElem_of_mem hb
  exact decide_eq_true (h j hj)

set_option maxHeartbeats 8000000 in
theorem groupsOf_any (v v2 : Value) (hs : List Int) (xs : List Bk) (wx : ∀ b ∈ xs, b.Wf) (w : World) (s1 : IntsOf .i64 w v hs) (s2 : SliceOf w v2 xs) (h6 : hs.length ≤ 6) (h60 : xs.length ≤ 60) :
    Calls Try.prog 45 #[v, v2] w fun e w' => ∃ u z, e = .returned (.tuple #[u, .int .i64 z]) ∧ ((allHB hs xs = true ∧ z = 0 ∧ u = .slice (some ⟨w.heap.size, 0, none⟩) hs.length hs.length ∧ TG w' (w.heap.size + 1) w.heap.size hs.length (fun i => grP hs xs i xs.length)) ∨ (allHB hs xs = false ∧ z = 6 ∧ u = .slice none 0 0)) ∧ Below w.heap.size w w' := by
  obtain ⟨i0, hi0, hz0, hz1, hz2⟩ := info_parts infoI64G
  obtain ⟨j0, hj0, hy0, hy1, hy2⟩ := info_parts infoI64S
  have hmk := fun W => run_make_rowN (P := Try.prog) 50 35 j0 _ Try.underlying50 hj0 hy0 .i64 .i64 hs.length hs.length (Nat.le_refl _) (by rw [hy2]; omega) (by omega) W
  rw [hy1, Nat.mul_one] at hmk
  have T0 := Lib.hid (TG.made w hs.length)
  have zA : (w.alloc (.cells (madeCells (Value.slice none 0 0).cells hs.length) 35)).heap.size = w.heap.size + 1 := by simp
  have GA := Lib.hid (show Below w.heap.size w (w.alloc (.cells (madeCells (Value.slice none 0 0).cells hs.length) 35)) from (Below.refl _ _).alloc (Nat.le_refl _) _)
  have S1 := Lib.hid (s1.below GA.out)
  have WX := Lib.hid wx
  obtain ⟨A, c, rfl, ha1⟩ := s1
  obtain ⟨B, d, rfl, hb1⟩ := s2
  have HB := Lib.hid hb1
  clear wx ha1 hb1 hj0 hy0 hy1 hy2
  go_enter Try.func45, Try.ntmps45
  go_wp2_with fail
  refine (levelsOf_any _ hs _ S1.out h6).mono ?_
  rintro e w1 ⟨vl, rfl, hol, g1⟩
  obtain ⟨gl, cl, rfl⟩ := own_some hol
  have HL := Lib.hid (zA ▸ hol)
  have hgl1 := (HL.out.lt gl rfl).2
  have hgl0 := (HL.out.lt gl rfl).1
  have hw1 : w.heap.size < w1.heap.size := by have := g1.size; omega
  have T1 := Lib.hid ((T0.out w1.heap.size hw1).below g1)
  have G1 := Lib.hid (bnext GA.out g1)
  clear hol g1 hmk
  go_wp2
  go_loopw [19] (fun i_ wr => ∃ k : Nat, k ≤ xs.length ∧ i_ = .int .i64 (k : Int) ∧ TG wr w1.heap.size w.heap.size hs.length (fun j => grP hs xs j k) ∧ (∀ (j : Nat) (hj : j < xs.length), j < k → hIx hs xs[j].hi < hs.length) ∧ wr.ownsRow (w.heap.size + 1) 98 1 (.slice (some ⟨gl, 0, none⟩) (hs.length + 1) cl) (hs.length + 1) (lvC hs hs.length ++ [topV]) ∧ w1.heap.size ≤ wr.heap.size ∧ Below w.heap.size w wr) (fun i_ _ => xs.length - (intOf i_).toNat)
  case atStart => exact ⟨0, Nat.zero_le _, rfl, T1.out, fun _ _ h => absurd h (Nat.not_lt_zero _), HL.out, Nat.le_refl _, G1.out⟩
  case round =>
    obtain ⟨k, hk, rfl, htg, hall, hb1, hzz, hb⟩ := hrel
    have TT := Lib.hid htg
    have AL := Lib.hid hall
    have B1 := Lib.hid hb1
    have BB := Lib.hid hb
    clear htg hall hb1 hb
    by_cases hlt : k < xs.length
    · obtain ⟨gb, ob, rfl, hgb, hcb⟩ := HB.out (by omega)
      obtain ⟨p0, p1, p2, p3, p4, p5, p6, p7⟩ := booksAt_some (hcb.below BB.out hgb) hlt
      have WB := Lib.hid (WX.out _ (List.getElem_mem hlt))
      have GS := Lib.hid (fun (K : Nat) (h : hIx hs xs[k].hi = K) => gr_step hlt h)
      have AF := Lib.hid (fun h => allHB_false (hs := hs) hlt h)
      have AL2 := Lib.hid (show hIx hs xs[k].hi < hs.length → ∀ (j : Nat) (hj : j < xs.length), j < k + 1 → hIx hs xs[j].hi < hs.length by
        intro h j hj hjk
        by_cases e : j = k
        · subst e; exact h
        · exact AL.out j hj (by omega))
      clear hcb
      generalize xs[k] = b at *
      have BX := Lib.hid (BkBox.new wr b 59)
      have HLR := Lib.hid (ownBelow B1.out ((Below.refl _ _).alloc (Nat.le_refl _) (.cells #[.int .i16 b.c, .int .u8 b.m0, .int .u8 b.m1, .int .u8 b.m2, .int .i16 b.v, .int .i16 b.wi, .int .i16 b.hi, .int .i16 b.we] 59)))
      have bb2 : Below wr.heap.size wr (wr.alloc (.cells #[.int .i16 b.c, .int .u8 b.m0, .int .u8 b.m1, .int .u8 b.m2, .int .i16 b.v, .int .i16 b.wi, .int .i16 b.hi, .int .i16 b.we] 59)) := (Below.refl _ _).alloc (Nat.le_refl _) _
      have BB2 := Lib.hid bb2
      clear bb2
      by_cases hK : hIx hs b.hi < hs.length
      · obtain ⟨x, hx⟩ := lvF_at hK
        obtain ⟨K, hKK⟩ : ∃ K, hIx hs b.hi = K := ⟨_, rfl⟩
        have GS := Lib.hid (GS.out K hKK)
        have AL2 := Lib.hid (AL2.out hK)
        rw [hKK] at hx hK
        have HX := Lib.hid hx
        have TA := fun W => ta_shelf (K : Int) x W
        clear hx hKK AF
        go_wp2_with fail
        refine (levelFor_any _ gl cl hs b WB.out _ HLR.out h6).mono ?_
        rintro e w3 ⟨rfl, g3⟩
        rw [HX.out]
        clear p0 p1 p2 p3 p4 p5 p6 p7
        have B3 := Lib.hid (bnext BB2.out g3)
        clear g3
        obtain ⟨v, cv3, ov3⟩ := (TT.out.below B3.out).cell K hK
        have hvl := Lib.hid (fun q hq => ov3.lt q hq)
        have HL3 := Lib.hid (ownBelow B1.out B3.out)
        have b8 : Below w3.heap.size w3 (w3.alloc (.cells #[.int .i64 (K : Int), .int .i64 x] 101)) := (Below.refl _ _).alloc (Nat.le_refl _) _
        have T8 := Lib.hid ((TT.out.below B3.out).below b8)
        have HL8 := Lib.hid (ownBelow HL3.out b8)
        have X8 := Lib.hid (show (w3.alloc (.cells #[.int .i64 (K : Int), .int .i64 x] 101)).cell? ⟨w3.heap.size, 0, none⟩ = some (.int .i64 (K : Int)) from cell_of_row _ _ 0 _ _ _ (heap_alloc_new w3 _))
        have z8' : (w3.alloc (.cells #[.int .i64 (K : Int), .int .i64 x] 101)).heap.size = w3.heap.size + 1 := by simp
        have z3 := B3.out.size
        have hb8 := Nat.lt_of_lt_of_le (Nat.lt_succ_self _) (Nat.le_of_eq z8'.symm)
        have z8 := Lib.hid z8'
        clear z8'
        have hG3 : w.heap.size < w3.heap.size := by omega
        have cv8 := Lib.hid ((b8.cell (p := ⟨w.heap.size, K, none⟩) hG3).trans cv3)
        have OV8 := Lib.hid (ownBelow ov3 b8)
        have BB8 := Lib.hid (bnext (bnext BB.out B3.out) b8)
        clear cv3 ov3
        go_wp2
        generalize hW8 : w3.alloc _ = W8 at *
        clear hW8 b8
        have d9 : Below W8.heap.size W8 (W8.drew.alloc (.cells #[.int .i64 (k : Int)] 2)) := ((Below.refl _ _).drew).alloc (Nat.le_refl _) _
        have h18 : w1.heap.size ≤ W8.heap.size := by omega
        have z9 : (W8.drew.alloc (.cells #[.int .i64 (k : Int)] 2)).heap.size = W8.heap.size + 1 := by simp
        have T9 := Lib.hid (T8.out.below d9)
        have HL9 := Lib.hid (ownBelow HL8.out d9)
        have X9 := Lib.hid ((d9.cell (p := ⟨w3.heap.size, 0, none⟩) (by simp; omega)).trans X8.out)
        have cv9 := Lib.hid ((d9.cell (p := ⟨w.heap.size, K, none⟩) (by simp; omega)).trans cv8.out)
        have OD := Lib.hid (ownBelow OV8.out ((Below.refl _ W8).drew))
        have BB9 := Lib.hid (bnext BB8.out d9)
        have D9 := Lib.hid d9
        have x8 := X8.out
        have c8 := cv8.out
        have f8 := T8.out.frozen K
        have x9 : (W8.alloc (.cells #[.int .i64 (k : Int)] 2)).cell? ⟨w3.heap.size, 0, none⟩ = some (.int .i64 (K : Int)) := X9.out
        have c9 : (W8.alloc (.cells #[.int .i64 (k : Int)] 2)).cell? ⟨w.heap.size, K, none⟩ = some v := cv9.out
        have x10 : (W8.alloc (.cells #[.int .i64 (k : Int)] 2)).drew.cell? ⟨w3.heap.size, 0, none⟩ = some (.int .i64 (K : Int)) := X9.out
        have c10 : (W8.alloc (.cells #[.int .i64 (k : Int)] 2)).drew.cell? ⟨w.heap.size, K, none⟩ = some v := cv9.out
        have gl60 := grP_len hs xs K k
        clear d9
        go_region_law (
          refine step_append_lies _ (by rfl) (.tmp 37) (.tmp 39) _ (by rfl) w1.heap.size 2 i0 (.int .i64 0) 1 8 Try.underlying35 hi0 hz0 hz1 hz2 rfl (by decide) v _ _ (by rfl) (OD.out.alloc _) ⟨W8.heap.size, 0, none⟩ 1 1 [.int .i64 (k : Int)] (by rfl) rfl (cell_one_new _ _ _) (by intro u hu; simp at hu; subst hu; rfl) (by decide) (by unfold maxLen; omega) (by omega) (by simp; omega) _ rfl ?_
          intro g4 cap w4 ho4 hg4 ha4 hl4
          have hne0 : some w.heap.size ≠ v.ownBlock := fun e => by have := (hvl.out _ e.symm).1; omega
          have hne3 : some w3.heap.size ≠ v.ownBlock := fun e => by have := (hvl.out _ e.symm).2; omega
          have x4 := (World.grownBy.cell_far hg4 ⟨w3.heap.size, 0, none⟩ (by simp; omega) hne3).trans X9.out
          have c4 := (World.grownBy.cell_far hg4 ⟨w.heap.size, K, none⟩ (by simp; omega) hne0).trans cv9.out
          have f4 : w4.frozen? ⟨w.heap.size, K, none⟩ = false := by
            obtain ⟨_, cs9, N9, _⟩ := T9.out
            exact frozen_of_row w4 _ K cs9 _ ((hg4.block _ (by simp; omega) hne0).trans N9)
          have ST := Lib.hid (show TG (w4.setCell ⟨w.heap.size, K, none⟩ (.slice (some ⟨g4, 0, none⟩) ((grP hs xs K k).length + 1) cap)) w1.heap.size w.heap.size hs.length (fun j => grP hs xs j (k + 1)) by
            rw [← GS.out]
            exact T9.out.step hK cv9.out (l := grP hs xs K k ++ [(k : Int)]) (by simpa using ho4) hg4 (by
              rcases ha4 with h | h
              · exact .inl h.symm
              · exact .inr ⟨g4, rfl, by rw [h]; exact Nat.le_refl _⟩))
          have SL := Lib.hid (ownOther (ownOther HL9.out hg4 (fun q hq e => by have h1 : gl = q := by injection hq
                                                                               have := (hvl.out _ e.symm).1; omega)) (only_set2 (World.grownBy.refl w4 (some w.heap.size)) K (.slice (some ⟨g4, 0, none⟩) ((grP hs xs K k).length + 1) cap)) (fun q hq e => by
            have h1 : gl = q := by injection hq
            have h2 : q = w.heap.size := by injection e
            omega))
          have SB := Lib.hid (show Below w.heap.size w (w4.setCell ⟨w.heap.size, K, none⟩ (.slice (some ⟨g4, 0, none⟩) ((grP hs xs K k).length + 1) cap)) from (BB9.out.grown hg4 BB9.out.size (fun q hq => by have := (hvl.out q hq).1; omega)).setCell (p := ⟨w.heap.size, K, none⟩) (Nat.le_refl _) _)
          have SZ : w1.heap.size ≤ w4.heap.size := by have := hg4.size; simp at this; omega
          clear ho4 hg4 ha4 hl4 hne0 hne3)
        all_goals
          go_wp2
          go_roundw
          case rel => exact ⟨k + 1, by omega, by go_num, ST.out, AL2.out, SL.out, by simpa using SZ, SB.out⟩
          case measure => simp [intOf]; omega
      · have hx := lvF_top hK
        have HX := Lib.hid hx
        have HA := Lib.hid (AF.out hK)
        have TA := ta_top
        have TA2 := ta_top2
        clear hx AF GS AL2 hK
        go_wp2_with fail
        refine (levelFor_any _ gl cl hs b WB.out _ HLR.out h6).mono ?_
        rintro e w3 ⟨rfl, g3⟩
        rw [HX.out]
        clear p0 p1 p2 p3 p4 p5 p6 p7
        have B3 := Lib.hid (bnext BB.out (bnext BB2.out g3))
        clear g3
        go_wp2
        go_ret2
        exact ⟨_, _, rfl, .inr ⟨HA.out, rfl, rfl⟩, by first | exact B3.out | exact B3.out.alloc B3.out.size _⟩
    · obtain rfl : k = xs.length := by omega
      have HA := Lib.hid (allHB_true (fun j hj => AL.out j hj hj))
      go_wp2
      go_ret2
      exact ⟨_, _, rfl, .inl ⟨HA.out, rfl, rfl, TT.out.mono (Nat.lt_succ_self _) hw1⟩, BB.out⟩

end Go.Proofs.Ytlphpajpjpohmab
