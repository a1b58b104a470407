/- Swaps that sort a list, by the program; how many they are: contracts. Condition: numbers within their kinds, a slice no longer than can be. -/
import Derived.Test.YtjfhpgomaahgoabSwpS
import Derived.Test.YtjfhpgomaahgoabInOrd
import Derived.Test.YtjfhpgomaahgoabBreaks
import Derived.BigRegion
import Derived.RegionTactic
namespace Go.Proofs.Ytjfhpgomaahgoab
set_option linter.unusedSimpArgs false
set_option linter.unusedVariables false
set_option maxRecDepth 100000
open Go.RowKit Stab

theorem RowI.kept {w w' : World} {g n : Nat} {l : List Int} {row : Option Nat} (h : RowI w g n l) (hg : w.grownBy w' row) (hne : some g ≠ row) : RowI w' g n l := by
  have hlt := h.lt
  obtain ⟨hl, cs, h1, h2⟩ := h
  exact ⟨hl, cs, (hg.block g hlt hne).trans h1, h2⟩

set_option maxHeartbeats 4000000 in
theorem indexInt_any (g n c : Nat) (b : Int) (row : List Int) (w : World) (hr : RowI w g n row) (hm : b ∈ row) (hn : n ≤ 60) :
    Calls Try.prog 82 #[.slice (some ⟨g, 0, none⟩) n c, .int .i64 b] w fun e w' => e = .returned (.int .i64 (row.idxOf b : Int)) ∧ w = w' := by
  have HR := Lib.hid hr
  have hl := hr.1
  have hk := List.idxOf_lt_length_iff.2 hm
  obtain ⟨k, hkk⟩ : ∃ k, row.idxOf b = k := ⟨_, rfl⟩
  have HT := Lib.hid (show row.getD k default = b by
    subst hkk
    rw [getD_get hk]
    exact List.getElem_idxOf hk)
  have HN := Lib.hid (fun (j : Nat) (h : j < k) => show row.getD j default ≠ b by
    subst hkk
    rw [getD_get (by omega)]
    intro e
    have := List.not_of_lt_findIdx h
    simp [e] at this)
  rw [hkk] at hk ⊢
  have hkn : k < n := by omega
  clear hr hm hl hk hkk
  go_enter Try.func82, Try.ntmps82
  go_wp2
  go_loopw [8] (fun i_ wr => ∃ j : Nat, j ≤ k ∧ i_ = .int .i64 (j : Int) ∧ w = wr) (fun i_ _ => k - (intOf i_).toNat)
  case atStart => exact ⟨0, Nat.zero_le _, rfl, rfl⟩
  case round =>
    obtain ⟨j, hj, rfl, hw⟩ := hrel
    subst hw
    have q0 := HR.out.cell j (by omega)
    have NN := Lib.hid (HN.out j)
    have TT := Lib.hid (fun (e : j = k) => show row.getD j default = b by subst e; exact HT.out)
    have jn : (j : Int) < (n : Int) := by omega
    generalize row.getD j default = s at q0 NN TT
    by_cases hjk : j = k
    · have d : (b == s) = true := by rw [TT.out hjk]; simp
      obtain rfl := hjk
      go_wp2
      go_ret
      exact ⟨rfl, rfl⟩
    · have d : (b == s) = false := by rw [beq_eq_false_iff_ne]; exact fun e => NN.out (by omega) e.symm
      go_wp2
      go_roundw
      case rel => exact ⟨j + 1, by omega, by go_num, by first | rfl | trivial⟩
      case measure => simp [intOf]; omega

def sfC (xs : List Bk) : Int := if okB xs then 0 else 1
def sfL (xs : List Bk) : List (Nat × Nat) := if okB xs then swL xs else []

set_option maxHeartbeats 8000000 in
theorem swapsFor_any (v0 : Value) (xs : List Bk) (wf : ∀ b ∈ xs, b.Wf) (w : World) (hs : SliceOf w v0 xs) (hm : xs.length ≤ maxLen) :
    Calls Try.prog 44 #[v0] w fun e w' => ∃ v, e = .returned (.tuple #[v, .int .i64 (sfC xs)]) ∧ w'.ownsRow w.heap.size 31 2 v (sfL xs).length (mvC (sfL xs)) ∧ Below w.heap.size w w' := by
  have HS := Lib.hid hs
  have WF := Lib.hid wf
  clear hs wf
  cases h1 : okB xs
  · have E := Lib.hid (show sfC xs = 1 by unfold sfC; rw [h1]; rfl)
    have E2 := Lib.hid (show sfL xs = [] by unfold sfL; rw [h1]; rfl)
    go_enter Try.func44, Try.ntmps44
    go_wp2_with fail
    refine (validBooks_any v0 xs _ HS.out hm).mono ?_
    rintro e w1 ⟨rfl, g1⟩
    rw [h1]
    go_wp2
    go_ret2
    exact ⟨_, by rw [E.out]; rfl, by rw [E2.out]; exact ⟨rfl, .inl ⟨rfl, rfl⟩⟩, g1⟩
  · have E := Lib.hid (show sfC xs = 0 by unfold sfC; rw [h1]; rfl)
    have E2 := Lib.hid (show sfL xs = swL xs by unfold sfL; rw [h1]; rfl)
    have h60 := ok60 h1
    have SLN := Lib.hid (srt_length WF.out)
    have SIN := Lib.hid (fun (p : Nat) (h : p < (srt xs).length) => srt_in WF.out h)
    obtain ⟨i0, hi0, hz0, hz1, hz2⟩ := info_parts infoMv
    go_enter Try.func44, Try.ntmps44
    go_wp2_with fail
    refine (validBooks_any v0 xs _ HS.out hm).mono ?_
    rintro e w1 ⟨rfl, g1⟩
    rw [h1]
    go_wp2_with fail
    refine (indicesOf_any v0 xs _ (HS.out.below g1) (by omega)).mono ?_
    rintro e w2 ⟨g, rfl, hg, hr, g2⟩
    have HR2 := Lib.hid hr
    have hgl := hr.lt
    clear hr
    go_wp2_with fail
    refine (sortedIndices_any v0 xs WF.out _ (HS.out.below (bnext g1 g2)) (by omega)).mono ?_
    rintro e w3 ⟨A, cap, rfl, hsr, g3⟩
    have HSR := Lib.hid (show 0 < xs.length → ∃ gs, A = some ⟨gs, 0, none⟩ ∧ w2.heap.size ≤ gs ∧ gs < w3.heap.size ∧ RowI w3 gs xs.length (srt xs) by
      intro h0
      obtain ⟨gs, a, b, c⟩ := hsr h0
      exact ⟨gs, a, b, c.lt, c⟩)
    have HR3 := Lib.hid (HR2.out.below g3)
    have G3 := Lib.hid (bnext (bnext g1 g2) g3)
    have hgb : w.heap.size ≤ g := by have := g1.size; omega
    have hg3 : g < w3.heap.size := by have := g3.size; omega
    have SL := Lib.hid (show swG ((srt xs).drop 0) 0 (rngI xs.length) = swL xs by rw [List.drop_zero]; rfl)
    clear hsr g1 g2 g3 h1 HR2
    go_wp2
    go_loopw [4, 18] (fun o_ i_ wr => ∃ (i : Nat) (row : List Int) (ms : List (Nat × Nat)), i ≤ xs.length ∧ i_ = .int .i64 (i : Int) ∧ Inv xs i row ∧ ms ++ swG ((srt xs).drop i) i row = swL xs ∧ ms.length ≤ i ∧ RowI wr g xs.length row ∧ (0 < xs.length → ∃ gs, A = some ⟨gs, 0, none⟩ ∧ w2.heap.size ≤ gs ∧ gs < w3.heap.size ∧ RowI wr gs xs.length (srt xs)) ∧ wr.ownsRow w3.heap.size 31 2 o_ ms.length (mvC ms) ∧ Below w.heap.size w wr ∧ w3.heap.size ≤ wr.heap.size) (fun _ i_ _ => xs.length - (intOf i_).toNat)
    case atStart => exact ⟨0, rngI xs.length, [], Nat.zero_le _, rfl, inv0 xs, by rw [List.nil_append]; exact SL.out, Nat.le_refl _, HR3.out, HSR.out, ⟨rfl, .inl ⟨rfl, rfl⟩⟩, G3.out, Nat.le_refl _⟩
    case round =>
      obtain ⟨i, row, ms, hi, rfl, hinv, hsw, hml, hrow, hsr, hown, hb, hsz⟩ := hrel
      have IN := Lib.hid hinv
      have SW := Lib.hid hsw
      have HR := Lib.hid hrow
      have SR := Lib.hid hsr
      have OW := Lib.hid hown
      have HB := Lib.hid hb
      clear hinv hsw hrow hsr hown hb
      by_cases hlt : i < xs.length
      · obtain ⟨gs, rfl, hs1, hs2, hsr⟩ := SR.out (by omega)
        have hiS : i < (srt xs).length := by have := SLN.out; omega
        obtain ⟨k, hk1, hk2, hk3, hk4⟩ := IN.out.idx WF.out hiS
        have SC := Lib.hid (swG_cons (row := row) hiS)
        have MEM := Lib.hid (show (srt xs)[i] ∈ row from IN.out.perm.mem_iff.2 ((srt_ok WF.out).1.mem_iff.1 (List.getElem_mem hiS)))
        have STAY := Lib.hid (fun h => IN.out.stay WF.out hiS h)
        have SWAP := Lib.hid (fun h => IN.out.swap WF.out hiS h)
        have q0 := hsr.cell i hlt
        rw [getD_get hiS] at q0
        have HSS := Lib.hid hsr
        have hne : g ≠ gs := by omega
        generalize (srt xs)[i] = b at q0 hk1 hk4 SC MEM STAY SWAP
        rw [hk1] at SC STAY SWAP
        have CI := Lib.hid (fun W (q : RowI W g xs.length row) => indexInt_any g xs.length xs.length b row W q MEM.out h60)
        rw [hk1] at CI
        have hw1 : IntKind.i16.wrap (i : Int) = (i : Int) := IntWalk.i16_in _ (by omega)
        have hw2 : IntKind.i16.wrap (k : Int) = (k : Int) := IntWalk.i16_in _ (by omega)
        obtain ⟨A3, c3, rfl⟩ := vlen_own2 OW.out
        have ga := Lib.hid (show Below wr.heap.size wr (wr.alloc (.cells #[.int .i16 (i : Int), .int .i16 (i : Int)] 31)) from (Below.refl _ _).alloc (Nat.le_refl _) _)
        clear hsr hk4 hk1 SR
        by_cases hki : k = i
        · subst hki
          have SW2 := Lib.hid (show ms ++ swG ((srt xs).drop (k + 1)) (k + 1) row = swL xs by rw [← SW.out, SC.out, if_pos rfl])
          have IN2 := Lib.hid (STAY.out rfl)
          go_wp2_with fail
          refine (CI.out _ (HR.out.below ga.out)).mono ?_
          rintro e w5 ⟨rfl, rfl⟩
          clear q0
          go_wp2
          have gb : Below wr.heap.size wr ((wr.alloc (.cells #[.int .i16 (k : Int), .int .i16 (k : Int)] 31)).alloc (.cells #[.int .i16 (k : Int), .int .i16 (k : Int)] 31)) := by go_grown
          go_roundw
          case rel => exact ⟨k + 1, row, ms, by omega, by go_num, IN2.out, SW2.out, by omega, HR.out.below gb, fun _ => ⟨gs, rfl, hs1, hs2, HSS.out.below gb⟩, ownBelow OW.out gb, bnext HB.out gb, Nat.le_trans hsz gb.size⟩
          case measure => simp [intOf]; omega
        · have SW2 := Lib.hid (show (ms ++ [(i, k)]) ++ swG ((srt xs).drop (i + 1)) (i + 1) (sw row i k) = swL xs by rw [← SW.out, SC.out, if_neg hki]; simp)
          have IN2 := Lib.hid (SWAP.out hki)
          have hik : i < k := by omega
          have nki : ((k : Int) == (i : Int)) = false := by rw [beq_eq_false_iff_ne]; omega
          go_wp2_with fail
          refine (CI.out _ (HR.out.below ga.out)).mono ?_
          rintro e w5 ⟨rfl, rfl⟩
          clear q0
          go_wp2
          generalize hW5 : World.alloc _ _ = W5
          have g5 : Below wr.heap.size wr W5 := by rw [← hW5]; go_grown
          have x0 : W5.cell? ⟨wr.heap.size + 1, 0, none⟩ = some (.int .i16 (i : Int)) := by rw [← hW5]; clear hW5; go_simp
          have x1 : W5.cell? ⟨wr.heap.size + 1, 1, none⟩ = some (.int .i16 (k : Int)) := by rw [← hW5]; clear hW5; go_simp
          have z5 : wr.heap.size + 1 < W5.heap.size := by rw [← hW5]; clear hW5; simp
          clear hW5
          have R5 := Lib.hid (HR.out.below g5)
          have G5 := Lib.hid g5
          have X0 := Lib.hid x0
          have X1 := Lib.hid x1
          have r0 := R5.out.cell i hlt
          have r1 := R5.out.cell k hk3
          have fz := R5.out.frozen
          have gl := HR.out.lt
          have sL := Lib.hid (show sw row i k = (row.set i (row.getD k default)).set k (row.getD i default) from rfl)
          obtain ⟨yi, hyi⟩ : ∃ y, row.getD i default = y := ⟨_, rfl⟩
          obtain ⟨yk, hyk⟩ : ∃ y, row.getD k default = y := ⟨_, rfl⟩
          have SWP := Lib.hid (R5.out.sw i k hlt hk3)
          rw [hyi, hyk] at SWP
          rw [hyi] at r0
          rw [hyk] at r1
          have i1 : (i : Int) < (xs.length : Int) := by omega
          have k1 : (k : Int) < (xs.length : Int) := by omega
          clear g5 hyi hyk sL
          go_region
          clear x0 x1 r0 r1 fz
          generalize hW6 : World.drew _ = W6
          have HR6 := Lib.hid (show RowI W6 g xs.length (sw row i k) by rw [← hW6]; exact SWP.out)
          have g6 : W5.grownBy W6 (some g) := by rw [← hW6]; exact gdrew (gset (gset (World.grownBy.refl W5 _) i _) k _)
          clear hW6
          have c0 := (World.cell?_of_block (a := ⟨wr.heap.size + 1, 0, none⟩) (g6.block _ z5 (fun e => absurd (show wr.heap.size + 1 = g by injection e) (by omega)))).trans X0.out
          have c1 := (World.cell?_of_block (a := ⟨wr.heap.size + 1, 1, none⟩) (g6.block _ z5 (fun e => absurd (show wr.heap.size + 1 = g by injection e) (by omega)))).trans X1.out
          have OW6 := Lib.hid (ownOther (ownBelow OW.out G5.out) g6 (fun q hq e => by have := (OW.out.lt q hq).1; injection e with e; omega))
          have HS6 := Lib.hid ((HSS.out.below G5.out).kept g6 (by intro e; injection e with e; exact hne e.symm))
          have B6 := Lib.hid ((bnext HB.out G5.out).grown g6 (bnext HB.out G5.out).size (fun q hq => by injection hq with hq; omega))
          have sz6 : w3.heap.size ≤ W6.heap.size := by have := G5.out.size; have := g6.size; omega
          clear g6
          go_wp2_with (at_builtin; refine wpList_append_own _ rfl (.tmp 56) (.tmp 58) _ rfl w3.heap.size 31 i0 (.agg #[.int .i16 0, .int .i16 0]) 2 4 Try.underlying45 hi0 hz0 hz1 hz2 rfl (by decide) _ _ _ rfl (OW6.out.alloc _) ⟨W6.heap.size, 0, none⟩ 1 1 [.int .i16 (i : Int), .int .i16 (k : Int)] rfl rfl (cell2_new _ _ _ _) ?d2 ?d3 ?d4 ?d5 ?_)
          case d2 => first | exact ⟨rfl, rfl⟩ | (intro u hu; simp at hu; rcases hu with rfl | rfl <;> rfl)
          case d3 => (unfold maxLen; omega)
          case d4 => omega
          case d5 => first | omega | (simp; omega)
          intro v' w7 hown' hgrow' _
          have OW' := Lib.hid hown'
          have ha : Below W6.heap.size W6 (W6.alloc (.cells #[.int .i16 (i : Int), .int .i16 (k : Int)] 31)) := (Below.refl _ _).alloc (Nat.le_refl _) _
          have HR7 := Lib.hid ((HR6.out.below ha).kept hgrow' (fun e => by have := (OW.out.lt g e.symm).1; omega))
          have HS7 := Lib.hid ((HS6.out.below ha).kept hgrow' (fun e => by have := (OW.out.lt gs e.symm).1; omega))
          have B7 := Lib.hid ((bnext B6.out ha).grown hgrow' (bnext B6.out ha).size (fun q hq => by have := (OW.out.lt q hq).1; have := G3.out.size; omega))
          have sz7 : w3.heap.size ≤ w7.heap.size := by have := ha.size; have := hgrow'.size; omega
          clear hown' hgrow' ha c0 c1
          go_wp2
          go_roundw
          case rel => exact ⟨i + 1, sw row i k, ms ++ [(i, k)], by omega, by go_num, IN2.out, SW2.out, by simp; omega, HR7.out, fun _ => ⟨gs, rfl, hs1, hs2, HS7.out⟩, by rw [mvC_snoc]; simpa using OW'.out, B7.out, sz7⟩
          case measure => simp [intOf]; omega
      · obtain rfl : i = xs.length := by omega
        have EE := Lib.hid (show ms = swL xs by rw [← SW.out, List.drop_eq_nil_of_le (by rw [SLN.out]; exact Nat.le_refl _), swG, List.append_nil])
        go_wp2
        go_ret2
        exact ⟨_, by rw [E.out]; rfl, by rw [E2.out, ← EE.out]; exact ownMono OW.out (by have := G3.out.size; omega), HB.out⟩

def lsV (xs : List Bk) : Int := ((sfL xs).length : Int)
set_option maxHeartbeats 2000000 in
theorem leastSwaps_any (v0 : Value) (xs : List Bk) (wf : ∀ b ∈ xs, b.Wf) (w : World) (hs : SliceOf w v0 xs) (hm : xs.length ≤ maxLen) :
    Calls Try.prog 42 #[v0] w fun e w' => e = .returned (.tuple #[.int .i64 (lsV xs), .int .i64 (sfC xs)]) ∧ Below w.heap.size w w' := by
  have CC := Lib.hid (swapsFor_any v0 xs wf w hs hm)
  clear hs wf
  go_enter Try.func42, Try.ntmps42
  go_wp2_with fail
  refine (CC.out).mono ?_
  rintro e w1 ⟨v, rfl, ho, g1⟩
  obtain ⟨A, c, rfl⟩ := vlen_own2 ho
  clear ho CC
  have E := Lib.hid (show lsV xs = ((sfL xs).length : Int) from rfl)
  go_wp2
  go_ret2
  exact ⟨by rw [E.out]; rfl, g1⟩

set_option maxHeartbeats 2000000 in
theorem specLeastSwaps_any (v0 : Value) (xs : List Bk) (wf : ∀ b ∈ xs, b.Wf) (w : World) (hs : SliceOf w v0 xs) (hm : xs.length ≤ maxLen) :
    Calls Try.prog 41 #[v0] w fun e w' => e = .returned (.tuple #[.int .i64 (lsV xs), .int .i64 (sfC xs)]) ∧ Below w.heap.size w w' := by
  have HS := Lib.hid hs
  have WF := Lib.hid wf
  clear hs wf
  cases h1 : okB xs
  · have E := Lib.hid (show sfC xs = 1 by unfold sfC; rw [h1]; rfl)
    have E2 := Lib.hid (show lsV xs = 0 by unfold lsV sfL; rw [h1]; rfl)
    go_enter Try.func41, Try.ntmps41
    go_wp2_with fail
    refine (l01Ok_any v0 xs WF.out _ HS.out hm).mono ?_
    rintro e w1 ⟨rfl, g1⟩
    rw [h1]
    go_wp2
    go_ret2
    exact ⟨by rw [E.out, E2.out]; rfl, g1⟩
  · have E := Lib.hid (show sfC xs = 0 by unfold sfC; rw [h1]; rfl)
    have E2 := Lib.hid (show lsV xs = ((swL xs).length : Int) by unfold lsV sfL; rw [h1]; rfl)
    have h60 := ok60 h1
    go_enter Try.func41, Try.ntmps41
    go_wp2_with fail
    refine (l01Ok_any v0 xs WF.out _ HS.out hm).mono ?_
    rintro e w1 ⟨rfl, g1⟩
    rw [h1]
    go_wp2_with fail
    refine (l03Swaps_any v0 xs WF.out _ (HS.out.below g1) h60).mono ?_
    rintro e w2 ⟨v, rfl, ho, g2⟩
    obtain ⟨A, c, rfl⟩ := vlen_own2 ho
    clear ho
    go_wp2
    go_ret2
    exact ⟨by rw [E.out, E2.out]; rfl, bnext g1 g2⟩

end Go.Proofs.Ytjfhpgomaahgoab
