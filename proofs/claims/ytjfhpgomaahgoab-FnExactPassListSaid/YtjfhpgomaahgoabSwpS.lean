/- Swaps that sort a list, by the model: contracts. Condition: at most 60 books, whose numbers lie within their kinds. -/
import Derived.Test.YtjfhpgomaahgoabSwp
import Derived.Test.YtjfhpgomaahgoabBooksOk
namespace Go.Proofs.Ytjfhpgomaahgoab
set_option linter.unusedSimpArgs false
set_option linter.unusedVariables false
set_option maxRecDepth 100000
open Go.RowKit Stab

theorem infoMv : (Try.prog.info? 31).map (fun i => (i.zero, i.size, i.bytes)) = some (some (.agg #[.int .i16 0, .int .i16 0]), 2, 4) := by kernel_rfl

/-- Block g begins with these n numbers. -/
def RowT (t : TypeId) (w : World) (g n : Nat) (l : List Int) : Prop := l.length = n ∧ ∃ cs : Array Value, w.heap[g]? = some (.cells cs t (0, 0)) ∧ n ≤ cs.size ∧ ∀ (i : Nat) (hi : i < l.length), cs[i]? = some (.int .i64 l[i])
section
variable {t : TypeId} {w w' : World} {g n : Nat} {l : List Int}
theorem RowT.lt (h : RowT t w g n l) : g < w.heap.size := by
  obtain ⟨-, cs, h, _⟩ := h
  exact (Array.getElem?_eq_some_iff.1 h).1
theorem RowT.cell (h : RowT t w g n l) (i : Nat) (hi : i < n) : w.cell? ⟨g, i, none⟩ = some (.int .i64 (l.getD i default)) := by
  obtain ⟨hl, cs, h, _, h3⟩ := h
  rw [cell_of_row w g _ cs _ _ h, h3 i (by omega)]
  simp [List.getD, List.getElem?_eq_getElem (show i < l.length by omega)]
theorem RowT.frozen (h : RowT t w g n l) (o : Nat) : w.frozen? ⟨g, o, none⟩ = false := by
  obtain ⟨-, cs, h, _⟩ := h
  exact frozen_of_row w g _ cs _ h
theorem RowT.put (h : RowT t w g n l) (i : Nat) (z : Int) : RowT t (w.setCell ⟨g, i, none⟩ (.int .i64 z)) g n (l.set i z) := by
  obtain ⟨hl, cs, h1, h2, h3⟩ := h
  refine ⟨by simpa using hl, _, heap_setCell_same _ _ _ _ _ _ h1, by simpa using h2, fun j hj => ?_⟩
  have hj' : j < l.length := by simpa using hj
  rw [Array.getElem?_setIfInBounds]
  by_cases e : i = j
  · subst e
    rw [if_pos rfl, if_pos (by omega)]
    simp
  · rw [if_neg e, List.getElem_set_ne e]
    exact h3 j hj'
theorem RowT.below (h : RowT t w g n l) (hb : Below w.heap.size w w') : RowT t w' g n l := by
  have hlt := h.lt
  obtain ⟨hl, cs, h1, h2⟩ := h
  exact ⟨hl, cs, (hb.block g hlt).trans h1, h2⟩
theorem RowT.kept {row : Option Nat} (h : RowT t w g n l) (hg : w.grownBy w' row) (hne : some g ≠ row) : RowT t w' g n l := by
  have hlt := h.lt
  obtain ⟨hl, cs, h1, h2⟩ := h
  exact ⟨hl, cs, (hg.block g hlt hne).trans h1, h2⟩
end
theorem rowT_of_own {t : TypeId} {w : World} {base g n cap : Nat} {l : List Int} (h : w.ownsRow base t 1 (.slice (some ⟨g, 0, none⟩) n cap) n (l.map (Value.int .i64))) (hn : n = l.length) : base ≤ g ∧ RowT t w g n l := by
  rcases h.2 with ⟨h, _⟩ | ⟨g', cap', cur, h, hb, hg, hc, _, hs, ht⟩
  · cases h
  · injection h with h1 h2 h3
    injection h1 with h1
    injection h1 with h1
    subst h1 h3 hn
    refine ⟨hb, rfl, cur, hg, by omega, fun i hi => ?_⟩
    have e : (l.map (Value.int .i64))[i]? = some (.int .i64 l[i]) := by simp [List.getElem?_eq_getElem hi]
    rw [← ht, List.getElem?_take, if_pos (by omega), Array.getElem?_toList] at e
    exact e
theorem cell2_new (w : World) (a b : Value) (t : TypeId) : ∀ (j : Nat) (u : Value), [a, b][j]? = some u → (w.alloc (.cells #[a, b] t)).cell? (Addr.add ⟨w.heap.size, 0, none⟩ j) = some u := by
  intro j u hu
  rw [Addr.add_lit, Nat.zero_add, cell_of_row _ _ j _ _ _ (heap_alloc_new w _)]
  match j, hu with
  | 0, hu => simpa using hu
  | 1, hu => simpa using hu

theorem vlen_own2 {w : World} {base size : Nat} {e : TypeId} {v : Value} {n : Nat} {l : List Value} (h : w.ownsRow base e size v n l) : ∃ A c, v = .slice A n c := by
  rcases h.2 with ⟨h, h0⟩ | ⟨g, cap, cur, h, _⟩
  · exact ⟨none, 0, by rw [h, h0]⟩
  · exact ⟨_, cap, h⟩

set_option maxHeartbeats 8000000 in
theorem l03Swaps_any (v0 : Value) (xs : List Bk) (wf : ∀ b ∈ xs, b.Wf) (w : World) (hs : SliceOf w v0 xs) (h60 : xs.length ≤ 60) :
    Calls Try.prog 80 #[v0] w fun e w' => ∃ v, e = .returned v ∧ w'.ownsRow w.heap.size 31 2 v (swL xs).length (mvC (swL xs)) ∧ Below w.heap.size w w' := by
  obtain ⟨i0, hi0, hz0, hz1, hz2⟩ := info_parts infoMv
  have WF := Lib.hid wf
  have SLN := srt_length wf
  have CC := Lib.hid (l03Ranks_any v0 xs wf w hs h60)
  clear hs wf
  go_enter Try.func80, Try.ntmps80
  go_wp2_with fail
  refine (CC.out).mono ?_
  rintro e w1 ⟨v1, rfl, ho, g1⟩
  rw [rksT_rkR] at ho
  have HQ := Lib.hid (show 0 < xs.length → ∃ g c, v1 = .slice (some ⟨g, 0, none⟩) xs.length c ∧ w.heap.size ≤ g ∧ g < w1.heap.size ∧ RowT 2 w1 g xs.length (rkR xs (rngI xs.length)) by
    intro h0
    obtain ⟨g, c, rfl⟩ : ∃ g c, v1 = .slice (some ⟨g, 0, none⟩) xs.length c := by
      rcases ho.2 with ⟨_, h⟩ | ⟨g, cap, cur, h, _⟩
      · omega
      · exact ⟨g, cap, h⟩
    obtain ⟨a, b⟩ := rowT_of_own ho (by rw [rkR_length, rngI_length])
    exact ⟨g, c, rfl, a, b.lt, b⟩)
  obtain ⟨A1, c1, rfl⟩ := vlen_own1 ho
  have G1 := Lib.hid g1
  have SL := Lib.hid (show swG ((srt xs).drop 0) 0 (rngI xs.length) = swL xs by rw [List.drop_zero]; rfl)
  have SLN := Lib.hid SLN
  have H0 := Lib.hid (show (w1.alloc (.cells #[] 31)).ownsRow w1.heap.size 31 2 (.slice (some ⟨w1.heap.size, 0, none⟩) 0 0) 0 (mvC []) from
    ⟨rfl, .inr ⟨w1.heap.size, 0, #[], rfl, Nat.le_refl _, heap_alloc_new w1 _, Nat.le_refl _, Nat.zero_le _, rfl, rfl⟩⟩)
  have g1a : Below w1.heap.size w1 (w1.alloc (.cells #[] 31)) := (Below.refl _ _).alloc (Nat.le_refl _) _
  have HR0 := Lib.hid (show 0 < xs.length → ∃ g, A1 = some ⟨g, 0, none⟩ ∧ w.heap.size ≤ g ∧ g < w1.heap.size ∧ RowT 2 (w1.alloc (.cells #[] 31)) g xs.length (rkR xs (rngI xs.length)) by
    intro h0
    obtain ⟨g, c, e, a, b, d⟩ := HQ.out h0
    injection e with e1
    exact ⟨g, e1, a, b, d.below g1a⟩)
  have G2 := Lib.hid (bnext g1 g1a)
  clear ho CC g1 HQ g1a
  go_wp2
  go_loopw [4, 5] (fun o_ i_ wr => ∃ (i : Nat) (row : List Int) (ms : List (Nat × Nat)), i ≤ xs.length ∧ i_ = .int .i64 (i : Int) ∧ Inv xs i row ∧ ms ++ swG ((srt xs).drop i) i row = swL xs ∧ ms.length ≤ i ∧ (0 < xs.length → ∃ g, A1 = some ⟨g, 0, none⟩ ∧ w.heap.size ≤ g ∧ g < w1.heap.size ∧ RowT 2 wr g xs.length (rkR xs row)) ∧ wr.ownsRow w1.heap.size 31 2 o_ ms.length (mvC ms) ∧ Below w.heap.size w wr ∧ w1.heap.size ≤ wr.heap.size) (fun _ i_ _ => xs.length - (intOf i_).toNat)
  case atStart => exact ⟨0, rngI xs.length, [], Nat.zero_le _, rfl, inv0 xs, by rw [List.nil_append]; exact SL.out, Nat.le_refl _, HR0.out, H0.out, G2.out, by simp⟩
  case round =>
    obtain ⟨i, row, ms, hi, rfl, hinv, hsw, hml, hrow, hown, hb, hsz⟩ := hrel
    have IN := Lib.hid hinv
    have SW := Lib.hid hsw
    have RW := Lib.hid hrow
    have OW := Lib.hid hown
    have HB := Lib.hid hb
    clear hinv hsw hrow hown hb
    by_cases hlt : i < xs.length
    · obtain ⟨g, rfl, hg1, hg2, hr⟩ := RW.out (by omega)
      have hiS : i < (srt xs).length := by have := SLN.out; omega
      obtain ⟨k, hk1, hk2, hk3, hk4⟩ := IN.out.idx WF.out hiS
      have RK := Lib.hid (fun (j : Nat) (hj : j < xs.length) => IN.out.rank WF.out hiS hj)
      rw [hk1] at RK
      have LEN := IN.out.len
      have SC := Lib.hid (swG_cons (row := row) hiS)
      have q0 := hr.cell i hlt
      rw [rkR_getD (by omega)] at q0
      have HR := Lib.hid hr
      clear hr RW
      by_cases hki : k = i
      · have d : ((rk xs (row.getD i default) : Int) == (i : Int)) = true := by rw [beq_iff_eq]; exact (RK.out i hlt).2 hki
        have d' : (rk xs (row.getD i default) == i) = true := by rw [beq_iff_eq] at d ⊢; omega
        have SW2 := Lib.hid (show ms ++ swG ((srt xs).drop (i + 1)) (i + 1) row = swL xs by rw [← SW.out, SC.out, if_pos (by rw [hk1, hki])])
        have IN2 := Lib.hid (IN.out.stay WF.out hiS (by rw [hk1, hki]))
        generalize rk xs (row.getD i default) = r at q0 d d'
        clear hki hk1 hk2 hk3 hk4 LEN
        go_wp2
        go_roundw
        case rel => exact ⟨i + 1, row, ms, by omega, by go_num, IN2.out, SW2.out, by omega, fun _ => ⟨g, rfl, hg1, hg2, HR.out⟩, OW.out, HB.out, hsz⟩
        case measure => simp [intOf]; omega
      · have d : ((rk xs (row.getD i default) : Int) == (i : Int)) = false := by rw [beq_eq_false_iff_ne]; intro h; exact hki ((RK.out i hlt).1 h)
        have d' : (rk xs (row.getD i default) == i) = false := by rw [beq_eq_false_iff_ne] at d ⊢; omega
        have SW2 := Lib.hid (show (ms ++ [(i, k)]) ++ swG ((srt xs).drop (i + 1)) (i + 1) (sw row i k) = swL xs by rw [← SW.out, SC.out, if_neg (by rw [hk1]; exact hki), hk1]; simp)
        have IN2 := Lib.hid (show Inv xs (i + 1) (sw row i k) by have h := IN.out.swap WF.out hiS (by rw [hk1]; exact hki); rw [hk1] at h; exact h)
        have EK := Lib.hid ((RK.out k hk3).2 rfl)
        have RS := Lib.hid (rkR_sw (xs := xs) (row := row) (i := i) (k := k) (Ne.symm hki) (by omega) (by omega) EK.out)
        have hik : i < k := by omega
        generalize hgr : rk xs (row.getD i default) = r at q0 d d'
        have HGR := Lib.hid hgr
        obtain ⟨A3, c3, rfl⟩ := vlen_own2 OW.out
        clear hki hk1 hk2 hk4 hgr
        go_wp2
        go_loopw [6] (fun k_ wx => ∃ j : Nat, i ≤ j ∧ j ≤ k ∧ k_ = .int .i64 (j : Int) ∧ wx = wr) (fun k_ _ => k - (intOf k_).toNat)
        case atStart => exact ⟨i, Nat.le_refl _, by omega, rfl, rfl⟩
        case round =>
          obtain ⟨j, hj1, hj2, rfl, rfl⟩ := hrel
          have q1 := HR.out.cell j (by omega)
          rw [rkR_getD (by omega)] at q1
          have RJ := Lib.hid (RK.out j (by omega))
          generalize rk xs (row.getD j default) = s at q1 RJ
          clear q0
          by_cases hjk : j = k
          · subst hjk
            have dd : ((s : Int) != (i : Int)) = false := by have := RJ.out.2 rfl; simp; omega
            have dd' : (s != i) = false := by have := RJ.out.2 rfl; simp; omega
            have hw1 : IntKind.i16.wrap (i : Int) = (i : Int) := IntWalk.i16_in _ (by omega)
            have hw2 : IntKind.i16.wrap (j : Int) = (j : Int) := IntWalk.i16_in _ (by omega)
            go_wp2_with (at_builtin; refine wpList_append_own _ rfl (.tmp 31) (.tmp 37) _ rfl w1.heap.size 31 i0 (.agg #[.int .i16 0, .int .i16 0]) 2 4 Try.underlying45 hi0 hz0 hz1 hz2 rfl (by decide) _ _ _ rfl (OW.out.alloc _) ⟨wr.heap.size, 0, none⟩ 1 1 [.int .i16 (i : Int), .int .i16 (j : Int)] rfl rfl ?c1 ?c2 ?c3 ?c4 ?c5 ?_)
            try (case c1 => exact cell2_new _ _ _ _)
            case c2 => first | exact ⟨rfl, rfl⟩ | (intro u hu; simp at hu; rcases hu with rfl | rfl <;> rfl)
            case c3 => (unfold maxLen; omega)
            case c4 => omega
            case c5 => first | omega | (simp; omega)
            intro v' w4 hown' hgrow' _
            have OW' := Lib.hid hown'
            have ga : Below wr.heap.size wr (wr.alloc (.cells #[.int .i16 (i : Int), .int .i16 (j : Int)] 31)) := (Below.refl _ _).alloc (Nat.le_refl _) _
            have hr4 := (HR.out.below ga).kept hgrow' (fun e => by have := (OW.out.lt g e.symm).1; omega)
            have b4 : Below w.heap.size w w4 := (bnext HB.out ga).grown hgrow' (bnext HB.out ga).size (fun k hk => by have := (OW.out.lt k hk).1; have := G1.out.size; omega)
            have sz4 : w1.heap.size ≤ w4.heap.size := by have := ga.size; have := hgrow'.size; omega
            have qi := hr4.cell i hlt
            have qk := hr4.cell j (by omega)
            have fz := hr4.frozen
            have RS2 := Lib.hid (show ((rkR xs row).set j (r : Int)).set i (i : Int) = rkR xs (sw row i j) by rw [← RS.out, rkR_getD (by omega), HGR.out])
            rw [rkR_getD (by omega), HGR.out] at qi
            have HR4 := Lib.hid hr4
            have B4 := Lib.hid b4
            clear hown' hgrow' ga hr4 b4 q1
            go_wp2
            have gg := only_set2 (only_set2 (World.grownBy.refl w4 (some g)) j (.int .i64 (r : Int))) i (.int .i64 (i : Int))
            have HR5 := Lib.hid ((HR4.out.put j (r : Int)).put i (i : Int))
            have OW5 := Lib.hid (ownOther OW'.out gg (fun k hk e => by have := (OW'.out.lt k hk).1; injection e with e; omega))
            have B5 := Lib.hid (B4.out.grown gg B4.out.size (fun k hk => by injection hk with hk; omega))
            have sz5 : w1.heap.size ≤ ((w4.setCell ⟨g, j, none⟩ (.int .i64 (r : Int))).setCell ⟨g, i, none⟩ (.int .i64 (i : Int))).heap.size := Nat.le_trans sz4 gg.size
            go_roundw
            case rel => exact ⟨i + 1, sw row i j, ms ++ [(i, j)], by omega, by go_num, IN2.out, SW2.out, by simp; omega, fun _ => ⟨g, rfl, hg1, hg2, by rw [← RS2.out]; exact HR5.out⟩, by rw [mvC_snoc]; simpa using OW5.out, B5.out, sz5⟩
            case measure => simp [intOf]; omega
          · have dd : ((s : Int) != (i : Int)) = true := by have h := fun e => hjk (RJ.out.1 e).symm; simpa using h
            have dd' : (s != i) = true := by rw [bne_iff_ne] at dd ⊢; omega
            go_wp2
            go_roundw
            case rel => exact ⟨j + 1, by omega, by omega, by go_num, by first | rfl | trivial⟩
            case measure => simp [intOf]; omega
    · obtain rfl : i = xs.length := by omega
      have E := Lib.hid (show ms = swL xs by rw [← SW.out, List.drop_eq_nil_of_le (by rw [SLN.out]; exact Nat.le_refl _), swG, List.append_nil])
      go_wp2
      go_ret
      exact ⟨_, rfl, by rw [← E.out]; exact ownMono OW.out (by have := G1.out.size; omega), HB.out⟩

end Go.Proofs.Ytjfhpgomaahgoab
