/- Two sorted lists put one into the other, by the model: a contract. Condition: at most 1048576 books, whose numbers lie within their kinds. -/
import Derived.Test.YteeblpdjpaellaaDoorMgP
import Derived.Test.YteeblpdjpaellaaDoorStbS
import Derived.Test.YteeblpdjpaellaaDoorFields
namespace Go.Proofs.YteeblpdjpaellaaDoor
set_option linter.unusedSimpArgs false
set_option linter.unusedVariables false
set_option maxRecDepth 100000
open Go.RowKit Stab

theorem at_some3 {w : World} {b o c : Nat} {xs : List Bk} (h : SliceOf w (.slice (some ⟨b, o, none⟩) xs.length c) xs) : ∀ j u, (flatB xs)[j]? = some u → w.cell? ((⟨b, o, none⟩ : Addr).add j) = some u := by
  intro j u hu
  have h0 : 0 < xs.length := by have := (List.getElem?_eq_some_iff.1 hu).1; rw [flatB_length] at this; omega
  obtain ⟨A', c', e', hh⟩ := h
  obtain ⟨g', o', rfl, hg', hat⟩ := hh h0
  injection e' with e1 e2 e3
  injection e1 with e1
  injection e1 with e1 e4 e5
  subst e1 e4
  rw [Addr.add_lit]
  exact flat_cells hat j u hu
theorem resB_none (w : World) (B : Nat) : ResB w B (.slice none 0 0) [] := .inl ⟨rfl, rfl⟩
theorem resB_made {w : World} {B : Nat} (h : B ≤ w.heap.size) : ResB (w.alloc (.cells #[] 53)) B (.slice (some ⟨w.heap.size, 0, none⟩) 0 0) [] := ResB.ofL (ResB.own1 w B h) rfl
set_option maxHeartbeats 8000000 in
theorem specMergeBooks_any (b0 o0 c0 b1 o1 c1 : Nat) (xs ys : List Bk) (wf : ∀ b ∈ xs, b.Wf) (wfy : ∀ b ∈ ys, b.Wf) (w : World) (hs0 : SliceOf w (.slice (some ⟨b0, o0, none⟩) xs.length c0) xs) (hs1 : SliceOf w (.slice (some ⟨b1, o1, none⟩) ys.length c1) ys) (hc0 : xs.length ≤ c0) (hc1 : ys.length ≤ c1) (hn0 : xs.length ≤ 1048576) (hn1 : ys.length ≤ 1048576) :
    Calls Tryd.prog 22 #[.slice (some ⟨b0, o0, none⟩) xs.length c0, .slice (some ⟨b1, o1, none⟩) ys.length c1] w fun e w' => ∃ u, e = .returned (.tuple #[u, .int .i64 (mgC xs ys)]) ∧ ResB w' w.heap.size u (mgL xs ys) ∧ Below w.heap.size w w' := by
  have hm0 : xs.length ≤ maxLen := by unfold maxLen; omega
  have hm1 : ys.length ≤ maxLen := by unfold maxLen; omega
  have HS0 := Lib.hid hs0
  have HS1 := Lib.hid hs1
  have WF := Lib.hid wf
  have WFY := Lib.hid wfy
  obtain ⟨i0, hi0, hz0, hz1, hz2⟩ := info_parts infoBook
  clear hs0 hs1 wf wfy
  rcases mg_cases xs ys with ⟨h1, e, -⟩ | ⟨h1, h2, e, -⟩ | ⟨h1, h2, h3, e, -⟩ | ⟨h1, h2, h3, h4, e, -⟩ | ⟨h1, h2, h3, h4, h5, e, -⟩ | ⟨h1, h2, h3, h4, h5, e, -⟩
  · rw [mgL_bad (by rw [e]; decide), e]
    clear e
    go_enter Tryd.func22, Tryd.ntmps22
    go_wp2_with fail
    refine (l01Ok_any _ xs WF.out _ HS0.out hm0).mono ?_
    rintro e w1 ⟨rfl, q1⟩
    rw [h1]
    have G := Lib.hid q1
    have R := Lib.hid (resB_made G.out.size)
    go_wp2
    go_ret2
    exact ⟨_, rfl, R.out, G.out.alloc G.out.size _⟩
  · rw [mgL_bad (by rw [e]; decide), e]
    clear e
    go_enter Tryd.func22, Tryd.ntmps22
    go_wp2_with fail
    refine (l01Ok_any _ xs WF.out _ HS0.out hm0).mono ?_
    rintro e w1 ⟨rfl, q1⟩
    rw [h1]
    go_wp2_with fail
    refine (l01Ok_any _ ys WFY.out _ (HS1.out.below q1) hm1).mono ?_
    rintro e w2 ⟨rfl, q2⟩
    rw [h2]
    have G := Lib.hid (bnext q1 q2)
    have R := Lib.hid (resB_made G.out.size)
    go_wp2
    go_ret2
    exact ⟨_, rfl, R.out, G.out.alloc G.out.size _⟩
  · rw [mgL_bad (by rw [e]; decide), e]
    clear e
    have f1 :  0 ≤ firstOut xs := by have := runs_first xs; omega
    go_enter Tryd.func22, Tryd.ntmps22
    go_wp2_with fail
    refine (l01Ok_any _ xs WF.out _ HS0.out hm0).mono ?_
    rintro e w1 ⟨rfl, q1⟩
    rw [h1]
    go_wp2_with fail
    refine (l01Ok_any _ ys WFY.out _ (HS1.out.below q1) hm1).mono ?_
    rintro e w2 ⟨rfl, q2⟩
    rw [h2]
    go_wp2_with fail
    refine (l01Out_any _ xs WF.out _ ((HS0.out.below q1).below q2) hm0).mono ?_
    rintro e w3 ⟨rfl, q3⟩
    have G := Lib.hid (bnext (bnext q1 q2) q3)
    have R := Lib.hid (resB_made G.out.size)
    go_wp2
    go_ret2
    exact ⟨_, rfl, R.out, G.out.alloc G.out.size _⟩
  · rw [mgL_bad (by rw [e]; decide), e]
    clear e
    have f1 : ¬ 0 ≤ firstOut xs := by have := runs_first xs; omega
    have f2 :  0 ≤ firstOut ys := by have := runs_first ys; omega
    go_enter Tryd.func22, Tryd.ntmps22
    go_wp2_with fail
    refine (l01Ok_any _ xs WF.out _ HS0.out hm0).mono ?_
    rintro e w1 ⟨rfl, q1⟩
    rw [h1]
    go_wp2_with fail
    refine (l01Ok_any _ ys WFY.out _ (HS1.out.below q1) hm1).mono ?_
    rintro e w2 ⟨rfl, q2⟩
    rw [h2]
    go_wp2_with fail
    refine (l01Out_any _ xs WF.out _ ((HS0.out.below q1).below q2) hm0).mono ?_
    rintro e w3 ⟨rfl, q3⟩
    go_wp2_with fail
    refine (l01Out_any _ ys WFY.out _ (((HS1.out.below q1).below q2).below q3) hm1).mono ?_
    rintro e w4 ⟨rfl, q4⟩
    have G := Lib.hid (bnext (bnext (bnext q1 q2) q3) q4)
    have R := Lib.hid (resB_made G.out.size)
    go_wp2
    go_ret2
    exact ⟨_, rfl, R.out, G.out.alloc G.out.size _⟩
  · rw [mgL_bad (by rw [e]; decide), e]
    clear e
    have f1 : ¬ 0 ≤ firstOut xs := by have := runs_first xs; omega
    have f2 : ¬ 0 ≤ firstOut ys := by have := runs_first ys; omega
    go_enter Tryd.func22, Tryd.ntmps22
    go_wp2_with fail
    refine (l01Ok_any _ xs WF.out _ HS0.out hm0).mono ?_
    rintro e w1 ⟨rfl, q1⟩
    rw [h1]
    go_wp2_with fail
    refine (l01Ok_any _ ys WFY.out _ (HS1.out.below q1) hm1).mono ?_
    rintro e w2 ⟨rfl, q2⟩
    rw [h2]
    go_wp2_with fail
    refine (l01Out_any _ xs WF.out _ ((HS0.out.below q1).below q2) hm0).mono ?_
    rintro e w3 ⟨rfl, q3⟩
    go_wp2_with fail
    refine (l01Out_any _ ys WFY.out _ (((HS1.out.below q1).below q2).below q3) hm1).mono ?_
    rintro e w4 ⟨rfl, q4⟩
    have G := Lib.hid (bnext (bnext (bnext q1 q2) q3) q4)
    have h6 : (60 : Int) < (xs.length : Int) + (ys.length : Int) := by omega
    have h7 : IntKind.i64.wrap ((xs.length : Int) + (ys.length : Int)) = (xs.length : Int) + (ys.length : Int) := IntWalk.i64_in _ (by omega)
    have R := Lib.hid (resB_made G.out.size)
    go_wp2
    go_ret2
    exact ⟨_, rfl, R.out, G.out.alloc G.out.size _⟩
  · rw [mgL_good e, e]
    clear e
    have f1 : ¬ 0 ≤ firstOut xs := by have := runs_first xs; omega
    have f2 : ¬ 0 ≤ firstOut ys := by have := runs_first ys; omega
    go_enter Tryd.func22, Tryd.ntmps22
    go_wp2_with fail
    refine (l01Ok_any _ xs WF.out _ HS0.out hm0).mono ?_
    rintro e w1 ⟨rfl, q1⟩
    rw [h1]
    go_wp2_with fail
    refine (l01Ok_any _ ys WFY.out _ (HS1.out.below q1) hm1).mono ?_
    rintro e w2 ⟨rfl, q2⟩
    rw [h2]
    go_wp2_with fail
    refine (l01Out_any _ xs WF.out _ ((HS0.out.below q1).below q2) hm0).mono ?_
    rintro e w3 ⟨rfl, q3⟩
    go_wp2_with fail
    refine (l01Out_any _ ys WFY.out _ (((HS1.out.below q1).below q2).below q3) hm1).mono ?_
    rintro e w4 ⟨rfl, q4⟩
    have G := Lib.hid (bnext (bnext (bnext q1 q2) q3) q4)
    have h6 : ¬ (60 : Int) < (xs.length : Int) + (ys.length : Int) := by omega
    have h7 : IntKind.i64.wrap ((xs.length : Int) + (ys.length : Int)) = (xs.length : Int) + (ys.length : Int) := IntWalk.i64_in _ (by omega)
    have G0 := Lib.hid (G.out.alloc G.out.size (.cells #[] 53))
    have OW := Lib.hid (show (w4.alloc (.cells #[] 53)).ownsRow w.heap.size 53 8 (.slice (some ⟨w4.heap.size, 0, none⟩) 0 0) 0 [] from ResB.own1 w4 w.heap.size G.out.size)
    have S0 := Lib.hid (HS0.out.below G0.out)
    have zz := G0.out.size
    go_wp2_with (at_builtin; refine wpList_append_own _ rfl (.tmp 32) (.tmp 33) _ rfl w.heap.size 53 i0 (.agg #[.int .i16 0, .int .u8 0, .int .u8 0, .int .u8 0, .int .i16 0, .int .i16 0, .int .i16 0, .int .i16 0]) 8 14 Tryd.underlying27 hi0 hz0 hz1 hz2 rfl (by decide) _ _ _ rfl OW.out ⟨b0, o0, none⟩ xs.length c0 (flatB xs) rfl (flatB_length xs) (at_some3 S0.out) (flatB_one xs) (by unfold maxLen; omega) (by omega) zz ?_)
    intro v5 w5 hown5 hgrow5 _
    have G5 := Lib.hid (G0.out.grown hgrow5 G0.out.size (fun k hk => (OW.out.lt k hk).1))
    have O5 := Lib.hid hown5
    have S1 := Lib.hid (HS1.out.below G5.out)
    have zz5 := G5.out.size
    clear hown5 hgrow5
    go_wp2_with (at_builtin; refine wpList_append_own _ rfl (.tmp 34) (.tmp 35) _ rfl w.heap.size 53 i0 (.agg #[.int .i16 0, .int .u8 0, .int .u8 0, .int .u8 0, .int .i16 0, .int .i16 0, .int .i16 0, .int .i16 0]) 8 14 Tryd.underlying27 hi0 hz0 hz1 hz2 rfl (by decide) _ _ _ rfl O5.out ⟨b1, o1, none⟩ ys.length c1 (flatB ys) rfl (flatB_length ys) (at_some3 S1.out) (flatB_one ys) (by unfold maxLen; omega) (by omega) zz5 ?_)
    intro v6 w6 hown6 hgrow6 _
    have G6 := Lib.hid (G5.out.grown hgrow6 G5.out.size (fun k hk => (O5.out.lt k hk).1))
    have R6 := Lib.hid (show ResB w6 w.heap.size v6 (xs ++ ys) from ResB.of (n := (xs ++ ys).length) (by rw [flatB_app2, List.length_append]; exact hown6) rfl)
    have WA := Lib.hid (show ∀ b ∈ xs ++ ys, b.Wf from fun b hb => by
      rcases List.mem_append.1 hb with h | h
      · exact WF.out b h
      · exact WFY.out b h)
    have LA : (xs ++ ys).length ≤ 1048576 := by rw [List.length_append]; omega
    have G7 := Lib.hid (show Below w6.heap.size w6 (w6.alloc (.cells #[.int .i8 1, .int .i8 2, .int .i8 3] 79)) from (Below.refl _ _).alloc (Nat.le_refl _) _)
    have RS := Lib.hid (R6.out.slice.below G7.out)
    have I7 := Lib.hid (ints123 w6)
    have zz6 := G6.out.size
    have B7 := Lib.hid (bnext G6.out G7.out)
    have L9 := Lib.hid (fun W h h2 => l01Sorted_any (.slice (some ⟨w6.heap.size, 0, none⟩) 3 3) v6 [1, 2, 3] (by intro z hz; simp at hz; omega) (xs ++ ys) WA.out W h (by unfold maxLen; decide) h2 LA)
    clear hown6 hgrow6
    obtain ⟨zz9, hz9⟩ : ∃ z, xs ++ ys = z := ⟨_, rfl⟩
    have HZ9 := Lib.hid hz9
    rw [hz9] at R6 WA LA RS L9
    clear hz9
    go_wp2_with fail
    generalize World.alloc w6 _ = w7 at G7 RS I7 B7 ⊢
    refine (L9.out w7 I7.out RS.out).mono ?_
    rintro e w8 ⟨u, rfl, r8, q8⟩
    have R8 := Lib.hid (r8.mono B7.out.size)
    clear r8
    go_wp2
    go_ret2
    exact ⟨u, rfl, by rw [HZ9.out]; exact R8.out, bnext B7.out q8⟩
end Go.Proofs.YteeblpdjpaellaaDoor
