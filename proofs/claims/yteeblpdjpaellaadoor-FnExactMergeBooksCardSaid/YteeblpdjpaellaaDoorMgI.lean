/- Two sorted lists put one into the other, by the program: a contract. Condition: the three error variables hold three different errors of errors.New's make; at most 1048576 books, whose numbers lie within their kinds. -/
import Derived.Test.YteeblpdjpaellaaDoorMgS
import Derived.Test.YteeblpdjpaellaaDoorStbM
import Derived.Test.YteeblpdjpaellaaDoorCatO
namespace Go.Proofs.YteeblpdjpaellaaDoor
set_option linter.unusedSimpArgs false
set_option linter.unusedVariables false
set_option maxRecDepth 100000
open Go.RowKit Stab

def So2 (b o n c : Nat) (xs : List Bk) : So := ⟨some (b, o), n, c, flatB xs⟩
theorem so2_ok {w : World} {b o c : Nat} {xs : List Bk} (h : SliceOf w (.slice (some ⟨b, o, none⟩) xs.length c) xs) (hb : b < w.heap.size) : SoOk 8 w (So2 b o xs.length c xs) := by
  refine ⟨fun e => by simp [So2] at e, fun p hp => ?_, flatB_length xs, fun p hp j u hu => ?_, flatB_one xs⟩
  · have e : (b, o) = p := by simpa [So2] using hp
    subst e
    exact hb
  · have e : (b, o) = p := by simpa [So2] using hp
    subst e
    have h2 := at_some3 h j u hu
    rwa [Addr.add_lit] at h2
theorem co_two2 (s0 s1 : So) : coN [s0, s1] 2 = s0.n + s1.n ∧ coL [s0, s1] 2 = s0.L ++ s1.L := by
  refine ⟨?_, ?_⟩
  · show 0 + s0.n + s1.n = _; omega
  · show [] ++ s0.L ++ s1.L = _; rw [List.nil_append]
theorem concatTwo_any (g0 b0 o0 c0 b1 o1 c1 : Nat) (xs ys zs : List Bk) (hz : xs ++ ys = zs) (w : World) (h0 : SliceOf w (.slice (some ⟨b0, o0, none⟩) xs.length c0) xs) (h1 : SliceOf w (.slice (some ⟨b1, o1, none⟩) ys.length c1) ys) (hb0 : b0 < w.heap.size) (hb1 : b1 < w.heap.size) (hn : xs.length + ys.length ≤ 1000)
    (q0 : w.cell? ⟨g0, 0, none⟩ = some (.slice (some ⟨b0, o0, none⟩) xs.length c0)) (q1 : w.cell? ⟨g0, 1, none⟩ = some (.slice (some ⟨b1, o1, none⟩) ys.length c1)) (hg0 : g0 < w.heap.size) :
    Calls Tryd.prog 48 #[.slice (some ⟨g0, 0, none⟩) 2 2] w fun e w' => ∃ v, e = .returned v ∧ ResB w' w.heap.size v zs ∧ Below w.heap.size w w' := by
  subst hz
  obtain ⟨k1, k2⟩ := co_two2 (So2 b0 o0 xs.length c0 xs) (So2 b1 o1 ys.length c1 ys)
  have H := concatOB_any [So2 b0 o0 xs.length c0 xs, So2 b1 o1 ys.length c1 ys] g0 w (by
    intro s hs
    simp only [List.mem_cons, List.not_mem_nil, or_false] at hs
    rcases hs with rfl | rfl
    · exact so2_ok h0 hb0
    · exact so2_ok h1 hb1) (by
    intro k hk
    match k, hk with
    | 0, _ => exact q0
    | 1, _ => exact q1) hg0 (by show coN _ 2 ≤ _; rw [k1]; show xs.length + ys.length ≤ _; omega) (by show 2 ≤ 1000; decide)
  refine H.mono fun e w' h => ?_
  obtain ⟨v, r1, r2, r3⟩ := h
  refine ⟨v, r1, ?_, r3⟩
  have e3 : coN [So2 b0 o0 xs.length c0 xs, So2 b1 o1 ys.length c1 ys] 2 = (xs ++ ys).length := by rw [k1, List.length_append]; rfl
  have e4 : coL [So2 b0 o0 xs.length c0 xs, So2 b1 o1 ys.length c1 ys] 2 = flatB (xs ++ ys) := by rw [k2, flatB_app2]; rfl
  have r2 : w'.ownsRow w.heap.size 53 8 v (coN [So2 b0 o0 xs.length c0 xs, So2 b1 o1 ys.length c1 ys] 2) (coL [So2 b0 o0 xs.length c0 xs, So2 b1 o1 ys.length c1 ys] 2) := r2
  rw [e3, e4] at r2
  exact ResB.of r2 rfl

set_option maxHeartbeats 8000000 in
theorem mergeBooks_any (b0 o0 c0 b1 o1 c1 : Nat) (xs ys : List Bk) (wf : ∀ b ∈ xs, b.Wf) (wfy : ∀ b ∈ ys, b.Wf) (w : World) (s i y : Addr) (he : Errs w s i y) (hs0 : SliceOf w (.slice (some ⟨b0, o0, none⟩) xs.length c0) xs) (hs1 : SliceOf w (.slice (some ⟨b1, o1, none⟩) ys.length c1) ys) (hb0 : b0 < w.heap.size) (hb1 : b1 < w.heap.size) (hn0 : xs.length ≤ 1048576) (hn1 : ys.length ≤ 1048576) :
    Calls Tryd.prog 23 #[.slice (some ⟨b0, o0, none⟩) xs.length c0, .slice (some ⟨b1, o1, none⟩) ys.length c1] w fun e w' => ∃ u, e = .returned (.tuple #[u, .int .i64 (mgC xs ys)]) ∧ ResB w' w.heap.size u (mgL xs ys) ∧ Below w.heap.size w w' := by
  have hm0 : xs.length ≤ maxLen := by unfold maxLen; omega
  have hm1 : ys.length ≤ maxLen := by unfold maxLen; omega
  have G1 := Lib.hid (show Below w.heap.size w (w.alloc (.cells #[.slice (some ⟨b0, o0, none⟩) xs.length c0, .slice (some ⟨b1, o1, none⟩) ys.length c1] 27)) from (Below.refl _ _).alloc (Nat.le_refl _) _)
  have X1 := Lib.hid (heap_alloc_new w (.cells #[.slice (some ⟨b0, o0, none⟩) xs.length c0, .slice (some ⟨b1, o1, none⟩) ys.length c1] 27))
  have Y1 : w.heap.size < (w.alloc (.cells #[.slice (some ⟨b0, o0, none⟩) xs.length c0, .slice (some ⟨b1, o1, none⟩) ys.length c1] 27)).heap.size := by simp
  have CK := Lib.hid (fun W g h => checkSorted2_any (.slice (some ⟨b0, o0, none⟩) xs.length c0) (.slice (some ⟨b1, o1, none⟩) ys.length c1) xs ys wf wfy W g s i y h)
  have HE := Lib.hid (he.below G1.out)
  have HS0 := Lib.hid (hs0.below G1.out)
  have HS1 := Lib.hid (hs1.below G1.out)
  have WF := Lib.hid wf
  have WFY := Lib.hid wfy
  clear hs0 hs1 wf wfy he
  have MC := Lib.hid (mg_cases xs ys)
  by_cases hk : ck2 xs ys = 0
  · have EV : ck2V xs ys s i = .nilIface := by unfold ck2V; rw [hk]; rfl
    rw [EV] at CK
    by_cases h5 : 60 < xs.length + ys.length
    · have e : mgC xs ys = 3 := by unfold mgC; rw [hk, if_neg (by decide), if_pos h5]
      rw [mgL_bad (by rw [e]; decide), e]
      clear e MC EV hk
      have h6 : (60 : Int) < (xs.length : Int) + (ys.length : Int) := by omega
      have h7 : IntKind.i64.wrap ((xs.length : Int) + (ys.length : Int)) = (xs.length : Int) + (ys.length : Int) := IntWalk.i64_in _ (by omega)
      go_enter Tryd.func23, Tryd.ntmps23
      go_wp2_with fail
      generalize World.alloc w _ = W1 at G1 X1 Y1 HE HS0 HS1 ⊢
      refine (CK.out W1 w.heap.size HE.out (cell_of_row W1 _ 0 _ _ _ X1.out) (cell_of_row W1 _ 1 _ _ _ X1.out) Y1 HS0.out HS1.out hn0 hn1).mono ?_
      rintro e w1 ⟨rfl, q1⟩
      go_wp2
      go_ret2
      exact ⟨.slice none 0 0, rfl, resB_none _ _, bnext G1.out q1⟩
    · have e : mgC xs ys = 0 := by unfold mgC; rw [hk, if_neg (by decide), if_neg h5]
      rw [mgL_good e, e]
      clear e MC EV hk
      have h6 : ¬ (60 : Int) < (xs.length : Int) + (ys.length : Int) := by omega
      have h7 : IntKind.i64.wrap ((xs.length : Int) + (ys.length : Int)) = (xs.length : Int) + (ys.length : Int) := IntWalk.i64_in _ (by omega)
      have WA := Lib.hid (show ∀ b ∈ xs ++ ys, b.Wf from fun b hb => by
        rcases List.mem_append.1 hb with h | h
        · exact WF.out b h
        · exact WFY.out b h)
      obtain ⟨zs, hzs⟩ : ∃ z, xs ++ ys = z := ⟨_, rfl⟩
      have HZ9 := Lib.hid hzs
      have ES := Lib.hid (stable_ins (zs := [1, 2, 3]) (by intro z hz; simp at hz; rcases hz with rfl | rfl | rfl <;> decide) WA.out)
      have LA := Lib.hid (show (xs ++ ys).length = xs.length + ys.length from List.length_append)
      rw [hzs] at WA ES LA
      clear hzs
      go_enter Tryd.func23, Tryd.ntmps23
      go_wp2_with fail
      generalize World.alloc w _ = W1 at G1 X1 Y1 HE HS0 HS1 ⊢
      refine (CK.out W1 w.heap.size HE.out (cell_of_row W1 _ 0 _ _ _ X1.out) (cell_of_row W1 _ 1 _ _ _ X1.out) Y1 HS0.out HS1.out hn0 hn1).mono ?_
      rintro e w1 ⟨rfl, q1⟩
      have B1 := Lib.hid (bnext G1.out q1)
      have S0 := Lib.hid (HS0.out.below q1)
      have S1 := Lib.hid (HS1.out.below q1)
      have z1 := B1.out.size
      have G2 := Lib.hid (show Below w1.heap.size w1 (w1.alloc (.cells #[.slice (some ⟨b0, o0, none⟩) xs.length c0, .slice (some ⟨b1, o1, none⟩) ys.length c1] 27)) from (Below.refl _ _).alloc (Nat.le_refl _) _)
      have X2 := Lib.hid (heap_alloc_new w1 (.cells #[.slice (some ⟨b0, o0, none⟩) xs.length c0, .slice (some ⟨b1, o1, none⟩) ys.length c1] 27))
      have Y2 : w1.heap.size < (w1.alloc (.cells #[.slice (some ⟨b0, o0, none⟩) xs.length c0, .slice (some ⟨b1, o1, none⟩) ys.length c1] 27)).heap.size := by simp
      clear q1
      go_wp2_with fail
      generalize World.alloc w1 _ = W2 at G2 X2 Y2 ⊢
      refine (concatTwo_any w1.heap.size b0 o0 c0 b1 o1 c1 xs ys zs HZ9.out W2 (S0.out.below G2.out) (S1.out.below G2.out) (by omega) (by omega) (by omega) (cell_of_row W2 _ 0 _ _ _ X2.out) (cell_of_row W2 _ 1 _ _ _ X2.out) Y2).mono ?_
      rintro e w3 ⟨v, rfl, r3, q3⟩
      have B3 := Lib.hid (bnext (bnext B1.out G2.out) q3)
      have z3 := B3.out.size
      clear q3
      rcases r3 with ⟨rfl, hnil⟩ | ⟨g, N, rfl, hbg, hrow, hN⟩
      · have HN := Lib.hid hnil
        clear hnil
        go_wp2_with fail
        refine (inOrderBn_any _ 0).mono ?_
        rintro e w4 ⟨rfl, q4⟩
        go_wp2
        go_ret2
        exact ⟨.slice none 0 0, rfl, by rw [HZ9.out, HN.out]; exact resB_none _ _, bnext B3.out q4⟩
      · have SL := Lib.hid (show SliceOf w3 (.slice (some ⟨g, 0, none⟩) zs.length N) zs from ⟨_, N, rfl, fun _ => ⟨g, 0, rfl, hrow.lt, hrow.at_⟩⟩)
        clear hrow hN
        by_cases h0 : 0 < zs.length
        · go_wp2_with fail
          refine (inOrderB_any g 0 N zs WA.out w3 h0 (by have := LA.out; omega) SL.out).mono ?_
          rintro e w4 ⟨u, rfl, r4, q4⟩
          rw [ES.out] at r4
          have R4 := Lib.hid (r4.mono z3)
          clear r4
          go_wp2
          go_ret2
          exact ⟨u, rfl, by rw [HZ9.out]; exact R4.out, bnext B3.out q4⟩
        · obtain rfl : zs = [] := List.eq_nil_of_length_eq_zero (by omega)
          go_wp2_with fail
          refine (inOrderB0_any ⟨g, 0, none⟩ N _).mono ?_
          rintro e w4 ⟨rfl, q4⟩
          go_wp2
          go_ret2
          exact ⟨.slice none 0 0, rfl, by rw [HZ9.out]; exact resB_none _ _, bnext B3.out q4⟩
  · have hor : (ck2 xs ys = 1 ∧ ck2V xs ys s i = .iface 158 (.pointer (some i))) ∨ (ck2 xs ys = 4 ∧ ck2V xs ys s i = .iface 158 (.pointer (some s))) := by
      unfold ck2V
      rcases MC.out with ⟨-, -, e⟩ | ⟨-, -, -, e⟩ | ⟨-, -, -, -, e⟩ | ⟨-, -, -, -, -, e⟩ | ⟨-, -, -, -, -, -, e⟩ | ⟨-, -, -, -, -, -, e⟩
      · exact .inl ⟨e, by rw [e]; rfl⟩
      · exact .inl ⟨e, by rw [e]; rfl⟩
      · exact .inr ⟨e, by rw [e]; rfl⟩
      · exact .inr ⟨e, by rw [e]; rfl⟩
      · exact absurd e hk
      · exact absurd e hk
    have e : mgC xs ys = ck2 xs ys := by unfold mgC; rw [if_pos hk]
    rw [mgL_bad (by rw [e]; exact hk), e]
    clear e MC hk
    rcases hor with ⟨e1, e2⟩ | ⟨e1, e2⟩
    · rw [e2] at CK
      rw [e1]
      clear e1 e2
      go_enter Tryd.func23, Tryd.ntmps23
      go_wp2_with fail
      generalize World.alloc w _ = W1 at G1 X1 Y1 HE HS0 HS1 ⊢
      refine (CK.out W1 w.heap.size HE.out (cell_of_row W1 _ 0 _ _ _ X1.out) (cell_of_row W1 _ 1 _ _ _ X1.out) Y1 HS0.out HS1.out hn0 hn1).mono ?_
      rintro e w1 ⟨rfl, q1⟩
      have HE2 := Lib.hid (HE.out.below q1)
      have B1 := Lib.hid (bnext G1.out q1)
      clear q1
      go_wp2_with fail
      refine (codeOf_invalid _ s i y HE2.out).mono ?_
      rintro e w2 ⟨rfl, rfl⟩
      go_wp2
      go_ret2
      exact ⟨.slice none 0 0, rfl, resB_none _ _, B1.out⟩
    · rw [e2] at CK
      rw [e1]
      clear e1 e2
      go_enter Tryd.func23, Tryd.ntmps23
      go_wp2_with fail
      generalize World.alloc w _ = W1 at G1 X1 Y1 HE HS0 HS1 ⊢
      refine (CK.out W1 w.heap.size HE.out (cell_of_row W1 _ 0 _ _ _ X1.out) (cell_of_row W1 _ 1 _ _ _ X1.out) Y1 HS0.out HS1.out hn0 hn1).mono ?_
      rintro e w1 ⟨rfl, q1⟩
      have HE2 := Lib.hid (HE.out.below q1)
      have B1 := Lib.hid (bnext G1.out q1)
      clear q1
      go_wp2_with fail
      refine (codeOf_state _ s i y HE2.out).mono ?_
      rintro e w2 ⟨rfl, rfl⟩
      go_wp2
      go_ret2
      exact ⟨.slice none 0 0, rfl, resB_none _ _, B1.out⟩
end Go.Proofs.YteeblpdjpaellaaDoor
