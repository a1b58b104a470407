/- A case made of heights and counts, by the program: a contract. Condition: numbers within their kinds, slices no longer than can be. -/
import Derived.Test.YtblgoflkcomncaaCf2
import Derived.Test.YtblgoflkcomncaaMark
import Derived.Laws.ResultCell
namespace Go.Proofs.Ytblgoflkcomncaa
set_option linter.unusedSimpArgs false
set_option linter.unusedVariables false
set_option maxRecDepth 100000
open Go.RowKit Go.Shelf
attribute [local go_sem] Oper.semAt_some

/-- The heights of some indices, each as often as told. -/
def cfQ (hs ss : List Int) (l : List Nat) : List Int := l.flatMap fun i => List.replicate (ss.getD i 0).toNat (hs.getD i 0)
theorem cfQ_snoc (hs ss : List Int) (l : List Nat) (i : Nat) : cfQ hs ss (l ++ [i]) = cfQ hs ss l ++ List.replicate (ss.getD i 0).toNat (hs.getD i 0) := by simp [cfQ]
theorem cfQ_to (hs ss : List Int) : ∀ d, d ≤ hs.length → cfTo hs ss d = cfQ hs ss ((List.range d).map fun k => hs.length - 1 - k)
  | 0, _ => rfl
  | d + 1, h => by rw [cfTo, cfQ_to hs ss d (by omega), List.range_succ, List.map_append, List.map_cons, List.map_nil, cfQ_snoc]
theorem rev_range (n : Nat) : (List.range n).reverse = (List.range n).map fun k => n - 1 - k := by
  refine List.ext_getElem (by simp) fun i h1 h2 => ?_
  simp
theorem cfQ_all (hs ss : List Int) : cfQ hs ss (List.range hs.length).reverse = cfL hs ss := by
  rw [rev_range]
  exact (cfQ_to hs ss _ (Nat.le_refl _)).symm
theorem cfQ_len {hs ss : List Int} (h : cntB hs ss 12 = true) : ∀ l : List Nat, (cfQ hs ss l).length ≤ 12 * l.length
  | [] => by simp [cfQ]
  | i :: l => by
    obtain ⟨hl, hb⟩ := cnt_of h
    have ih := cfQ_len h l
    have e : cfQ hs ss (i :: l) = List.replicate (ss.getD i 0).toNat (hs.getD i 0) ++ cfQ hs ss l := by simp [cfQ]
    rw [e, List.length_append, List.length_replicate, List.length_cons]
    by_cases hi : i < ss.length
    · have := hb i hi
      have e2 : ss.getD i 0 = ss[i] := by simp [List.getD, List.getElem?_eq_getElem hi]
      rw [e2]
      omega
    · have e2 : ss.getD i 0 = 0 := by simp [List.getD, List.getElem?_eq_none (Nat.le_of_not_lt hi)]
      rw [e2]
      simp
      omega
theorem own_kind {w : World} {B n : Nat} {t : TypeId} {v : Value} {l : List Value} (h : w.ownsRow B t 1 v n l) : ∀ k, v.ownBlock = some k → ∃ cs, w.heap[k]? = some (.cells cs t (0, 0)) := fun k hk => by
  rcases h.2 with ⟨rfl, _⟩ | ⟨g, cap, cur, rfl, _, hg, _⟩
  · cases hk
  · have e : g = k := Option.some.inj hk
    subst e
    exact ⟨cur, hg⟩
theorem set3_block (W : World) (D g : Nat) (hne : D ≠ g) (x y z : Value) {o : Option Obj} (h : W.heap[D]? = o) : (((W.setCell ⟨g, 0, none⟩ x).setCell ⟨g, 1, none⟩ y).setCell ⟨g, 2, none⟩ z).heap[D]? = o := by
  have st : ∀ (W : World) (k : Nat) (u : Value), W.heap[D]? = o → (W.setCell ⟨g, k, none⟩ u).heap[D]? = o := fun W k u hW => (Below.heap_setCell W ⟨g, k, none⟩ u D (by simpa using hne)).trans hW
  exact st _ 2 z (st _ 1 y (st _ 0 x h))
theorem withinH_any (n low high : Int) (w : World) :
    Calls Try.prog 77 #[.int .i64 n, .int .i64 low, .int .i64 high] w fun e w' => e = .returned (.bool (inB n low high)) ∧ w = w' := by
  by_cases h1 : low ≤ n
  · by_cases h2 : n ≤ high
    · go_enter Try.func77, Try.ntmps77
      go_wp2
      go_ret
      exact ⟨by simp [inB, h1, h2], rfl⟩
    · go_enter Try.func77, Try.ntmps77
      go_wp2
      go_ret
      exact ⟨by simp [inB, h1, h2], rfl⟩
  · go_enter Try.func77, Try.ntmps77
    go_wp2
    go_ret
    exact ⟨by simp [inB]; omega, rfl⟩
set_option maxHeartbeats 8000000 in
theorem caseFrom_any (p : Pg) (wf : p.Wf) (v v2 : Value) (hs ss : List Int) (wi lo : Int) (wz : ∀ z ∈ hs, (Lit.int .i64 z).wf = true) (w : World) (s1 : IntsOf .i64 w v hs) (s2 : IntsOf .i64 w v2 ss) (h1 : hs.length ≤ maxLen) (h2 : ss.length ≤ maxLen) :
    Calls Try.prog 18 #[.agg #[.int .i16 p.lo, .int .i16 p.st, .int .i16 p.bo], v, v2, .int .i64 wi, .int .i64 lo] w (MadeCs (cfV p hs ss wi lo) (cfC p hs ss wi lo) w) := by
  obtain ⟨A, q, rfl, ha⟩ := id s1
  obtain ⟨A2, q2, rfl, ha2⟩ := id s2
  have G0 := Lib.hid (show Below w.heap.size w (((w.alloc (.cells #[.int .i16 p.lo, .int .i16 p.st, .int .i16 p.bo] 31)).alloc (.cells #[.slice A2 ss.length q2] 25)).alloc (.cells #[.int .i16 0, .int .i32 0, .slice none 0 0] 28)) by go_grown)
  have XS := Lib.hid (show (((w.alloc (.cells #[.int .i16 p.lo, .int .i16 p.st, .int .i16 p.bo] 31)).alloc (.cells #[.slice A2 ss.length q2] 25)).alloc (.cells #[.int .i16 0, .int .i32 0, .slice none 0 0] 28)).heap[w.heap.size + 1]? = some (.cells #[.slice A2 ss.length q2] 25 (0, 0)) by
    refine (Below.heap_alloc _ _ _ (by simp)).trans ?_
    have := heap_alloc_new (w.alloc (.cells #[.int .i16 p.lo, .int .i16 p.st, .int .i16 p.bo] 31)) (.cells #[.slice A2 ss.length q2] 25)
    simpa using this)
  have K0 := Lib.hid (show KB (((w.alloc (.cells #[.int .i16 p.lo, .int .i16 p.st, .int .i16 p.bo] 31)).alloc (.cells #[.slice A2 ss.length q2] 25)).alloc (.cells #[.int .i16 0, .int .i32 0, .slice none 0 0] 28)) (w.heap.size + 1 + 1) 0 0 (.slice none 0 0) by
    have := kb_new ((w.alloc (.cells #[.int .i16 p.lo, .int .i16 p.st, .int .i16 p.bo] 31)).alloc (.cells #[.slice A2 ss.length q2] 25)) 0 0 (.slice none 0 0)
    simpa using this)
  have WF := Lib.hid wf
  have WZ := Lib.hid wz
  have HA := Lib.hid ha
  have HA2 := Lib.hid ha2
  have S1 := Lib.hid (s1.below G0.out)
  have S2 := Lib.hid (s2.below G0.out)
  clear wf wz s1 s2 ha ha2
  have OK := Lib.hid (fun W (h : IntsOf .i64 W (.slice A hs.length q) hs) => validHeights_any p WF.out (.slice A hs.length q) hs WZ.out W h h1)
  have OC := Lib.hid (fun W (h : IntsOf .i64 W (.slice A hs.length q) hs) (h' : IntsOf .i64 W (.slice A2 ss.length q2) ss) => areCounts_any (.slice A hs.length q) (.slice A2 ss.length q2) hs ss 12 W h h' h1 h2)
  have IW := Lib.hid (fun W => w16_any wi 1 2000 W)
  have IL := Lib.hid (fun W => w16_any lo 1 200000 W)
  cases hb : hsB p hs
  · obtain ⟨E1, E2⟩ := cf_one ss wi lo hb
    have E1 := Lib.hid E1
    have E2 := Lib.hid E2
    rw [hb] at OK
    go_enter Try.func18, Try.ntmps18
    go_wp2_with fail
    generalize World.alloc _ _ = W1 at G0 XS K0 S1 S2 ⊢
    refine (OK.out _ S1.out).mono ?_
    rintro e w1 ⟨rfl, g1⟩
    have K1 := Lib.hid (K0.out.below g1)
    have G1 := Lib.hid (bnext G0.out g1)
    have fz := K1.out.fz
    have c0 := K1.out.c0
    have c1 := K1.out.c1
    have c2 := K1.out.c2
    go_wp2
    (try simp only [Exit.inBlock, Exit.then])
    refine bodyPost_ret (v := .tuple #[.agg #[.int .i16 0, .int .i32 0, .slice none 0 0], .int .i64 1]) (by rw [results_cell_tmp rfl]; go_simp) rfl ?_
    exact madeCs_none E2.out E1.out rfl (((G1.out.setCell (p := ⟨w.heap.size + 1 + 1, 0, none⟩) (by simp; omega) _).setCell (p := ⟨w.heap.size + 1 + 1, 1, none⟩) (by simp; omega) _).setCell (p := ⟨w.heap.size + 1 + 1, 2, none⟩) (by simp; omega) _)
  · rw [hb] at OK
    cases hall : (inB wi 1 2000 && (inB lo 1 200000 && cntB hs ss 12))
    · obtain ⟨E1, E2⟩ := cf_two (p := p) hb hall
      have E1 := Lib.hid E1
      have E2 := Lib.hid E2
      go_enter Try.func18, Try.ntmps18
      go_wp2_with fail
      generalize World.alloc _ _ = W1 at G0 XS K0 S1 S2 ⊢
      refine (OK.out _ S1.out).mono ?_
      rintro e w1 ⟨rfl, g1⟩
      have K1 := Lib.hid (K0.out.below g1)
      have G1 := Lib.hid (bnext G0.out g1)
      have X1 := Lib.hid ((g1.block _ (Array.getElem?_eq_some_iff.1 XS.out).1).trans XS.out)
      have fz := K1.out.fz
      have c0 := K1.out.c0
      have c1 := K1.out.c1
      have c2 := K1.out.c2
      have x0 : w1.cell? ⟨w.heap.size + 1, 0, none⟩ = some (.slice A2 ss.length q2) := cell_of_row w1 _ 0 _ _ _ X1.out
      cases ha : inB wi 1 2000
      · rw [ha] at IW
        clear hall
        go_wp2_with (go_at_call 74; (first | (with_reducible refine (IW.out _).mono ?_) | (with_reducible refine (IL.out _).mono ?_)); rintro e w' ⟨rfl, rfl⟩)
        (try simp only [Exit.inBlock, Exit.then])
        refine bodyPost_ret (v := .tuple #[.agg #[.int .i16 0, .int .i32 0, .slice none 0 0], .int .i64 2]) (by rw [results_cell_tmp rfl]; go_simp) rfl ?_
        exact madeCs_none E2.out E1.out rfl (((G1.out.setCell (p := ⟨w.heap.size + 1 + 1, 0, none⟩) (by simp; omega) _).setCell (p := ⟨w.heap.size + 1 + 1, 1, none⟩) (by simp; omega) _).setCell (p := ⟨w.heap.size + 1 + 1, 2, none⟩) (by simp; omega) _)
      · rw [ha] at IW hall
        cases hl : inB lo 1 200000
        · rw [hl] at IL
          clear hall
          go_wp2_with (go_at_call 74; (first | (with_reducible refine (IW.out _).mono ?_) | (with_reducible refine (IL.out _).mono ?_)); rintro e w' ⟨rfl, rfl⟩)
          (try simp only [Exit.inBlock, Exit.then])
          refine bodyPost_ret (v := .tuple #[.agg #[.int .i16 0, .int .i32 0, .slice none 0 0], .int .i64 2]) (by rw [results_cell_tmp rfl]; go_simp) rfl ?_
          exact madeCs_none E2.out E1.out rfl (((G1.out.setCell (p := ⟨w.heap.size + 1 + 1, 0, none⟩) (by simp; omega) _).setCell (p := ⟨w.heap.size + 1 + 1, 1, none⟩) (by simp; omega) _).setCell (p := ⟨w.heap.size + 1 + 1, 2, none⟩) (by simp; omega) _)
        · rw [hl] at IL hall
          have hc : cntB hs ss 12 = false := hall
          rw [hc] at OC
          clear hall hc
          go_wp2_with (first | (go_at_call 74; (first | (with_reducible refine (IW.out _).mono ?_) | (with_reducible refine (IL.out _).mono ?_)); rintro e w' ⟨rfl, rfl⟩) | (go_at_call 75; refine (OC.out _ (S1.out.below g1) (S2.out.below g1)).mono ?_; rintro e w2 ⟨rfl, g2⟩; have K2 := Lib.hid (K1.out.below g2); have G2 := Lib.hid (bnext G1.out g2); have fz2 := K2.out.fz; have d0 := K2.out.c0; have d1 := K2.out.c1; have d2 := K2.out.c2))
          (try simp only [Exit.inBlock, Exit.then])
          refine bodyPost_ret (v := .tuple #[.agg #[.int .i16 0, .int .i32 0, .slice none 0 0], .int .i64 2]) (by rw [results_cell_tmp rfl]; go_simp) rfl ?_
          exact madeCs_none E2.out E1.out rfl (((G2.out.setCell (p := ⟨w.heap.size + 1 + 1, 0, none⟩) (by simp; omega) _).setCell (p := ⟨w.heap.size + 1 + 1, 1, none⟩) (by simp; omega) _).setCell (p := ⟨w.heap.size + 1 + 1, 2, none⟩) (by simp; omega) _)
    · have HALL := Lib.hid hall
      have HBB := Lib.hid hb
      have ha : inB wi 1 2000 = true := by cases h : inB wi 1 2000 <;> simp_all
      have hl : inB lo 1 200000 = true := by cases h : inB lo 1 200000 <;> simp_all
      have hc : cntB hs ss 12 = true := by cases h : cntB hs ss 12 <;> simp_all
      obtain ⟨hlen, hcb⟩ := cnt_of hc
      have HL := Lib.hid hlen
      have HCB := Lib.hid hcb
      have HC := Lib.hid hc
      obtain ⟨-, hb1, hb6⟩ := hsB_len hb
      have HH := Lib.hid (hsB_bounds hb)
      have wb : 1 ≤ wi ∧ wi ≤ 2000 := by unfold inB at ha; simpa using ha
      have lb : 1 ≤ lo ∧ lo ≤ 200000 := by unfold inB at hl; simpa using hl
      have hw1 : IntKind.i16.wrap wi = wi := IntWalk.i16_in _ (by omega)
      have hw2 : wrap32 lo = lo := IntWalk.wrap32_in _ (by omega)
      have hw3 : IntKind.i32.wrap lo = lo := IntWalk.i32_in _ (by omega)
      rw [ha] at IW
      rw [hl] at IL
      rw [hc] at OC
      clear hall hb ha hc hl hlen hcb
      obtain ⟨i0, hi0, hz0, hz1, hz2⟩ := info_parts infoI16
      refine (callsIn_wide (n := 3)).1 ?_
      refine callsIn_of_wp_marks Try.func18 rfl trivial ?_ rfl
      simp only [Try.ntmps18, List.size_toArray, List.length_cons, List.length_nil, Nat.reduceAdd, Nat.reduceSub, Array.replicate_succ, Array.replicate_zero, List.push_toArray, List.append_toArray, List.nil_append, List.cons_append]
      gi_wp2_with fail
      generalize World.alloc _ _ = W1 at G0 XS K0 S1 S2 ⊢
      refine ⟨trivial, (callsIn_wide.2 (OK.out _ S1.out)).mono ?_⟩
      rintro e w1 ⟨rfl, g1⟩
      have K1 := Lib.hid (K0.out.below g1)
      have G1 := Lib.hid (bnext G0.out g1)
      have X1 := Lib.hid ((g1.block _ (Array.getElem?_eq_some_iff.1 XS.out).1).trans XS.out)
      have x0 : w1.cell? ⟨w.heap.size + 1, 0, none⟩ = some (.slice A2 ss.length q2) := cell_of_row w1 _ 0 _ _ _ X1.out
      gi_wp2_with fail
      refine ⟨trivial, (callsIn_wide.2 (IW.out _)).mono ?_⟩
      rintro e w' ⟨rfl, rfl⟩
      gi_wp2_with fail
      refine ⟨trivial, (callsIn_wide.2 (IL.out _)).mono ?_⟩
      rintro e w' ⟨rfl, rfl⟩
      gi_wp2_with fail
      refine ⟨trivial, (callsIn_wide.2 (OC.out _ (S1.out.below g1) (S2.out.below g1))).mono ?_⟩
      rintro e w2 ⟨rfl, g2⟩
      have K2 := Lib.hid (K1.out.below g2)
      have G2 := Lib.hid (bnext G1.out g2)
      have X2 := Lib.hid ((g2.block _ (Array.getElem?_eq_some_iff.1 X1.out).1).trans X1.out)
      clear x0 X1 K1 G1 S1 S2 g1 g2 XS K0 G0
      gi_wp2_with fail
      refine ⟨trivial, (callsIn_wide.2 (backward_any _ _ _ _)).mono ?_⟩
      rintro e w3 ⟨rfl, rfl⟩
      gi_wp2
      have bz := K2.out.lt
      have b0 : KB ((w2.alloc (.cells #[.int .i16 wi, .int .i32 lo, .slice none 0 0] 28)).alloc (.cells #[.slice A hs.length q] 25)) w2.heap.size wi lo (.slice none 0 0) := (kb_new w2 wi lo (.slice none 0 0)).alloc _
      have b1 : ((w2.alloc (.cells #[.int .i16 wi, .int .i32 lo, .slice none 0 0] 28)).alloc (.cells #[.slice A hs.length q] 25)).heap[w2.heap.size + 1]? = some (.cells #[.slice A hs.length q] 25 (0, 0)) := by
        have := heap_alloc_new (w2.alloc (.cells #[.int .i16 wi, .int .i32 lo, .slice none 0 0] 28)) (.cells #[.slice A hs.length q] 25)
        simpa using this
      have b2 : Below w2.heap.size w2 ((w2.alloc (.cells #[.int .i16 wi, .int .i32 lo, .slice none 0 0] 28)).alloc (.cells #[.slice A hs.length q] 25)) := by go_grown
      have b3 : ((w2.alloc (.cells #[.int .i16 wi, .int .i32 lo, .slice none 0 0] 28)).alloc (.cells #[.slice A hs.length q] 25)).heap.size = w2.heap.size + 1 + 1 := by simp
      generalize World.alloc _ _ = Wz at b0 b1 b2 b3 ⊢
      have B3 := Lib.hid b3
      have G3 := Lib.hid (bnext G2.out b2)
      have K3 := Lib.hid (K2.out.below b2)
      have X3 := Lib.hid ((b2.block _ (Array.getElem?_eq_some_iff.1 X2.out).1).trans X2.out)
      have IK := Lib.hid (show IntsK Wz w.heap.size A hs from fun h0 => by
        obtain ⟨g, o, e, hg, hc⟩ := HA.out h0
        exact ⟨g, o, e, hg, fun k hk => (hc.below G3.out hg) k hk⟩)
      have KC := Lib.hid b0
      have hws := G3.out.size
      have BZ : w.heap.size + 1 + 1 < w2.heap.size := bz
      have BS : w2.heap.size < Wz.heap.size := by have := B3.out; omega
      clear b0 b2 b3 bz
      refine wpIn_rangeFunc_ownH rfl (by omega : 1 ≤ 3) (gf := 130) (lb := #[.pointer (some ⟨w2.heap.size + 1, 0, none⟩)]) rfl trivial (enters_of Try.func130 (by kernel_rfl) rfl)
        (bw_stops 2 (by omega) w.heap.size (w2.heap.size + 1) A q hs Wz b1 IK.out hws (by omega)) kpC_t (kpC_b hws) (Below.refl _ _) (fun _ => rfl)
        (fun pre W => ∃ vv, KB W w2.heap.size wi lo vv ∧ W.ownsRow Wz.heap.size 22 1 vv (cfQ hs ss (pre.map Subtype.val)).length ((cfQ hs ss (pre.map Subtype.val)).map (Value.int .i16)) ∧ KB W (w.heap.size + 1 + 1) 0 0 (.slice none 0 0) ∧ W.heap[w.heap.size + 1]? = some (.cells #[.slice A2 ss.length q2] 25 (0, 0)) ∧ Below w.heap.size w W ∧ Wz.heap.size ≤ W.heap.size)
        (fun _ _ _ => False)
        ?hI ?hIx ⟨_, KC.out, ⟨rfl, .inl ⟨rfl, rfl⟩⟩, K3.out, X3.out, G3.out, Nat.le_refl _⟩
        (fun x a' _ => a' = { tmps := #[.agg #[.int .i16 p.lo, .int .i16 p.st, .int .i16 p.bo], .slice A hs.length q, .slice A2 ss.length q2, .int .i64 wi, .int .i64 lo, .pointer (some ⟨w.heap.size, 0, none⟩), undef, .pointer (some ⟨w.heap.size + 1, 0, none⟩), undef, undef, .pointer (some ⟨w.heap.size + 1 + 1, 0, none⟩), .int .i64 0, .pointer (some ⟨w2.heap.size, 0, none⟩), .int .i64 (x.1 : Int), .int .i64 (hs[x.1]'x.2), .agg #[.int .i16 p.lo, .int .i16 p.st, .int .i16 p.bo], .slice A hs.length q, .bool true, .bool false, undef, .int .i64 wi, .bool true, .bool false, .bool false, .int .i64 lo, .bool true, .bool false, .bool false, .bool false, .slice A hs.length q, .slice A2 ss.length q2, .bool true, .bool false, .bool false, undef, .int .i64 wi, .int .i16 wi, .int .i64 lo, .int .i32 lo, .agg #[.int .i16 wi, .int .i32 lo, .slice none 0 0], .slice A hs.length q, .func (.func 130) #[] #[.pointer (some ⟨w2.heap.size + 1, 0, none⟩)], .int .i64 (x.1 : Int), .int .i64 (hs[x.1]'x.2), undef, undef, undef, undef, undef, undef, undef, undef, undef, undef, undef, undef, undef, undef, undef, undef, undef, undef, undef, undef, undef], defers := [] })
        ?hAx ?assign ?body ?done ?stop
      case hI =>
        rintro s X Y row ⟨vv, e1, e2, e3, e4, e5, e6⟩ hg hr
        have hb : ∀ k, k < Wz.heap.size → some k ≠ row := fun k hk e => by have := (hr k e.symm).1; omega
        refine ⟨vv, e1.kept hg (hb _ BS), ownOther e2 hg (fun k hk e => ?_), e3.kept hg (hb _ (by omega)), (hg.block _ (Array.getElem?_eq_some_iff.1 e4).1 (hb _ (by omega))).trans e4, e5.grown hg e5.size (fun k e => by have := (hr k e).1; omega), Nat.le_trans e6 hg.size⟩
        obtain ⟨_, ob, h1, h2⟩ := hr k e.symm
        obtain ⟨cs, h3⟩ := own_kind e2 k hk
        rw [h3] at h1
        cases h1
        cases h2
      case hIx => rintro c s X Y row h _ _; exact h
      case hAx => rintro x a' _ X Y row h _ _; exact h
      case assign =>
        rintro l pre x W K hI hK
        unfold bwE
        gi_wp2
        exact hK _ _ (KeepsOthers.refl _ |>.from _) (kpC_below (Below.refl _ _) (by obtain ⟨_, _, _, _, _, _, h⟩ := hI; omega)) hI rfl
      case body =>
        rintro l pre x a' W hl _ hI rfl hlt
        obtain ⟨j, hj⟩ := x
        obtain ⟨vv, e1, e2, e3, e4, e5, e6⟩ := hI
        have hj2 : j < ss.length := by have := HL.out; omega
        obtain ⟨gb, ob, rfl, hgb, hcb⟩ := HA2.out (by omega)
        obtain ⟨h50, h1000⟩ := HH.out _ (List.getElem_mem hj)
        obtain ⟨s0, s12⟩ := HCB.out j hj2
        have LQ := Lib.hid (cfQ_len (hs := hs) HC.out (pre.map Subtype.val))
        have PL := Lib.hid (show (pre.map Subtype.val).length ≤ 6 by rw [List.length_map]; omega)
        have QB := Lib.hid (fun (W : World) (hB : Below w.heap.size w W) => (hcb.below hB hgb) j hj2)
        have SQ := Lib.hid (cfQ_snoc hs ss (pre.map Subtype.val) j)
        have g1 : hs.getD j 0 = hs[j] := by simp [List.getD, List.getElem?_eq_getElem hj]
        have g2 : ss.getD j 0 = ss[j] := by simp [List.getD, List.getElem?_eq_getElem hj2]
        rw [g1, g2] at SQ
        clear g1 g2 hcb
        dsimp only
        generalize hs[j] = h at h50 h1000 SQ ⊢
        obtain ⟨m, hm⟩ : ∃ m : Nat, ss[j] = (m : Int) := ⟨ss[j].toNat, by omega⟩
        rw [hm] at SQ QB s12
        rw [Int.toNat_natCast] at SQ
        have hjs : (j : Int) < (ss.length : Int) := by omega
        have n16 : IntKind.i16.wrap h = h := IntWalk.i16_in _ (by omega)
        have x0 : W.cell? ⟨w.heap.size + 1, 0, none⟩ = some (.slice (some ⟨gb, ob, none⟩) ss.length q2) := cell_of_row W _ 0 _ _ _ e4
        have q0 := QB.out _ e5
        have E1 := Lib.hid e1
        have E2 := Lib.hid e2
        have E3 := Lib.hid e3
        have E4 := Lib.hid e4
        have E5 := Lib.hid e5
        have PM := Lib.hid (show (pre ++ [(⟨j, hj⟩ : BQ hs)]).map Subtype.val = pre.map Subtype.val ++ [j] by simp)
        clear hm s0 e1 e2 e3 e4 e5
        generalize pre.map Subtype.val = pm at LQ PL SQ E2 PM
        gi_wp2
        clear x0 q0
        gi_loopw [48] (fun k_ wr => ∃ (k : Nat) (vv : Value), k ≤ m ∧ k_ = .int .i64 (k : Int) ∧ KB wr w2.heap.size wi lo vv ∧ wr.ownsRow Wz.heap.size 22 1 vv (cfQ hs ss pm ++ List.replicate k h).length ((cfQ hs ss pm ++ List.replicate k h).map (Value.int .i16)) ∧ KB wr (w.heap.size + 1 + 1) 0 0 (.slice none 0 0) ∧ wr.heap[w.heap.size + 1]? = some (.cells #[.slice (some ⟨gb, ob, none⟩) ss.length q2] 25 (0, 0)) ∧ Below w.heap.size w wr ∧ Wz.heap.size ≤ wr.heap.size ∧ KeepsOthers W wr ∧ KpC w.heap.size W wr) (fun k_ _ => m - (intOf k_).toNat)
        case atStart => exact ⟨0, vv, Nat.zero_le _, rfl, E1.out, by simpa using E2.out, E3.out, E4.out, E5.out, e6, KeepsOthers.refl _, kpC_below (Below.refl _ _) (by omega)⟩
        case round =>
          clear E1 E2 E3 E4 E5
          obtain ⟨k, vv, hk, rfl, e1, e2, e3, e4, e5, e6', e7, e8⟩ := hrel
          have E1 := Lib.hid e1
          have E2 := Lib.hid e2
          have E3 := Lib.hid e3
          have E4 := Lib.hid e4
          have E5 := Lib.hid e5
          have E7 := Lib.hid e7
          have E8 := Lib.hid e8
          clear e1 e2 e3 e4 e5 e7 e8
          by_cases hlt : k < m
          · have cR := E1.out.c2
            have fR := E1.out.fz 2
            have hvl := Lib.hid (fun p hp => E2.out.lt p hp)
            have d9 : Below wr.heap.size wr (wr.alloc (.cells #[.int .i16 h] 22)) := (Below.refl _ _).alloc (Nat.le_refl _) _
            have OD := Lib.hid (ownBelow E2.out d9)
            have K9 := Lib.hid (E1.out.below d9)
            have R9 := Lib.hid (E3.out.below d9)
            have X9 := Lib.hid ((d9.block _ (Array.getElem?_eq_some_iff.1 E4.out).1).trans E4.out)
            have B9 := Lib.hid (bnext E5.out d9)
            have LK := Lib.hid (show (cfQ hs ss pm ++ List.replicate k h).length ≤ 200 by have := LQ.out; have := PL.out; simp; omega)
            have PT := Lib.hid (show cfQ hs ss pm ++ List.replicate (k + 1) h = (cfQ hs ss pm ++ List.replicate k h) ++ [h] by rw [List.replicate_succ', List.append_assoc])
            have KO9 := Lib.hid (E7.out.trans (KeepsOthers.alloc wr (.cells #[.int .i16 h] 22)))
            have KP9 := Lib.hid (kpC_t E8.out (kpC_below d9 (by omega)))
            generalize cfQ hs ss pm ++ List.replicate k h = xsf at E2 OD LK PT hvl
            have lk := LK.out
            have c9 : (wr.alloc (.cells #[.int .i16 h] 22)).cell? ⟨w2.heap.size, 2, none⟩ = some vv := K9.out.c2
            clear d9
            gi_wp2_with (refine wpListIn_append_own _ rfl (.tmp 51) (.tmp 54) _ rfl Wz.heap.size 22 i0 (.int .i16 0) 1 2 Try.underlying26 hi0 hz0 hz1 hz2 rfl (by decide) _ _ _ rfl OD.out ⟨wr.heap.size, 0, none⟩ 1 1 [.int .i16 h] rfl rfl (cell_one_new _ _ _) (by intro u hu; simp at hu; subst hu; rfl) (by unfold maxLen; omega) (by omega) (by simp; omega) ?_)
            intro v4 w4 ho4 hg4 hn4
            have hneB : some w2.heap.size ≠ vv.ownBlock := fun e => by have := (hvl.out _ e.symm).1; omega
            have hneR : some (w.heap.size + 1 + 1) ≠ vv.ownBlock := fun e => by have := (hvl.out _ e.symm).1; omega
            have hneX : some (w.heap.size + 1) ≠ vv.ownBlock := fun e => by have := (hvl.out _ e.symm).1; omega
            have K4 := Lib.hid (show KB w4 w2.heap.size wi lo vv from (hg4.block _ K9.out.lt hneB).trans K9.out)
            have R4 := Lib.hid (show KB w4 (w.heap.size + 1 + 1) 0 0 (.slice none 0 0) from (hg4.block _ R9.out.lt hneR).trans R9.out)
            have X4 := Lib.hid ((hg4.block _ (Array.getElem?_eq_some_iff.1 X9.out).1 hneX).trans X9.out)
            have hc4 : w4.ownsRow Wz.heap.size 22 1 v4 (xsf ++ [h]).length ((xsf ++ [h]).map (Value.int .i16)) := by
              rw [List.length_append, List.map_append]
              exact ho4
            have hrow : ∀ (j : Nat) (o : Obj), vv.ownBlock = some j → (wr.alloc (.cells #[.int .i16 h] 22)).heap[j]? = some o → o.isCells = true := fun j o hj ho => by
              obtain ⟨cs, h9⟩ := own_kind OD.out j hj
              rw [h9] at ho
              cases ho
              rfl
            have KO4 := Lib.hid (KO9.out.trans (KeepsOthers.of_grownBy hg4 hrow))
            have KP4 := Lib.hid (kpC_t KP9.out (kpC_grown hg4 (by simp; omega) (fun k hk => by
              obtain ⟨cs, h9⟩ := own_kind OD.out k hk
              have := (hvl.out k hk).1
              exact ⟨by omega, _, h9, fun a e => by injection e with _ e; exact absurd e (by decide)⟩)))
            obtain ⟨A4, n4, rfl⟩ := own_slK hc4
            have c4 := K4.out.c2
            have f4 := K4.out.fz 2
            have hv4 := hc4.lt
            have S0 := Lib.hid (K4.out.s2 (.slice A4 (xsf ++ [h]).length n4))
            have S1' := Lib.hid (R4.out.other (g' := w2.heap.size) (by omega) 2 (.slice A4 (xsf ++ [h]).length n4))
            have S2' := Lib.hid (ownOther hc4 (only_set2 (World.grownBy.refl w4 (some w2.heap.size)) 2 (.slice A4 (xsf ++ [h]).length n4)) (fun p hp e => by
              have h1 := (hv4 p hp).1
              have h2 : p = w2.heap.size := Option.some.inj e
              omega))
            have S3' := Lib.hid ((Below.heap_setCell w4 ⟨w2.heap.size, 2, none⟩ (.slice A4 (xsf ++ [h]).length n4) (w.heap.size + 1) (by simp; omega)).trans X4.out)
            have S4 : Wz.heap.size ≤ w4.heap.size := by have := hg4.size; simp at this; omega
            have S5 := Lib.hid (show Below w.heap.size w (w4.setCell ⟨w2.heap.size, 2, none⟩ (.slice A4 (xsf ++ [h]).length n4)) from (B9.out.grown hg4 B9.out.size (fun p hp => by have := (hvl.out p hp).1; omega)).setCell (p := ⟨w2.heap.size, 2, none⟩) (by show w.heap.size ≤ w2.heap.size; omega) _)
            have S7 := Lib.hid (KO4.out.trans (KeepsOthers.setCell w4 ⟨w2.heap.size, 2, none⟩ (.slice A4 (xsf ++ [h]).length n4)))
            have S8 := Lib.hid (kpC_t KP4.out (kpC_grown (only_set2 (World.grownBy.refl w4 (some w2.heap.size)) 2 (.slice A4 (xsf ++ [h]).length n4)) (by omega) (fun k hk => by
              have e : w2.heap.size = k := Option.some.inj hk
              subst e
              exact ⟨by omega, _, K4.out, fun a e => by injection e with _ e; exact absurd e (by decide)⟩)))
            have LA := Lib.hid (show (xsf ++ [h]).length = xsf.length + 1 by simp)
            clear ho4 hg4 hn4 hneB hneR hneX hc4 hrow hv4 c9 cR fR
            rw [LA.out] at S0 S1' S2' S3' S5 S7 S8
            gi_wp2
            go_roundw
            case rel => exact ⟨k + 1, _, by omega, by go_num, S0.out, by rw [PT.out, LA.out]; exact S2'.out, S1'.out, S3'.out, S5.out, by simpa [World.setCell] using S4, S7.out, S8.out⟩
            case measure => simp [intOf]; omega
          · obtain rfl : k = m := by omega
            gi_wp2
            refine ⟨E7.out.from _, E8.out, vv, E1.out, ?_, E3.out, E4.out, E5.out, e6'⟩
            rw [PM.out, SQ.out]
            exact E2.out
      case done =>
        rintro D ys W hD hys hI hK
        obtain ⟨vv, e1, e2, e3, e4, e5, e6⟩ := hI
        rw [hys, cfQ_all] at e2
        have E1 := Lib.hid e1
        have E2' := Lib.hid e2
        have E3 := Lib.hid e3
        have E5 := Lib.hid e5
        have HK := Lib.hid hK
        have HD := Lib.hid hD
        obtain ⟨Av, cv, rfl⟩ := own_slK e2
        have LC := Lib.hid (cfTo_len HC.out hs.length (Nat.le_refl _))
        have lc : (cfL hs ss).length ≤ 200 := by
          have := LC.out
          unfold cfL
          omega
        have r2 := E1.out.c2
        have WI := Lib.hid (fun W => withinH_any ((cfL hs ss).length : Int) 1 12 W)
        have zD : D ≠ w.heap.size + 1 + 1 := by omega
        have zB : D ≠ w2.heap.size := by omega
        clear e1 e2 e3 e4 e5 hys hK hD
        gi_wp2_with fail
        refine ⟨trivial, (callsIn_wide.2 (WI.out _)).mono ?_⟩
        rintro e w' ⟨rfl, rfl⟩
        cases h12 : inB ((cfL hs ss).length : Int) 1 12
        · obtain ⟨F1, F2⟩ := cf_three (p := p) (hs := hs) (ss := ss) (wi := wi) (lo := lo) HBB.out HALL.out h12
          have F1 := Lib.hid F1
          have F2 := Lib.hid F2
          have fz := E3.out.fz
          have c0 := E3.out.c0
          have c1 := E3.out.c1
          have c2 := E3.out.c2
          have N3 := Lib.hid (E3.out.all 0 0 (.slice none 0 0))
          have N5 := Lib.hid (((E5.out.setCell (p := ⟨w.heap.size + 1 + 1, 0, none⟩) (by simp; omega) (.int .i16 0)).setCell (p := ⟨w.heap.size + 1 + 1, 1, none⟩) (by simp; omega) (.int .i32 0)).setCell (p := ⟨w.heap.size + 1 + 1, 2, none⟩) (by simp; omega) (.slice none 0 0))
          have ND := Lib.hid (set3_block W D (w.heap.size + 1 + 1) zD (.int .i16 0) (.int .i32 0) (.slice none 0 0) HK.out)
          clear E1 E3 E5 HK r2
          gi_wp2
          clear fz c0 c1 c2
          generalize World.setCell _ _ _ = W9 at N3 N5 ND ⊢
          refine ⟨by simp, .inl ⟨_, _, rfl, run_takeDeferred ND.out, ?_⟩⟩
          have g6 := Lib.hid (show Below w.heap.size w (W9.putObj D (.deferred none)) from N5.out.grown (grownBy_putObj' W9 D (.deferred none)) N5.out.size (fun k e => by cases e; have := HD.out; omega))
          have k6 := Lib.hid (show KB (W9.putObj D (.deferred none)) (w.heap.size + 1 + 1) 0 0 (.slice none 0 0) from (World.putObj_heap_other (fun e => zD e.symm)).trans N3.out)
          generalize W9.putObj D (.deferred none) = W10 at g6 k6 ⊢
          have c0 := k6.out.c0
          have c1 := k6.out.c1
          have c2 := k6.out.c2
          refine ⟨.tuple #[.agg #[.int .i16 0, .int .i32 0, .slice none 0 0], .int .i64 3], ?_, madeCs_none F2.out F1.out rfl g6.out⟩
          simp [results, Try.f18, go_sem, c0, c1, c2]
        · obtain ⟨F1, F2⟩ := cf_good (p := p) (hs := hs) (ss := ss) (wi := wi) (lo := lo) HBB.out HALL.out h12
          have F1 := Lib.hid F1
          have F2 := Lib.hid F2
          have fz := E3.out.fz
          have c0 := E3.out.c0
          have c1 := E3.out.c1
          have c2 := E3.out.c2
          have e0 := E1.out.c0
          have e1 := E1.out.c1
          have N3 := Lib.hid (E3.out.all wi lo (.slice Av (cfL hs ss).length cv))
          have N5 := Lib.hid (((E5.out.setCell (p := ⟨w.heap.size + 1 + 1, 0, none⟩) (by simp; omega) (.int .i16 wi)).setCell (p := ⟨w.heap.size + 1 + 1, 1, none⟩) (by simp; omega) (.int .i32 lo)).setCell (p := ⟨w.heap.size + 1 + 1, 2, none⟩) (by simp; omega) (.slice Av (cfL hs ss).length cv))
          have ND := Lib.hid (set3_block W D (w.heap.size + 1 + 1) zD (.int .i16 wi) (.int .i32 lo) (.slice Av (cfL hs ss).length cv) HK.out)
          have ol := E2'.out.lt
          have NO := Lib.hid (own_sets E2'.out (w.heap.size + 1 + 1) (fun k hk e => by have := (ol k hk).1; omega) (.int .i16 wi) (.int .i32 lo) (.slice Av (cfL hs ss).length cv))
          clear E1 E3 E5 HK ol
          gi_wp2
          clear fz c0 c1 c2 e0 e1 r2
          generalize World.setCell _ _ _ = W9 at N3 N5 ND NO ⊢
          refine ⟨by simp, .inl ⟨_, _, rfl, run_takeDeferred ND.out, ?_⟩⟩
          have g6 := Lib.hid (show Below w.heap.size w (W9.putObj D (.deferred none)) from N5.out.grown (grownBy_putObj' W9 D (.deferred none)) N5.out.size (fun k e => by cases e; have := HD.out; omega))
          have k6 := Lib.hid (show KB (W9.putObj D (.deferred none)) (w.heap.size + 1 + 1) wi lo (.slice Av (cfL hs ss).length cv) from (World.putObj_heap_other (fun e => zD e.symm)).trans N3.out)
          have o6 := Lib.hid (ownOther NO.out (grownBy_putObj' W9 D (.deferred none)) (fun k hk e => by
            obtain ⟨cs, h9⟩ := own_kind NO.out k hk
            have e : k = D := Option.some.inj e
            subst e
            have := ND.out
            rw [h9] at this
            cases this))
          generalize W9.putObj D (.deferred none) = W10 at g6 k6 o6 ⊢
          have c0 := k6.out.c0
          have c1 := k6.out.c1
          have c2 := k6.out.c2
          refine ⟨.tuple #[.agg #[.int .i16 wi, .int .i32 lo, .slice Av (cfL hs ss).length cv], .int .i64 0], ?_, ?_⟩
          · simp [results, Try.f18, go_sem, c0, c1, c2]
          · rw [F1.out, F2.out]
            exact madeCs_mk (.slice Av (cfL hs ss).length cv) rfl (ownMono o6.out (by omega)) g6.out
      case stop =>
        rintro D c pre W hD hpre h hK
        exact h.elim
theorem specCF {p : Pg} (wf : p.Wf) {v v2 : Value} {hs ss : List Int} {wi lo : Int} (wz : ∀ z ∈ hs, (Lit.int .i64 z).wf = true) (wz2 : ∀ z ∈ ss, (Lit.int .i64 z).wf = true) (h1 : hs.length ≤ maxLen) (h2 : ss.length ≤ maxLen) {c : Cs} {k : Int} (hV : cfV p hs ss wi lo = c) (hK : cfC p hs ss wi lo = k) (w : World) (s1 : IntsOf .i64 w v hs) (s2 : IntsOf .i64 w v2 ss) :
    Calls Try.prog 15 #[.agg #[.int .i16 p.lo, .int .i16 p.st, .int .i16 p.bo], v, v2, .int .i64 wi, .int .i64 lo] w fun e w' => ∃ u, e = .returned (.tuple #[.agg #[.int .i16 c.wi, .int .i32 c.lo, u], .int .i64 k]) ∧ w'.ownsRow w.heap.size 22 1 u c.hs.length (c.hs.map (Value.int .i16)) ∧ Below w.heap.size w w' := by
  have h := specCaseFrom_any p wf v v2 hs ss wi lo wz wz2 w s1 s2 h1 h2
  rw [hV, hK] at h
  exact h
theorem implCF {p : Pg} (wf : p.Wf) {v v2 : Value} {hs ss : List Int} {wi lo : Int} (wz : ∀ z ∈ hs, (Lit.int .i64 z).wf = true) (h1 : hs.length ≤ maxLen) (h2 : ss.length ≤ maxLen) {c : Cs} {k : Int} (hV : cfV p hs ss wi lo = c) (hK : cfC p hs ss wi lo = k) (w : World) (s1 : IntsOf .i64 w v hs) (s2 : IntsOf .i64 w v2 ss) :
    Calls Try.prog 18 #[.agg #[.int .i16 p.lo, .int .i16 p.st, .int .i16 p.bo], v, v2, .int .i64 wi, .int .i64 lo] w fun e w' => ∃ u, e = .returned (.tuple #[.agg #[.int .i16 c.wi, .int .i32 c.lo, u], .int .i64 k]) ∧ w'.ownsRow w.heap.size 22 1 u c.hs.length (c.hs.map (Value.int .i16)) ∧ Below w.heap.size w w' := by
  have h := caseFrom_any p wf v v2 hs ss wi lo wz w s1 s2 h1 h2
  rw [hV, hK] at h
  exact h
end Go.Proofs.Ytblgoflkcomncaa
