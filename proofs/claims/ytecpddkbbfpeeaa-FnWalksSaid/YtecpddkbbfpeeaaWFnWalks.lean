/- FnWalks, walked. No condition. -/
import Derived.Test.YtecpddkbbfpeeaaFwP
import Derived.Test.YtecpddkbbfpeeaaFwS
import Derived.Test.YtecpddkbbfpeeaaSrcJ
import Derived.Test.YtecpddkbbfpeeaaShJ
import Derived.Test.YtecpddkbbfpeeaaWkI
import Derived.Test.YtecpddkbbfpeeaaHvJ
import Derived.Test.YtecpddkbbfpeeaaTitJ
import Derived.Test.YtecpddkbbfpeeaaTot
import Derived.Test.YtecpddkbbfpeeaaFields
import Derived.Test.YtecpddkbbfpeeaaPart
import Derived.Deep.CutBlock
namespace Go.Proofs.Ytecpddkbbfpeeaa
set_option linter.unusedSimpArgs false
set_option linter.unusedVariables false
set_option maxRecDepth 100000
open Go.RowKit

theorem revL_snoc {L : List Int} {k : Nat} (h : k < L.length) : (L.drop (k + 1)).reverse ++ [L[k]] = (L.drop k).reverse := by
  rw [List.drop_eq_getElem_cons h, List.reverse_cons]
theorem part_seg (xs : List Bk) (i c : Nat) : part xs i (i + c) = segB xs i c := by
  unfold part segB
  rw [show i + c - i = c by omega]
theorem seg_slice {W : World} {A : Option Addr} {c5 i c : Nat} {xs : List Bk} (h : SliceOf W (.slice A xs.length c5) xs) (hic : i + c ≤ xs.length) (hxc : xs.length ≤ c5) : SliceOf W (.slice (subA A i c5) c (c5 - i)) (segB xs i c) := by
  have h2 := h.part (i := i) (k := i + c) (m := c5) (by omega) (by omega) (by omega)
  rw [part_seg, show i + c - i = c by omega] at h2
  exact h2
theorem run_seg (A : Option Addr) (n c5 i c : Nat) (hic : i + c ≤ c5) (w : World) :
    (Instr.slice 32 (.slice A n c5) (some (.int .i64 (i : Int))) (some (.int .i64 ((i : Int) + (c : Int)))) none).run Try.prog w = .ok (.slice (subA A i c5) c (c5 - i)) w := by
  have h := run_part2 A n c5 i (i + c) (by omega) (by omega) w
  rw [show i + c - i = c by omega] at h
  rw [show (i : Int) + (c : Int) = ((i + c : Nat) : Int) by omega]
  exact h
theorem seg_len {xs : List Bk} {i c : Nat} (h : i + c ≤ xs.length) : (segB xs i c).length = c := by unfold segB; simp; omega
theorem seg_mem {xs : List Bk} {i c : Nat} {b : Bk} (h : b ∈ segB xs i c) : b ∈ xs := List.mem_of_mem_drop (List.mem_of_mem_take h)
theorem seg_ok {xs : List Bk} {i c : Nat} (h : okB xs = true) (hic : i + c ≤ xs.length) : okB (segB xs i c) = true := by
  have := okB_part i (i + c) h
  rwa [part_seg] at this
theorem tot_seg {L : List Bk} (h : okB L = true) : tW L = sumW L ∧ tE L = sumE L ∧ tCode L = 0 := by
  unfold tW tE tCode
  rw [h]
  refine ⟨?_, ?_, rfl⟩
  · show totW L L.length = _
    rw [totW_take L L.length (Nat.le_refl _), List.take_length]
  · show totE L L.length = _
    rw [totE_take L L.length (Nat.le_refl _), List.take_length]
theorem slice_at {W : World} {A : Option Addr} {c : Nat} {xs : List Bk} (h : SliceOf W (.slice A xs.length c) xs) (h0 : 0 < xs.length) : ∃ g o, A = some ⟨g, o, none⟩ ∧ g < W.heap.size ∧ BooksAt W g o xs := by
  obtain ⟨A', c', e, hat⟩ := h
  obtain ⟨g, o, e2, hg, ha⟩ := hat h0
  injection e with e1 _ _
  exact ⟨g, o, e1.trans e2, hg, ha⟩
theorem qs_tell {xs L : List Bk} (wx : ∀ b ∈ xs, b.Wf) (wl : ∀ b ∈ L, b.Wf) (ho : TkOk ttl xs L L.length) : ∀ j (h : j < L.length), ∃ (a : Nat) (ha : a < xs.length) (hj : j < (tkI xs L L.length).length), (tkI xs L L.length)[j] = (a : Int) ∧ usual xs[a] L[j] = 0 ∧ memB ((tkI xs L L.length).take j) (a : Int) = false := by
  intro j h
  obtain ⟨a, e, ha, ht, hn⟩ := tk_tell ho h
  have hl : j < (tkTo ttl xs L L.length).length := by rw [tk_len]; exact h
  refine ⟨a, ha, by rw [tkI_len]; exact h, ?_, ?_, ?_⟩
  · rw [List.getD_eq_getElem?_getD, List.getElem?_eq_getElem hl] at e
    simp only [tkI, List.getElem_map]
    rw [← e]
    rfl
  · rw [show xs.getD a default = xs[a] by simp [List.getD, List.getElem?_eq_getElem ha], show L.getD j default = L[j] by simp [List.getD, List.getElem?_eq_getElem h]] at ht
    exact (usual_zero (wx _ (List.getElem_mem ha)) (wl _ (List.getElem_mem h))).2 ht
  · have e2 : (tkI xs L L.length).take j = tkI xs L j := by unfold tkI; rw [← List.map_take, tk_take (Nat.le_of_lt h)]
    rw [e2, tkI_mem]
    exact decide_eq_false hn
theorem own_cap {w : World} {base : Nat} {e : TypeId} {size n m k : Nat} {v : Value} {A : Option Addr} {xs : List Value} (h : w.ownsRow base e size v n xs) (hv : v = .slice A m k) : m ≤ k := by
  subst hv
  rcases h.2 with ⟨h, _⟩ | ⟨g, cap, cur, h, _, _, hc, _⟩
  · injection h with _ h1 h2
    omega
  · injection h with _ h1 h2
    omega
theorem ints_at2 {W : World} {A : Option Addr} {n c : Nat} {zs : List Int} (h : IntsOf .i64 W (.slice A n c) zs) (h0 : 0 < zs.length) : ∃ g o, A = some ⟨g, o, none⟩ ∧ g < W.heap.size ∧ IntsAt .i64 W g o zs := by
  obtain ⟨A', c', e, hat⟩ := h
  obtain ⟨g, o, e2, hg, ha⟩ := hat h0
  injection e with e1 _ _
  exact ⟨g, o, e1.trans e2, hg, ha⟩
theorem ints_take {W : World} {g o c j : Nat} {zs : List Int} (hg : g < W.heap.size) (h : IntsAt .i64 W g o zs) (hj : j ≤ zs.length) : IntsOf .i64 W (.slice (some ⟨g, o, none⟩) j c) (zs.take j) := by
  refine ⟨_, c, by rw [List.length_take, Nat.min_eq_left hj], fun _ => ⟨g, o, rfl, hg, fun i hi => ?_⟩⟩
  rw [List.length_take] at hi
  rw [List.getElem_take]
  exact h i (by omega)
theorem IntsAt.belowP {W : World} {g o : Nat} {zs : List Int} (h : IntsAt .i64 W g o zs) (hg : g < W.heap.size) (p : BelowBy W) : IntsAt .i64 p.W g o zs := fun i hi => (p.h.cell (p := ⟨g, o + i, none⟩) hg).trans (h i hi)
set_option maxHeartbeats 1000000 in
/-- No books: none is told. -/
theorem heaviest_nil (c : Nat) (wide : Int) (hw : inB wide 1 6000 = true) (w : World) :
    Calls Try.prog 12 #[.slice none 0 c, .int .i64 wide] w fun e w' => e = .returned (.tuple #[.int .i64 0, .int .i64 0, .int .i64 0, .int .i64 6]) ∧ Below w.heap.size w w' := by
  have LO := Lib.hid (validBooks_any (.slice none 0 c) [] w ⟨none, c, rfl, fun h => absurd h (Nat.lt_irrefl _)⟩ (by unfold maxLen; simp))
  have LI := Lib.hid (fun W => withinN_any wide 1 6000 W)
  rw [hw] at LI
  rw [show okB [] = true from rfl] at LO
  clear hw
  go_enter Try.func12, Try.ntmps12
  go_wp2_with fail
  refine LO.out.mono ?_
  rintro e w1 ⟨rfl, h1⟩
  go_wp2_with fail
  refine (LI.out _).mono ?_
  rintro e w' ⟨rfl, rfl⟩
  go_wp2
  refine wp_loop_rounds 1 ?_
  rw [rounds_succ]; go_wp2
  (try simp only [Exit.inBlock, Exit.then]); refine bodyPost_ret (results_tmp4 rfl _ _ _) rfl ?_
  exact ⟨rfl, h1⟩
set_option maxRecDepth 1000000 in
set_option maxHeartbeats 16000000 in
theorem walkFnWalks (v0 v1 : Value) (zs0 zs1 : List Int) (w : World) (c0 : IntsOf .u8 w v0 zs0) (c1 : IntsOf .u8 w v1 zs1) (b0 : ∀ z ∈ zs0, 0 ≤ z ∧ z ≤ 255) (b1 : ∀ z ∈ zs1, 0 ≤ z ∧ z ≤ 255) :
    Calls Try.prog 3 #[v0, v1] w fun e w' => e = .returned (.bool true) ∧ Below w.heap.size w w' := by
  have C0 := Lib.hid c0
  have C1 := Lib.hid c1
  have HB0 := Lib.hid b0
  have HB1 := Lib.hid b1
  obtain ⟨A0, k0, rfl, -⟩ := c0
  obtain ⟨A1, k1, rfl, -⟩ := c1
  clear b0 b1
  by_cases h0 : 4096 < (zs0.length : Int)
  · have d0 : decide (4096 < (zs0.length : Int)) = true := decide_eq_true h0
    go_enter Try.func3, Try.ntmps3
    go_wp2_with fail
    refine (f6big_ok _ _ _ _).mono ?_
    rintro e w' ⟨rfl, rfl⟩
    rw [d0]
    go_wp2
    go_ret
    exact ⟨rfl, Below.refl _ _⟩
  by_cases h1 : 4096 < (zs1.length : Int)
  · have d0 : decide (4096 < (zs0.length : Int)) = false := decide_eq_false h0
    have d1 : decide (4096 < (zs1.length : Int)) = true := decide_eq_true h1
    go_enter Try.func3, Try.ntmps3
    go_wp2_with fail
    refine (f6big_ok _ _ _ _).mono ?_
    rintro e w' ⟨rfl, rfl⟩
    rw [d0]
    go_wp2_with fail
    refine (f6big_ok _ _ _ _).mono ?_
    rintro e w' ⟨rfl, rfl⟩
    rw [d1]
    go_wp2
    go_ret
    exact ⟨rfl, Below.refl _ _⟩
  have l0 : zs0.length ≤ 1048576 := by omega
  have l1 : zs1.length ≤ 1048576 := by omega
  have d0 : decide (4096 < (zs0.length : Int)) = false := decide_eq_false h0
  have d1 : decide (4096 < (zs1.length : Int)) = false := decide_eq_false h1
  have PS := Lib.hid (p6Stops_any C0.out HB0.out l0)
  have PK0 := Lib.hid (fun W (hb : Below w.heap.size w W) n h1 h2 => p6Pick_any (C0.out.below hb) HB0.out l0 n h1 h2)
  have PK1 := Lib.hid (fun W (hb : Below w.heap.size w W) n h1 h2 => p6Pick_any (C1.out.below hb) HB1.out l1 n h1 h2)
  have PL := Lib.hid (fun W (hb : Below w.heap.size w W) => p6List_any (C1.out.below hb) HB1.out l1)
  clear h0 h1 l0 l1
  go_enter Try.func3, Try.ntmps3
  go_wp2_with fail
  refine (f6big_ok _ _ _ _).mono ?_
  rintro e w' ⟨rfl, rfl⟩
  rw [d0]
  go_wp2_with fail
  refine (f6big_ok _ _ _ _).mono ?_
  rintro e w' ⟨rfl, rfl⟩
  rw [d1]
  clear d0 d1
  go_wp2_with fail
  refine PS.out.mono ?_
  rintro e w1 ⟨u, ss, rfl, ⟨q0, N0, rfl⟩, ho, hs6, hsb, h1⟩
  have S1 := Lib.hid (ownInts ho)
  have B1 := Lib.hid h1
  clear ho h1
  go_wp2_with fail
  refine (PK1.out _ B1.out 30 (by omega) (by omega)).mono ?_
  rintro e w2 ⟨a, rfl, ⟨a1, a2⟩, h2⟩
  have S2 := Lib.hid (S1.out.below h2)
  have B2 := Lib.hid (bnext B1.out h2)
  clear h2 S1 B1
  have hss : ∀ z ∈ ss, 0 ≤ z ∧ z ≤ 999 := fun z hz => ⟨(hsb z hz).1, by have := (hsb z hz).2; omega⟩
  have e0 : wkC ss a = 0 := wkC_ok ⟨a1, by omega⟩ hss (by omega)
  have eR : swR ss a = walkI ss a := by unfold swR; rw [if_pos e0]
  have eV : swV ss a = farF a (walkI ss a) := by unfold swV; rw [if_pos e0]
  have pm := walkI_perm ss a
  have hl := pm.length_eq
  have e1 : wkC (walkI ss a) a = 0 := wkC_ok ⟨a1, by omega⟩ (fun z hz => hss z (pm.mem_iff.1 hz)) (by omega)
  have e2 : wkC ss.reverse a = 0 := wkC_ok ⟨a1, by omega⟩ (fun z hz => hss z (by simpa using hz)) (by rw [List.length_reverse]; omega)
  have f0 : wkR ss a = farF a ss := by unfold wkR; rw [if_pos e0]
  have f1 : wkR (walkI ss a) a = farF a (walkI ss a) := by unfold wkR; rw [if_pos e1]
  have f2 : wkR ss.reverse a = farF a ss.reverse := by unfold wkR; rw [if_pos e2]
  have g0 := far_walk ss a
  have g1 := far_back ss a
  have hm : ss.length ≤ maxLen := by unfold maxLen; omega
  have SI := Lib.hid (fun W v (h : IntsOf .i64 W v ss) => shortestWalk_any v ss a W h hm)
  have SS := Lib.hid (fun W gz oz cz (h : IntsOf .i64 W (.slice (some ⟨gz, oz, none⟩) ss.length cz) ss) => specShortestWalk_any gz oz cz ss a W h hm)
  have WL := Lib.hid (fun W v (h : IntsOf .i64 W v ss) => walkLength_any v ss a W h hm)
  have WW := Lib.hid (fun W v (h : IntsOf .i64 W v (walkI ss a)) => walkLength_any v (walkI ss a) a W h (by unfold maxLen; omega))
  have WB := Lib.hid (fun W v (h : IntsOf .i64 W v ss.reverse) => walkLength_any v ss.reverse a W h (by rw [List.length_reverse]; exact hm))
  rw [e0, eR, eV, hl] at SI SS
  rw [e0, f0] at WL
  rw [e1, f1] at WW
  rw [e2, f2] at WB
  have D0 : decide (farF a ss < farF a (walkI ss a)) = false := decide_eq_false (by omega)
  have D1 : decide (farF a ss.reverse < farF a (walkI ss a)) = false := decide_eq_false (by omega)
  have SM := Lib.hid (fun W v1 v2 h1 h2 => sameNumbers_any v1 v2 (walkI ss a) W h1 h2 (by omega))
  generalize farF a (walkI ss a) = FL at *
  generalize farF a ss = F0 at *
  generalize farF a ss.reverse = F1 at *
  have HL := Lib.hid hl
  generalize walkI ss a = ws at *
  clear e0 e1 e2 f0 f1 f2 g0 g1 eR eV pm hss hl
  have HSB := Lib.hid hsb
  clear hsb
  go_wp2_with fail
  refine (SI.out _ _ S2.out).mono ?_
  rintro e w3 ⟨u1, rfl, ho, h3⟩
  rw [← HL.out] at ho
  have U3 := Lib.hid (ownInts ho)
  obtain ⟨A3, k3, e3⟩ : ∃ A k, u1 = .slice A ss.length k := by
    obtain ⟨A, k, e, _⟩ := U3.out
    exact ⟨A, k, by rw [e, HL.out]⟩
  subst e3
  have S3 := Lib.hid (S2.out.below h3)
  have B3 := Lib.hid (bnext B2.out h3)
  clear h3 ho S2 B2
  go_wp2_with fail
  refine (SS.out _ _ _ _ S3.out).mono ?_
  rintro e w4 ⟨u2, rfl, ho, h4⟩
  rw [← HL.out] at ho
  have V4 := Lib.hid (ownInts ho)
  obtain ⟨A4, k4, e4⟩ : ∃ A k, u2 = .slice A ss.length k := by
    obtain ⟨A, k, e, _⟩ := V4.out
    exact ⟨A, k, by rw [e, HL.out]⟩
  subst e4
  have U4 := Lib.hid (U3.out.below h4)
  have S4 := Lib.hid (S3.out.below h4)
  have B4 := Lib.hid (bnext B3.out h4)
  clear h4 ho U3 S3 B3
  go_wp2_with fail
  refine (WL.out _ _ S4.out).mono ?_
  rintro e w5 ⟨rfl, h5⟩
  have V5 := Lib.hid (V4.out.below h5)
  have U5 := Lib.hid (U4.out.below h5)
  have S5 := Lib.hid (S4.out.below h5)
  have B5 := Lib.hid (bnext B4.out h5)
  clear h5 V4 U4 S4 B4
  go_wp2_with fail
  refine (WW.out _ _ V5.out).mono ?_
  rintro e w6 ⟨rfl, h6⟩
  have V6 := Lib.hid (V5.out.below h6)
  have U6 := Lib.hid (U5.out.below h6)
  have S6 := Lib.hid (S5.out.below h6)
  have B6 := Lib.hid (bnext B5.out h6)
  clear h6 V5 U5 S5 B5
  go_wp2_with fail
  refine (SM.out _ _ _ U6.out V6.out).mono ?_
  rintro e w7 ⟨rfl, h7⟩
  have S7 := Lib.hid (S6.out.below h7)
  have B7 := Lib.hid (bnext B6.out h7)
  clear h7 V6 U6 S6 B6
  have BA := Lib.hid (show Below w7.heap.size w7 (w7.alloc (.cells #[] 2)) from (Below.refl w7.heap.size w7).alloc (Nat.le_refl _) (.cells #[] 2))
  have OA := Lib.hid (show (w7.alloc (.cells #[] 2)).ownsRow w7.heap.size 2 1 (.slice (some ⟨w7.heap.size, 0, none⟩) 0 0) ([] : List Int).length (([] : List Int).map (Value.int .i64)) from ⟨rfl, .inr ⟨w7.heap.size, 0, #[], rfl, Nat.le_refl _, heap_alloc_new w7 _, Nat.le_refl _, Nat.zero_le _, rfl, rfl⟩⟩)
  go_upto_region 12 with (fail)
  generalize World.alloc w7 _ = W8 at BA OA ⊢
  go_wp2_with fail
  go_loopw [17, 18] (fun v_ i_ wr => ∃ (v : Value) (k : Nat) (z : Int), v = v_ ∧ k ≤ ss.length ∧ z + 1 = (k : Int) ∧ i_ = .int .i64 z ∧ wr.ownsRow w7.heap.size 2 1 v (ss.drop k).reverse.length ((ss.drop k).reverse.map (Value.int .i64)) ∧ Below w7.heap.size w7 wr) (fun _ i_ _ => (intOf i_ + 1).toNat)
  case atStart => exact ⟨_, ss.length, _, rfl, Nat.le_refl _, by omega, rfl, by rw [List.drop_length]; exact OA.out, BA.out⟩
  case round =>
    obtain ⟨v, k, z, rfl, hk, hz, rfl, hown, hb⟩ := hrel
    have OW := Lib.hid hown
    have SR := Lib.hid (S7.out.below hb)
    have BR := Lib.hid hb
    have RL := Lib.hid (show (ss.drop k).reverse.length = ss.length - k by simp)
    clear hown hb OA BA
    have hsz := BR.out.size
    by_cases hk0 : 0 < k
    · obtain ⟨m, rfl⟩ : ∃ m, k = m + 1 := ⟨k - 1, by omega⟩
      obtain rfl : z = (m : Int) := by omega
      have hz0 : (0 : Int) ≤ (m : Int) := by omega
      have hm1 : (m : Int) < (ss.length : Int) := by omega
      obtain ⟨A2, c2, rfl⟩ := vlen_own1 OW.out
      obtain ⟨A', c', e', hat⟩ := SR.out
      obtain ⟨g', o', e2, hg', hi⟩ := hat (by omega)
      injection e' with e3 _ e4
      rw [e2] at e3
      injection e3 with e3
      injection e3 with e5 e6
      subst e5 e6
      have p0 := hi m (by omega)
      rw [Nat.zero_add] at p0
      have RS := Lib.hid (revL_snoc (L := ss) (k := m) (by omega))
      have hrl : (ss.drop (m + 1)).reverse.length ≤ 6 := by rw [RL.out]; omega
      generalize (ss.drop (m + 1)).reverse = bk at OW RS hrl RL
      generalize ss[m] = x at p0 RS
      clear hat hi e4 SR
      obtain ⟨i0, hi0, hz0', hz1, hz2⟩ := info_parts infoIntD
      go_wp2_with (at_builtin; refine wpList_append_own _ rfl (.tmp 128) (.tmp 133) _ rfl w7.heap.size 2 i0 (.int .i64 0) 1 8 Try.underlying24 hi0 hz0' hz1 hz2 rfl (by decide) _ _ _ rfl (OW.out.alloc _) ⟨wr.heap.size, 0, none⟩ 1 1 [.int .i64 x] rfl rfl ?c1 (by intro u hu; simp at hu; subst hu; rfl) (by unfold maxLen; omega) (by omega) (by simp; omega) ?_)
      try (case c1 => (intro j u hu; match j, hu with | 0, hu => (simp at hu; subst hu; exact (cell_of_row _ _ 0 _ _ _ (heap_alloc_new wr _)).trans rfl) | j + 1, hu => simp at hu))
      intro v' w4 hown' hgrow' _
      have ha : Below wr.heap.size wr (wr.alloc (.cells #[.int .i64 x] 2)) := (Below.refl _ _).alloc (Nat.le_refl _) _
      have O4 := Lib.hid (show w4.ownsRow w7.heap.size 2 1 v' (ss.drop m).reverse.length ((ss.drop m).reverse.map (Value.int .i64)) by rw [← RS.out, List.map_append, List.length_append]; exact hown')
      have BR2 := Lib.hid ((bnext BR.out ha).grown hgrow' (bnext BR.out ha).size (fun k hk => (OW.out.lt k hk).1))
      obtain ⟨A3, c3, rfl⟩ := vlen_own1 hown'
      clear hown' hgrow' ha
      go_wp2
      go_roundw
      case rel => exact ⟨_, m, (m : Int) - 1, rfl, by omega, by omega, by first | rfl | (congr 1; omega), O4.out, BR2.out⟩
      case measure => first | (simp [intOf]; done) | (simp [intOf]; omega)
    · obtain rfl : k = 0 := by omega
      obtain rfl : z = -1 := by omega
      rw [show ss.drop 0 = ss from rfl] at OW
      have B8 := Lib.hid (bnext B7.out BR.out)
      have I8 := Lib.hid (ownInts OW.out)
      rw [List.length_reverse] at OW
      obtain ⟨A2, c2, rfl⟩ := vlen_own1 OW.out
      clear SR RL OW BR S7 B7
      generalize ss.reverse = rv at I8 WB
      go_wp2_with fail
      refine (WB.out _ _ I8.out).mono ?_
      rintro e w9 ⟨rfl, h9⟩
      have B9 := Lib.hid (bnext B8.out h9)
      clear h9 B8 I8
      go_wp2_with fail
      refine (PL.out _ B9.out).mono ?_
      rintro e w10 ⟨lv, xs, rfl, hr, hn11, hok, h10⟩
      have R10 := Lib.hid (hr.mono B9.out.size)
      have B10 := Lib.hid (bnext B9.out h10)
      obtain ⟨A5, c5, rfl⟩ : ∃ A c, lv = .slice A xs.length c := by
        obtain ⟨A, c, h, _⟩ := R10.out.slice
        exact ⟨A, c, h⟩
      have okx : okB xs = true := by rw [okB_all (fun i hi => hok _ (List.getElem_mem hi))]; exact decide_eq_true (by omega)
      have wfx : ∀ b ∈ xs, b.Wf := fun b hb => bookB_Wf (hok b hb)
      have hmx : xs.length ≤ maxLen := by unfold maxLen; omega
      have HOK := Lib.hid hok
      clear hr h10 B9 hok
      go_wp2_with fail
      refine (PK0.out _ B10.out 150 (by omega) (by omega)).mono ?_
      rintro e w11 ⟨z, rfl, ⟨z1, z2⟩, h11⟩
      have S11 := Lib.hid (R10.out.slice.below h11)
      have B11 := Lib.hid (bnext B10.out h11)
      have ww : wrap64 (1 + z) = 1 + z := by unfold wrap64; omega
      obtain ⟨wide, hwd⟩ : ∃ wide, 1 + z = wide := ⟨_, rfl⟩
      have hw : inB wide 1 6000 = true := by unfold inB; simp only [Bool.and_eq_true, decide_eq_true_eq]; omega
      have HI := Lib.hid (show ∀ W, SliceOf W (.slice A5 xs.length c5) xs → Calls Try.prog 12 #[.slice A5 xs.length c5, .int .i64 wide] W fun e w' => e = .returned (.tuple #[.int .i64 (hvV xs wide).f, .int .i64 (hvV xs wide).c, .int .i64 (hvV xs wide).m, .int .i64 (hvC xs wide)]) ∧ Below W.heap.size W w' by
        rcases R10.out with ⟨e, hx⟩ | ⟨g5, N5, e, _, _, hN⟩
        · subst hx
          injection e with e1 e2 e3
          subst e1
          intro W _
          have e4 : hvC [] wide = 6 := by unfold hvC; rw [hw]; rfl
          have e5 : hvV [] wide = ⟨0, 0, 0⟩ := by unfold hvV; rw [e4]; rfl
          rw [e4, e5]
          exact heaviest_nil c5 wide hw W
        · injection e with e1 _ e3
          subst e1 e3
          exact fun W h => heaviest_any g5 0 _ xs wfx wide W h hN hmx)
      have SP := Lib.hid (fun W (h : SliceOf W (.slice A5 xs.length c5) xs) => specHeaviest_any (.slice A5 xs.length c5) xs wfx wide W h hmx)
      obtain ⟨five, hfive, hcase, hmost⟩ : ∃ five, hvC xs wide = five ∧ (five = 6 ∨ (five = 0 ∧ xs.length ≤ c5 ∧ ∃ i c : Nat, (hvV xs wide).f = i ∧ (hvV xs wide).c = c ∧ 1 ≤ c ∧ i + c ≤ xs.length ∧ sumW (segB xs i c) ≤ wide ∧ (hvV xs wide).m = sumE (segB xs i c))) ∧ ∀ k (h : k < xs.length), xs[k].wi ≤ wide → five = 0 ∧ xs[k].we ≤ (hvV xs wide).m := by
        rcases hv_tell okx hw with ⟨h1, h2⟩ | ⟨h1, h2, h3⟩
        · exact ⟨6, h1, .inl rfl, fun k hk h => absurd h (h2 k hk)⟩
        · refine ⟨0, h1, .inr ⟨rfl, ?_, h2⟩, fun k hk h => ⟨rfl, h3 k hk h⟩⟩
          obtain ⟨i, c, _, _, hc1, hic, _⟩ := h2
          rcases R10.out with ⟨e, hx⟩ | ⟨g5, N5, e, _, _, hN⟩
          · subst hx
            simp at hic
            omega
          · injection e with e1 _ e3
            rw [e3]
            exact hN
      rw [hfive] at HI SP
      have HM := Lib.hid hmost
      have HBB := Lib.hid (show ∀ k (h : k < xs.length), (1 ≤ xs[k].wi ∧ xs[k].wi ≤ 100) ∧ 1 ≤ xs[k].we ∧ xs[k].we ≤ 9999 from fun k h => by have := bookB_mk (HOK.out _ (List.getElem_mem h)); omega)
      generalize (hvV xs wide).f = F at *
      generalize (hvV xs wide).c = C at *
      generalize (hvV xs wide).m = M at *
      have HC := Lib.hid hcase
      have HWD := Lib.hid hwd
      have OKX := Lib.hid okx
      have WFX := Lib.hid wfx
      clear hmost hcase h11 B10 R10 okx wfx hfive hw
      rw [hwd] at ww
      go_wp2_with fail
      refine (HI.out _ S11.out).mono ?_
      rintro e w12 ⟨rfl, h12⟩
      have S12 := Lib.hid (S11.out.below h12)
      have B12 := Lib.hid (bnext B11.out h12)
      clear h12 S11 B11
      go_wp2_with fail
      refine (SP.out _ S12.out).mono ?_
      rintro e w13 ⟨rfl, h13⟩
      have S13 := Lib.hid (S12.out.below h13)
      have B13 := Lib.hid (bnext B12.out h13)
      clear h13 S12 B12 HI SP
      rcases HC.out with rfl | ⟨rfl, hxc, i, c, rfl, rfl, hc1, hic, hsw, rfl⟩
      · go_upto_region 31 with (fail)
        go_wp2_with fail
        go_loopw [33] (fun i_ wr => ∃ k : Nat, k ≤ xs.length ∧ i_ = .int .i64 (k : Int) ∧ Below w.heap.size w wr ∧ SliceOf wr (.slice A5 xs.length c5) xs) (fun i_ _ => xs.length - (intOf i_).toNat)
        case atStart => exact ⟨0, Nat.zero_le _, rfl, B13.out, S13.out⟩
        case round =>
          obtain ⟨k, hk, rfl, hb, hs⟩ := hrel
          have BR := Lib.hid hb
          have SR := Lib.hid hs
          clear S13 B13 hb hs
          by_cases hlt : k < xs.length
          · obtain ⟨g, o, e5, hg, hat⟩ := slice_at SR.out (by omega)
            subst e5
            obtain ⟨x0, x1, x2, x3, x4, x5, x6, x7⟩ := booksAt_some hat hlt
            obtain ⟨⟨n1, n2⟩, n3, n4⟩ := HBB.out k hlt
            have m1 := HM.out k hlt
            clear hat
            generalize xs[k] = x at x0 x1 x2 x3 x4 x5 x6 x7 n1 n2 n3 n4 m1
            by_cases hwx : x.wi ≤ wide
            · obtain ⟨m2, m3⟩ := m1 hwx
              first
              | (exfalso; omega)
              | (have m4 : ¬ (SE < x.we) := by omega
                 clear m1 m2 m3
                 go_wp2
                 go_roundw
                 case rel => exact ⟨k + 1, by omega, by go_num, BR.out, SR.out⟩
                 case measure => first | (simp [intOf]; done) | (simp [intOf]; omega))
            · clear m1
              go_wp2
              go_roundw
              case rel => exact ⟨k + 1, by omega, by go_num, BR.out, SR.out⟩
              case measure => first | (simp [intOf]; done) | (simp [intOf]; omega)
          · obtain rfl : k = xs.length := by omega
            obtain ⟨wy, rfl⟩ : ∃ x, x = wr := ⟨_, rfl⟩
            have BA := Lib.hid (show Below wy.heap.size wy (wy.alloc (.cells #[] 42)) from (Below.refl wy.heap.size wy).alloc (Nat.le_refl _) (.cells #[] 42))
            have OA := Lib.hid (show (wy.alloc (.cells #[] 42)).ownsRow wy.heap.size 42 8 (.slice (some ⟨wy.heap.size, 0, none⟩) 0 0) ([] : List Bk).length (flB []) from ⟨rfl, .inr ⟨wy.heap.size, 0, #[], rfl, Nat.le_refl _, heap_alloc_new wy _, Nat.le_refl _, Nat.zero_le _, rfl, rfl⟩⟩)
            go_upto_region 37 with (fail)
            generalize World.alloc wy _ = W16 at BA OA ⊢
            go_wp2_with fail
            go_loopw [34, 35] (fun v_ i_ wr => ∃ (v : Value) (L : List Bk) (k : Nat) (z : Int), v = v_ ∧ k ≤ xs.length ∧ (z + 1 = (k : Int) ∨ (k = 0 ∧ z = -2)) ∧ i_ = .int .i64 z ∧ L ++ wantL xs k = wantL xs xs.length ∧ wr.ownsRow wy.heap.size 42 8 v L.length (flB L) ∧ Below wy.heap.size wy wr) (fun _ i_ _ => (intOf i_ + 2).toNat)
            case atStart => exact ⟨_, [], xs.length, _, rfl, Nat.le_refl _, .inl (by omega), rfl, rfl, OA.out, BA.out⟩
            case round =>
              obtain ⟨v, L, k, z, rfl, hk, hz, rfl, hL, hown, hb⟩ := hrel
              have OW := Lib.hid hown
              have SX := Lib.hid (SR.out.below hb)
              have BX := Lib.hid hb
              have HLW := Lib.hid hL
              have hLl : L.length ≤ 11 := by
                have h1 := congrArg List.length hL
                rw [List.length_append] at h1
                have h2 := want_len xs xs.length
                omega
              clear hown hb hL OA BA
              have hsz := BX.out.size
              by_cases hk0 : 0 < k
              · obtain ⟨m, rfl⟩ : ∃ m, k = m + 1 := ⟨k - 1, by omega⟩
                obtain rfl : z = (m : Int) := by omega
                have hz0 : (0 : Int) ≤ (m : Int) := by omega
                have hm1 : (m : Int) < (xs.length : Int) := by omega
                obtain ⟨g, o, e5, hg, hat⟩ := slice_at SX.out (by omega)
                subst e5
                obtain ⟨x0, x1, x2, x3, x4, x5, x6, x7⟩ := booksAt_some hat (show m < xs.length by omega)
                have WS := Lib.hid (show (L ++ [xs[m]]) ++ wantL xs (m - 1) = wantL xs xs.length by
                  rw [← HLW.out, want_step, show xs.getD m default = xs[m] by simp [List.getD, List.getElem?_eq_getElem (show m < xs.length by omega)]]
                  simp)
                clear hat HLW
                generalize xs[m] = b at x0 x1 x2 x3 x4 x5 x6 x7 WS
                obtain ⟨A2, c2, rfl⟩ := vlen_own8 OW.out
                obtain ⟨i0, hi0, hz0', hz1, hz2⟩ := info_parts infoBook
                go_wp2_with (at_builtin; refine wpList_append_own _ rfl (.tmp 271) (.tmp 276) _ rfl wy.heap.size 42 i0 (.agg #[.int .i16 0, .int .u8 0, .int .u8 0, .int .u8 0, .int .i16 0, .int .i16 0, .int .i16 0, .int .i16 0]) 8 14 Try.underlying32 hi0 hz0' hz1 hz2 rfl (by decide) _ _ _ rfl (OW.out.alloc _) ⟨wr.heap.size, 0, none⟩ 1 1 [.int .i16 b.c, .int .u8 b.m0, .int .u8 b.m1, .int .u8 b.m2, .int .i16 b.v, .int .i16 b.wi, .int .i16 b.hi, .int .i16 b.we] rfl rfl (cell8_new _ _ _ _ _ _ _ _ _ _) (one8 b) (by unfold maxLen; omega) (by omega) (by simp; omega) ?_)
                intro v' w4 hown' hgrow' _
                have ha : Below wr.heap.size wr (wr.alloc (.cells #[.int .i16 b.c, .int .u8 b.m0, .int .u8 b.m1, .int .u8 b.m2, .int .i16 b.v, .int .i16 b.wi, .int .i16 b.hi, .int .i16 b.we] 42)) := (Below.refl _ _).alloc (Nat.le_refl _) _
                have B4 := Lib.hid ((bnext BX.out ha).grown hgrow' (bnext BX.out ha).size (fun q hq => (OW.out.lt q hq).1))
                rw [← flB_snoc] at hown'
                have O4 := Lib.hid hown'
                obtain ⟨A3, c3, rfl⟩ := vlen_own8 hown'
                clear hown' hgrow' ha OW
                go_wp2
                go_roundw
                case rel => exact ⟨_, L ++ [b], m - 1, (m : Int) - 2, rfl, by omega, by omega, by first | rfl | (congr 1; omega), WS.out, by rw [List.length_append]; exact O4.out, B4.out⟩
                case measure => first | (simp [intOf]; done) | (simp [intOf]; omega)
              · obtain rfl : k = 0 := by omega
                have hz' : ¬ ((0 : Int) ≤ z) := by omega
                obtain rfl : L = wantL xs xs.length := by rw [← HLW.out]; simp [wantL]
                have WL2 := Lib.hid (want_len xs xs.length)
                have WO := Lib.hid (want_ok xs (tl := ttl))
                have WM := Lib.hid (fun b (h : b ∈ wantL xs xs.length) => want_mem (Nat.le_refl _) h)
                generalize wantL xs xs.length = L at OW WL2 WO WM hLl
                obtain ⟨A2, c2, rfl⟩ := vlen_own8 OW.out
                have RB := Lib.hid (ResB.ofL OW.out rfl)
                have BZ := Lib.hid (bnext BR.out BX.out)
                clear OW BR BX SR HLW
                have WFL := Lib.hid (fun b (h : b ∈ L) => WFX.out b (WM.out b h))
                have okL : okB L = true := by rw [okB_all (fun i hi => HOK.out _ (WM.out _ (List.getElem_mem hi)))]; exact decide_eq_true (by omega)
                obtain ⟨w1, w2⟩ := wt_good OKX.out okL WO.out
                rw [show (tkTo ttl xs L L.length).map (fun (n : Nat) => (n : Int)) = tkI xs L L.length from rfl] at w2
                have IW := Lib.hid (fun W v0 v1 h1 h2 => walkTo_any v0 v1 xs L WFX.out WFL.out W h1 h2 hmx (by unfold maxLen; omega))
                have SW2 := Lib.hid (fun W v0 v1 h1 h2 => specWalkTo_any v0 v1 xs L WFX.out WFL.out W h1 h2 hmx (by unfold maxLen; omega))
                rw [w1, w2] at IW SW2
                have QT := Lib.hid (qs_tell WFX.out WFL.out WO.out)
                have QL := Lib.hid (tkI_len xs L L.length)
                clear w1 w2 okL WO
                generalize tkI xs L L.length = qs at IW SW2 QT QL
                rw [QL.out] at IW SW2
                have SM := Lib.hid (fun W v1 v2 h1 h2 => sameNumbers_any v1 v2 qs W h1 h2 (by rw [QL.out]; omega))
                go_wp2_with fail
                refine (IW.out _ _ _ SX.out RB.out.slice).mono ?_
                rintro e wa ⟨u1, rfl, ho, hb⟩
                rw [← QL.out] at ho
                have Ua := Lib.hid (ownInts ho)
                obtain ⟨Aa, ka, ea⟩ : ∃ A k, u1 = .slice A L.length k := by
                  obtain ⟨A, k, e, _⟩ := Ua.out
                  exact ⟨A, k, by rw [e, QL.out]⟩
                subst ea
                have Sa := Lib.hid (SX.out.below hb)
                have Ra := Lib.hid (RB.out.slice.below hb)
                have Ba := Lib.hid (bnext BZ.out hb)
                clear ho hb IW SX RB BZ
                go_wp2_with fail
                refine (SW2.out _ _ _ Sa.out Ra.out).mono ?_
                rintro e wb ⟨u2, rfl, ho, hb⟩
                rw [← QL.out] at ho
                have Vb := Lib.hid (ownInts ho)
                have CK := fun A m k => own_cap (A := A) (m := m) (k := k) ho
                obtain ⟨Ab, kb, eb⟩ : ∃ A k, u2 = .slice A L.length k := by
                  obtain ⟨A, k, e, _⟩ := Vb.out
                  exact ⟨A, k, by rw [e, QL.out]⟩
                have hkb := CK _ _ _ eb
                clear CK
                subst eb
                have Ub := Lib.hid (Ua.out.below hb)
                have Sb := Lib.hid (Sa.out.below hb)
                have Rb := Lib.hid (Ra.out.below hb)
                have Bb := Lib.hid (bnext Ba.out hb)
                clear ho hb SW2 Sa Ra Ba Ua
                go_wp2_with fail
                refine (SM.out _ _ _ Ub.out Vb.out).mono ?_
                rintro e wc ⟨rfl, hb⟩
                have Vc := Lib.hid (Vb.out.below hb)
                have Sc := Lib.hid (Sb.out.below hb)
                have Rc := Lib.hid (Rb.out.below hb)
                have Bc := Lib.hid (bnext Bb.out hb)
                clear hb Ub Vb Sb Rb Bb SM
                go_wp2_with fail
                go_loopw [40] (fun i_ wr => ∃ k : Nat, k ≤ L.length ∧ i_ = .int .i64 (k : Int) ∧ Below wc.heap.size wc wr) (fun i_ _ => L.length - (intOf i_).toNat)
                case atStart => exact ⟨0, Nat.zero_le _, rfl, Below.refl _ _⟩
                case round =>
                  obtain ⟨k, hk, rfl, hb⟩ := hrel
                  have BR := Lib.hid hb
                  by_cases hlt : k < L.length
                  · obtain ⟨a, ha, hj, e1, e2, e3⟩ := QT.out k hlt
                    obtain ⟨g1, o1, f1, hg1, hi1⟩ := ints_at2 (Vc.out.below hb) (by omega)
                    obtain ⟨g2, o2, f2, hg2, hat2⟩ := slice_at (Sc.out.below hb) (by omega)
                    obtain ⟨g3, o3, f3, hg3, hat3⟩ := slice_at (Rc.out.below hb) (by omega)
                    subst f1 f2 f3
                    have p0 := hi1 k hj
                    rw [e1] at p0
                    obtain ⟨x0, x1, x2, x3, x4, x5, x6, x7⟩ := booksAt_some hat2 ha
                    obtain ⟨y0, y1, y2, y3, y4, y5, y6, y7⟩ := booksAt_some hat3 hlt
                    have CB := Lib.hid (fun W => compareBooks_any xs[a] L[k] (WFX.out _ (List.getElem_mem ha)) (WFL.out _ (List.getElem_mem hlt)) W)
                    rw [e2] at CB
                    have HN := Lib.hid (fun (p : BelowBy wr) => hasNumber_any (.slice (some ⟨g1, o1, none⟩) k kb) (qs.take k) (a : Int) p.W (ints_take (c := kb) (Nat.lt_of_lt_of_le hg1 p.h.size) (hi1.belowP hg1 p) (by omega)) (by rw [List.length_take]; unfold maxLen; omega))
                    rw [e3] at HN
                    have RH := fun W => run_hiN (some ⟨g1, o1, none⟩) L.length kb k (by omega) W
                    have a0 : (0 : Int) ≤ (a : Int) := by omega
                    have a1' : (a : Int) < (xs.length : Int) := by omega
                    have a2' : ¬ ((xs.length : Int) ≤ (a : Int)) := by omega
                    have a3' : ¬ ((a : Int) < 0) := by omega
                    have k0' : (0 : Int) ≤ (k : Int) := by omega
                    have k1' : (k : Int) < (L.length : Int) := by omega
                    clear hat2 hat3 hi1 e1 e2 e3 hj hb
                    generalize xs[a] = xa at x0 x1 x2 x3 x4 x5 x6 x7 CB
                    generalize L[k] = lb at y0 y1 y2 y3 y4 y5 y6 y7 CB
                    have p0 := belowBy_cell hg1 p0
                    have x0 := belowBy_cell hg2 x0; have x1 := belowBy_cell hg2 x1; have x2 := belowBy_cell hg2 x2; have x3 := belowBy_cell hg2 x3
                    have x4 := belowBy_cell hg2 x4; have x5 := belowBy_cell hg2 x5; have x6 := belowBy_cell hg2 x6; have x7 := belowBy_cell hg2 x7
                    have y0 := belowBy_cell hg3 y0; have y1 := belowBy_cell hg3 y1; have y2 := belowBy_cell hg3 y2; have y3 := belowBy_cell hg3 y3
                    have y4 := belowBy_cell hg3 y4; have y5 := belowBy_cell hg3 y5; have y6 := belowBy_cell hg3 y6; have y7 := belowBy_cell hg3 y7
                    go_wp2
                    refine wp_region_below (by kernel_rfl) (by kernel_rfl) ?_
                    iterate 39 (first | go_big_quiet_step ((first | (go_at_call 17; with_reducible exact calls_below (CB.out _)) | (go_at_call 18; with_reducible exact calls_below (HN.out _)))) | quiet_step ((first | (go_at_call 17; with_reducible exact calls_below (CB.out _)) | (go_at_call 18; with_reducible exact calls_below (HN.out _)))))
                    refine wpQuiet_nil ?_
                    rintro w2 ⟨⟨_, hq⟩, rfl⟩
                    clear p0 x0 x1 x2 x3 x4 x5 x6 x7 y0 y1 y2 y3 y4 y5 y6 y7 RH CB HN
                    go_wp2
                    go_roundw
                    case rel => exact ⟨k + 1, by omega, by go_num, bnext BR.out hq⟩
                    case measure => first | (simp [intOf]; done) | (simp [intOf]; omega)
                  · obtain rfl : k = L.length := by omega
                    go_wp2
                    go_ret
                    exact ⟨rfl, bnext Bc.out BR.out⟩

      · have i1 : ¬ ((i : Int) < 0) := by omega
        have i2 : ¬ ((c : Int) < 1) := by omega
        have i3 : ¬ ((xs.length : Int) < (i : Int) + (c : Int)) := by omega
        have RP := fun W => run_seg A5 xs.length c5 i c (by omega) W
        have TS := Lib.hid (show ∀ W, SliceOf W (.slice A5 xs.length c5) xs → Calls Try.prog 14 #[.slice (subA A5 i c5) c (c5 - i)] W fun e w' => e = .returned (.tuple #[.agg #[.int .i64 (sumW (segB xs i c)), .int .i64 (tH (segB xs i c)), .int .i64 (sumE (segB xs i c))], .int .i64 0]) ∧ Below W.heap.size W w' from fun W h => by
          have h2 := totals_any _ (segB xs i c) (fun b hb => WFX.out b (seg_mem hb)) W (seg_slice h hic hxc) (by rw [seg_len hic]; unfold maxLen; omega)
          obtain ⟨t1, t2, t3⟩ := tot_seg (seg_ok OKX.out hic)
          rwa [t1, t2, t3] at h2)
        have hsw2 : ¬ (wide < sumW (segB xs i c)) := by omega
        generalize sumW (segB xs i c) = SW at TS hsw hsw2
        generalize sumE (segB xs i c) = SE at TS HM
        generalize tH (segB xs i c) = TH at TS
        generalize subA A5 i c5 = A6 at RP TS
        generalize c5 - i = c6 at RP TS
        have i4 : IntKind.i64.wrap ((i : Int) + (c : Int)) = (i : Int) + (c : Int) := IntWalk.i64_in _ (by omega)
        clear HC
        go_wp2_with fail
        refine (TS.out _ S13.out).mono ?_
        rintro e w14 ⟨rfl, h14⟩
        have S14 := Lib.hid (S13.out.below h14)
        have B14 := Lib.hid (bnext B13.out h14)
        have ba := (Below.refl w14.heap.size w14).alloc (Nat.le_refl _) (.cells #[.int .i64 SW, .int .i64 TH, .int .i64 SE] 36)
        have T14 := heap_alloc_new w14 (.cells #[.int .i64 SW, .int .i64 TH, .int .i64 SE] 36)
        have S13 := Lib.hid (S14.out.below ba)
        have B13 := Lib.hid (bnext B14.out ba)
        clear h14 ba RP TS S14 B14
        go_upto_region 29 with (fail)
        generalize World.alloc w14 _ = W15 at T14 S13 B13 ⊢
        have t0 := cell_of_row W15 _ 0 _ _ _ T14
        have t1 := cell_of_row W15 _ 1 _ _ _ T14
        have t2 := cell_of_row W15 _ 2 _ _ _ T14
        simp only [List.getElem?_toArray, List.getElem?_cons_zero, List.getElem?_cons_succ] at t0 t1 t2
        clear T14
        go_upto_region 31 with (fail)
        go_wp2_with fail
        go_loopw [33] (fun i_ wr => ∃ k : Nat, k ≤ xs.length ∧ i_ = .int .i64 (k : Int) ∧ Below w.heap.size w wr ∧ SliceOf wr (.slice A5 xs.length c5) xs) (fun i_ _ => xs.length - (intOf i_).toNat)
        case atStart => exact ⟨0, Nat.zero_le _, rfl, B13.out, S13.out⟩
        case round =>
          obtain ⟨k, hk, rfl, hb, hs⟩ := hrel
          have BR := Lib.hid hb
          have SR := Lib.hid hs
          clear S13 B13 hb hs
          by_cases hlt : k < xs.length
          · obtain ⟨g, o, e5, hg, hat⟩ := slice_at SR.out (by omega)
            subst e5
            obtain ⟨x0, x1, x2, x3, x4, x5, x6, x7⟩ := booksAt_some hat hlt
            obtain ⟨⟨n1, n2⟩, n3, n4⟩ := HBB.out k hlt
            have m1 := HM.out k hlt
            clear hat
            generalize xs[k] = x at x0 x1 x2 x3 x4 x5 x6 x7 n1 n2 n3 n4 m1
            by_cases hwx : x.wi ≤ wide
            · obtain ⟨m2, m3⟩ := m1 hwx
              first
              | (exfalso; omega)
              | (have m4 : ¬ (SE < x.we) := by omega
                 clear m1 m2 m3
                 go_wp2
                 go_roundw
                 case rel => exact ⟨k + 1, by omega, by go_num, BR.out, SR.out⟩
                 case measure => first | (simp [intOf]; done) | (simp [intOf]; omega))
            · clear m1
              go_wp2
              go_roundw
              case rel => exact ⟨k + 1, by omega, by go_num, BR.out, SR.out⟩
              case measure => first | (simp [intOf]; done) | (simp [intOf]; omega)
          · obtain rfl : k = xs.length := by omega
            obtain ⟨wy, rfl⟩ : ∃ x, x = wr := ⟨_, rfl⟩
            have BA := Lib.hid (show Below wy.heap.size wy (wy.alloc (.cells #[] 42)) from (Below.refl wy.heap.size wy).alloc (Nat.le_refl _) (.cells #[] 42))
            have OA := Lib.hid (show (wy.alloc (.cells #[] 42)).ownsRow wy.heap.size 42 8 (.slice (some ⟨wy.heap.size, 0, none⟩) 0 0) ([] : List Bk).length (flB []) from ⟨rfl, .inr ⟨wy.heap.size, 0, #[], rfl, Nat.le_refl _, heap_alloc_new wy _, Nat.le_refl _, Nat.zero_le _, rfl, rfl⟩⟩)
            go_upto_region 37 with (fail)
            generalize World.alloc wy _ = W16 at BA OA ⊢
            go_wp2_with fail
            go_loopw [34, 35] (fun v_ i_ wr => ∃ (v : Value) (L : List Bk) (k : Nat) (z : Int), v = v_ ∧ k ≤ xs.length ∧ (z + 1 = (k : Int) ∨ (k = 0 ∧ z = -2)) ∧ i_ = .int .i64 z ∧ L ++ wantL xs k = wantL xs xs.length ∧ wr.ownsRow wy.heap.size 42 8 v L.length (flB L) ∧ Below wy.heap.size wy wr) (fun _ i_ _ => (intOf i_ + 2).toNat)
            case atStart => exact ⟨_, [], xs.length, _, rfl, Nat.le_refl _, .inl (by omega), rfl, rfl, OA.out, BA.out⟩
            case round =>
              obtain ⟨v, L, k, z, rfl, hk, hz, rfl, hL, hown, hb⟩ := hrel
              have OW := Lib.hid hown
              have SX := Lib.hid (SR.out.below hb)
              have BX := Lib.hid hb
              have HLW := Lib.hid hL
              have hLl : L.length ≤ 11 := by
                have h1 := congrArg List.length hL
                rw [List.length_append] at h1
                have h2 := want_len xs xs.length
                omega
              clear hown hb hL OA BA
              have hsz := BX.out.size
              by_cases hk0 : 0 < k
              · obtain ⟨m, rfl⟩ : ∃ m, k = m + 1 := ⟨k - 1, by omega⟩
                obtain rfl : z = (m : Int) := by omega
                have hz0 : (0 : Int) ≤ (m : Int) := by omega
                have hm1 : (m : Int) < (xs.length : Int) := by omega
                obtain ⟨g, o, e5, hg, hat⟩ := slice_at SX.out (by omega)
                subst e5
                obtain ⟨x0, x1, x2, x3, x4, x5, x6, x7⟩ := booksAt_some hat (show m < xs.length by omega)
                have WS := Lib.hid (show (L ++ [xs[m]]) ++ wantL xs (m - 1) = wantL xs xs.length by
                  rw [← HLW.out, want_step, show xs.getD m default = xs[m] by simp [List.getD, List.getElem?_eq_getElem (show m < xs.length by omega)]]
                  simp)
                clear hat HLW
                generalize xs[m] = b at x0 x1 x2 x3 x4 x5 x6 x7 WS
                obtain ⟨A2, c2, rfl⟩ := vlen_own8 OW.out
                obtain ⟨i0, hi0, hz0', hz1, hz2⟩ := info_parts infoBook
                go_wp2_with (at_builtin; refine wpList_append_own _ rfl (.tmp 271) (.tmp 276) _ rfl wy.heap.size 42 i0 (.agg #[.int .i16 0, .int .u8 0, .int .u8 0, .int .u8 0, .int .i16 0, .int .i16 0, .int .i16 0, .int .i16 0]) 8 14 Try.underlying32 hi0 hz0' hz1 hz2 rfl (by decide) _ _ _ rfl (OW.out.alloc _) ⟨wr.heap.size, 0, none⟩ 1 1 [.int .i16 b.c, .int .u8 b.m0, .int .u8 b.m1, .int .u8 b.m2, .int .i16 b.v, .int .i16 b.wi, .int .i16 b.hi, .int .i16 b.we] rfl rfl (cell8_new _ _ _ _ _ _ _ _ _ _) (one8 b) (by unfold maxLen; omega) (by omega) (by simp; omega) ?_)
                intro v' w4 hown' hgrow' _
                have ha : Below wr.heap.size wr (wr.alloc (.cells #[.int .i16 b.c, .int .u8 b.m0, .int .u8 b.m1, .int .u8 b.m2, .int .i16 b.v, .int .i16 b.wi, .int .i16 b.hi, .int .i16 b.we] 42)) := (Below.refl _ _).alloc (Nat.le_refl _) _
                have B4 := Lib.hid ((bnext BX.out ha).grown hgrow' (bnext BX.out ha).size (fun q hq => (OW.out.lt q hq).1))
                rw [← flB_snoc] at hown'
                have O4 := Lib.hid hown'
                obtain ⟨A3, c3, rfl⟩ := vlen_own8 hown'
                clear hown' hgrow' ha OW
                go_wp2
                go_roundw
                case rel => exact ⟨_, L ++ [b], m - 1, (m : Int) - 2, rfl, by omega, by omega, by first | rfl | (congr 1; omega), WS.out, by rw [List.length_append]; exact O4.out, B4.out⟩
                case measure => first | (simp [intOf]; done) | (simp [intOf]; omega)
              · obtain rfl : k = 0 := by omega
                have hz' : ¬ ((0 : Int) ≤ z) := by omega
                obtain rfl : L = wantL xs xs.length := by rw [← HLW.out]; simp [wantL]
                have WL2 := Lib.hid (want_len xs xs.length)
                have WO := Lib.hid (want_ok xs (tl := ttl))
                have WM := Lib.hid (fun b (h : b ∈ wantL xs xs.length) => want_mem (Nat.le_refl _) h)
                generalize wantL xs xs.length = L at OW WL2 WO WM hLl
                obtain ⟨A2, c2, rfl⟩ := vlen_own8 OW.out
                have RB := Lib.hid (ResB.ofL OW.out rfl)
                have BZ := Lib.hid (bnext BR.out BX.out)
                clear OW BR BX SR HLW
                have WFL := Lib.hid (fun b (h : b ∈ L) => WFX.out b (WM.out b h))
                have okL : okB L = true := by rw [okB_all (fun i hi => HOK.out _ (WM.out _ (List.getElem_mem hi)))]; exact decide_eq_true (by omega)
                obtain ⟨w1, w2⟩ := wt_good OKX.out okL WO.out
                rw [show (tkTo ttl xs L L.length).map (fun (n : Nat) => (n : Int)) = tkI xs L L.length from rfl] at w2
                have IW := Lib.hid (fun W v0 v1 h1 h2 => walkTo_any v0 v1 xs L WFX.out WFL.out W h1 h2 hmx (by unfold maxLen; omega))
                have SW2 := Lib.hid (fun W v0 v1 h1 h2 => specWalkTo_any v0 v1 xs L WFX.out WFL.out W h1 h2 hmx (by unfold maxLen; omega))
                rw [w1, w2] at IW SW2
                have QT := Lib.hid (qs_tell WFX.out WFL.out WO.out)
                have QL := Lib.hid (tkI_len xs L L.length)
                clear w1 w2 okL WO
                generalize tkI xs L L.length = qs at IW SW2 QT QL
                rw [QL.out] at IW SW2
                have SM := Lib.hid (fun W v1 v2 h1 h2 => sameNumbers_any v1 v2 qs W h1 h2 (by rw [QL.out]; omega))
                go_wp2_with fail
                refine (IW.out _ _ _ SX.out RB.out.slice).mono ?_
                rintro e wa ⟨u1, rfl, ho, hb⟩
                rw [← QL.out] at ho
                have Ua := Lib.hid (ownInts ho)
                obtain ⟨Aa, ka, ea⟩ : ∃ A k, u1 = .slice A L.length k := by
                  obtain ⟨A, k, e, _⟩ := Ua.out
                  exact ⟨A, k, by rw [e, QL.out]⟩
                subst ea
                have Sa := Lib.hid (SX.out.below hb)
                have Ra := Lib.hid (RB.out.slice.below hb)
                have Ba := Lib.hid (bnext BZ.out hb)
                clear ho hb IW SX RB BZ
                go_wp2_with fail
                refine (SW2.out _ _ _ Sa.out Ra.out).mono ?_
                rintro e wb ⟨u2, rfl, ho, hb⟩
                rw [← QL.out] at ho
                have Vb := Lib.hid (ownInts ho)
                have CK := fun A m k => own_cap (A := A) (m := m) (k := k) ho
                obtain ⟨Ab, kb, eb⟩ : ∃ A k, u2 = .slice A L.length k := by
                  obtain ⟨A, k, e, _⟩ := Vb.out
                  exact ⟨A, k, by rw [e, QL.out]⟩
                have hkb := CK _ _ _ eb
                clear CK
                subst eb
                have Ub := Lib.hid (Ua.out.below hb)
                have Sb := Lib.hid (Sa.out.below hb)
                have Rb := Lib.hid (Ra.out.below hb)
                have Bb := Lib.hid (bnext Ba.out hb)
                clear ho hb SW2 Sa Ra Ba Ua
                go_wp2_with fail
                refine (SM.out _ _ _ Ub.out Vb.out).mono ?_
                rintro e wc ⟨rfl, hb⟩
                have Vc := Lib.hid (Vb.out.below hb)
                have Sc := Lib.hid (Sb.out.below hb)
                have Rc := Lib.hid (Rb.out.below hb)
                have Bc := Lib.hid (bnext Bb.out hb)
                clear hb Ub Vb Sb Rb Bb SM
                go_wp2_with fail
                go_loopw [40] (fun i_ wr => ∃ k : Nat, k ≤ L.length ∧ i_ = .int .i64 (k : Int) ∧ Below wc.heap.size wc wr) (fun i_ _ => L.length - (intOf i_).toNat)
                case atStart => exact ⟨0, Nat.zero_le _, rfl, Below.refl _ _⟩
                case round =>
                  obtain ⟨k, hk, rfl, hb⟩ := hrel
                  have BR := Lib.hid hb
                  by_cases hlt : k < L.length
                  · obtain ⟨a, ha, hj, e1, e2, e3⟩ := QT.out k hlt
                    obtain ⟨g1, o1, f1, hg1, hi1⟩ := ints_at2 (Vc.out.below hb) (by omega)
                    obtain ⟨g2, o2, f2, hg2, hat2⟩ := slice_at (Sc.out.below hb) (by omega)
                    obtain ⟨g3, o3, f3, hg3, hat3⟩ := slice_at (Rc.out.below hb) (by omega)
                    subst f1 f2 f3
                    have p0 := hi1 k hj
                    rw [e1] at p0
                    obtain ⟨x0, x1, x2, x3, x4, x5, x6, x7⟩ := booksAt_some hat2 ha
                    obtain ⟨y0, y1, y2, y3, y4, y5, y6, y7⟩ := booksAt_some hat3 hlt
                    have CB := Lib.hid (fun W => compareBooks_any xs[a] L[k] (WFX.out _ (List.getElem_mem ha)) (WFL.out _ (List.getElem_mem hlt)) W)
                    rw [e2] at CB
                    have HN := Lib.hid (fun (p : BelowBy wr) => hasNumber_any (.slice (some ⟨g1, o1, none⟩) k kb) (qs.take k) (a : Int) p.W (ints_take (c := kb) (Nat.lt_of_lt_of_le hg1 p.h.size) (hi1.belowP hg1 p) (by omega)) (by rw [List.length_take]; unfold maxLen; omega))
                    rw [e3] at HN
                    have RH := fun W => run_hiN (some ⟨g1, o1, none⟩) L.length kb k (by omega) W
                    have a0 : (0 : Int) ≤ (a : Int) := by omega
                    have a1' : (a : Int) < (xs.length : Int) := by omega
                    have a2' : ¬ ((xs.length : Int) ≤ (a : Int)) := by omega
                    have a3' : ¬ ((a : Int) < 0) := by omega
                    have k0' : (0 : Int) ≤ (k : Int) := by omega
                    have k1' : (k : Int) < (L.length : Int) := by omega
                    clear hat2 hat3 hi1 e1 e2 e3 hj hb
                    generalize xs[a] = xa at x0 x1 x2 x3 x4 x5 x6 x7 CB
                    generalize L[k] = lb at y0 y1 y2 y3 y4 y5 y6 y7 CB
                    have p0 := belowBy_cell hg1 p0
                    have x0 := belowBy_cell hg2 x0; have x1 := belowBy_cell hg2 x1; have x2 := belowBy_cell hg2 x2; have x3 := belowBy_cell hg2 x3
                    have x4 := belowBy_cell hg2 x4; have x5 := belowBy_cell hg2 x5; have x6 := belowBy_cell hg2 x6; have x7 := belowBy_cell hg2 x7
                    have y0 := belowBy_cell hg3 y0; have y1 := belowBy_cell hg3 y1; have y2 := belowBy_cell hg3 y2; have y3 := belowBy_cell hg3 y3
                    have y4 := belowBy_cell hg3 y4; have y5 := belowBy_cell hg3 y5; have y6 := belowBy_cell hg3 y6; have y7 := belowBy_cell hg3 y7
                    go_wp2
                    refine wp_region_below (by kernel_rfl) (by kernel_rfl) ?_
                    iterate 39 (first | go_big_quiet_step ((first | (go_at_call 17; with_reducible exact calls_below (CB.out _)) | (go_at_call 18; with_reducible exact calls_below (HN.out _)))) | quiet_step ((first | (go_at_call 17; with_reducible exact calls_below (CB.out _)) | (go_at_call 18; with_reducible exact calls_below (HN.out _)))))
                    refine wpQuiet_nil ?_
                    rintro w2 ⟨⟨_, hq⟩, rfl⟩
                    clear p0 x0 x1 x2 x3 x4 x5 x6 x7 y0 y1 y2 y3 y4 y5 y6 y7 RH CB HN
                    go_wp2
                    go_roundw
                    case rel => exact ⟨k + 1, by omega, by go_num, bnext BR.out hq⟩
                    case measure => first | (simp [intOf]; done) | (simp [intOf]; omega)
                  · obtain rfl : k = L.length := by omega
                    go_wp2
                    go_ret
                    exact ⟨rfl, bnext Bc.out BR.out⟩

theorem wFnWalks (v0 : Value) (zs0 : List Int) (b0 : ∀ z ∈ zs0, 0 ≤ z ∧ z ≤ 255) (v1 : Value) (zs1 : List Int) (b1 : ∀ z ∈ zs1, 0 ≤ z ∧ z ≤ 255) (w : World) (c0 : IntsOf .u8 w v0 zs0) (_ : zs0.length ≤ maxLen) (c1 : IntsOf .u8 w v1 zs1) (_ : zs1.length ≤ maxLen) :
    Calls Try.prog 3 #[v0, v1] w fun e w' => e = .returned (.bool true) ∧ Below w.heap.size w w' := walkFnWalks v0 v1 zs0 zs1 w c0 c1 b0 b1
end Go.Proofs.Ytecpddkbbfpeeaa
