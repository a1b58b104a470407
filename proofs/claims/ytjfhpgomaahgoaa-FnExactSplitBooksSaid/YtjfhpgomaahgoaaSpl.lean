/- The books that are at most so high, and the others, by the model and by the program: contracts. Condition: lists no longer than can be, whose numbers lie within their kinds. -/
import Derived.Test.YtjfhpgomaahgoaaResC
import Derived.Test.YtjfhpgomaahgoaaBooksOk
import Derived.Test.YtjfhpgomaahgoaaLevel
import Derived.Test.YtjfhpgomaahgoaaPegFor
namespace Go.Proofs.Ytjfhpgomaahgoaa
set_option linter.unusedSimpArgs false
set_option linter.unusedVariables false
set_option maxRecDepth 100000
open Go.RowKit Go.Sort

def flB (L : List Bk) : List Value := L.flatMap Bk.cells
theorem flB_snoc (L : List Bk) (b : Bk) : flB (L ++ [b]) = flB L ++ [.int .i16 b.c, .int .u8 b.m0, .int .u8 b.m1, .int .u8 b.m2, .int .i16 b.v, .int .i16 b.wi, .int .i16 b.hi, .int .i16 b.we] := by
  unfold flB
  rw [List.flatMap_append]
  simp [Bk.cells]
theorem flB_at : ∀ (L : List Bk) (i : Nat) (h : i < L.length) (j : Nat), j < 8 → (flB L)[i * 8 + j]? = (L[i].cells)[j]?
  | [], i, h, _, _ => absurd h (Nat.not_lt_zero _)
  | b :: t, 0, _, j, hj => by
    show (b.cells ++ flB t)[0 * 8 + j]? = _
    rw [Nat.zero_mul, Nat.zero_add, List.getElem?_append_left (by rw [cells_len]; exact hj)]
    rfl
  | b :: t, i + 1, h, j, hj => by
    show (b.cells ++ flB t)[(i + 1) * 8 + j]? = _
    rw [List.getElem?_append_right (by rw [cells_len]; omega), cells_len, show (i + 1) * 8 + j - 8 = i * 8 + j by omega]
    exact flB_at t i (by simpa using h) j hj
theorem ResB.ofL {w : World} {base n : Nat} {v : Value} {ys : List Bk} (h : w.ownsRow base 61 8 v n (flB ys)) (hn : n = ys.length) : ResB w base v ys := by
  rcases h.2 with ⟨rfl, h0⟩ | ⟨g, cap, cur, rfl, hb, hg, hc, _, hs, ht⟩
  · exact .inl ⟨rfl, List.eq_nil_of_length_eq_zero (by omega)⟩
  · subst hn
    refine .inr ⟨g, cap, rfl, hb, ⟨cur, hg, hs, fun i hi _ j v hv => ?_⟩, hc⟩
    have hj : j < 8 := by have := (List.getElem?_eq_some_iff.1 hv).1; rwa [cells_len] at this
    have e := flB_at ys i hi j hj
    rw [← ht, List.getElem?_take, if_pos (by omega), Array.getElem?_toList] at e
    rw [e]
    exact hv
theorem cell8_new (w : World) (a b c d e f g h : Value) (t : TypeId) : ∀ (j : Nat) (u : Value), [a, b, c, d, e, f, g, h][j]? = some u → (w.alloc (.cells #[a, b, c, d, e, f, g, h] t)).cell? (Addr.add ⟨w.heap.size, 0, none⟩ j) = some u := by
  intro j u hu
  rw [Addr.add_lit, Nat.zero_add, cell_of_row _ _ j _ _ _ (heap_alloc_new w _)]
  match j, hu with
  | 0, hu => simpa using hu
  | 1, hu => simpa using hu
  | 2, hu => simpa using hu
  | 3, hu => simpa using hu
  | 4, hu => simpa using hu
  | 5, hu => simpa using hu
  | 6, hu => simpa using hu
  | 7, hu => simpa using hu
theorem one8 (b : Bk) : ∀ u ∈ [Value.int .i16 b.c, .int .u8 b.m0, .int .u8 b.m1, .int .u8 b.m2, .int .i16 b.v, .int .i16 b.wi, .int .i16 b.hi, .int .i16 b.we], u.oneCell' = true := by
  intro u hu
  exact cells_one b u hu

def loF (xs : List Bk) (h : Int) (i : Nat) : List Bk := (xs.take i).filter (fun b => decide (b.hi ≤ h))
def otF (xs : List Bk) (h : Int) (i : Nat) : List Bk := (xs.take i).filter (fun b => decide (h < b.hi))
theorem loF_len (xs : List Bk) (h : Int) (i : Nat) : (loF xs h i).length ≤ i := Nat.le_trans (List.length_filter_le _ _) (by rw [List.length_take]; omega)
theorem otF_len (xs : List Bk) (h : Int) (i : Nat) : (otF xs h i).length ≤ i := Nat.le_trans (List.length_filter_le _ _) (by rw [List.length_take]; omega)
theorem loF_len2 (xs : List Bk) (h : Int) (i : Nat) : (loF xs h i).length ≤ xs.length := Nat.le_trans (List.length_filter_le _ _) (by rw [List.length_take]; omega)
theorem otF_len2 (xs : List Bk) (h : Int) (i : Nat) : (otF xs h i).length ≤ xs.length := Nat.le_trans (List.length_filter_le _ _) (by rw [List.length_take]; omega)
theorem split_yes {xs : List Bk} {h : Int} {i : Nat} (hi : i < xs.length) (hd : xs[i].hi ≤ h) : loF xs h (i + 1) = loF xs h i ++ [xs[i]] ∧ otF xs h (i + 1) = otF xs h i := by
  unfold loF otF
  rw [List.take_succ_eq_append_getElem hi, List.filter_append, List.filter_append, List.filter_cons, List.filter_cons, if_pos (by simpa using hd), if_neg (by simp; omega), List.filter_nil, List.filter_nil, List.append_nil]
  exact ⟨rfl, rfl⟩
theorem split_no {xs : List Bk} {h : Int} {i : Nat} (hi : i < xs.length) (hd : ¬ xs[i].hi ≤ h) : loF xs h (i + 1) = loF xs h i ∧ otF xs h (i + 1) = otF xs h i ++ [xs[i]] := by
  unfold loF otF
  rw [List.take_succ_eq_append_getElem hi, List.filter_append, List.filter_append, List.filter_cons, List.filter_cons, if_neg (by simpa using hd), if_pos (by simp; omega), List.filter_nil, List.filter_nil, List.append_nil]
  exact ⟨rfl, rfl⟩
def spG (xs : List Bk) (h : Int) : Bool := okB xs && inB h 0 1000
def spC (xs : List Bk) (h : Int) : Int := if okB xs then (if inB h 0 1000 then 0 else 2) else 1
def spA (xs : List Bk) (h : Int) : List Bk := if spG xs h then loF xs h xs.length else []
def spB (xs : List Bk) (h : Int) : List Bk := if spG xs h then otF xs h xs.length else []
theorem sp_cases (xs : List Bk) (h : Int) : (okB xs = false ∧ spA xs h = [] ∧ spB xs h = [] ∧ spC xs h = 1) ∨ (okB xs = true ∧ inB h 0 1000 = false ∧ spA xs h = [] ∧ spB xs h = [] ∧ spC xs h = 2) ∨ (okB xs = true ∧ inB h 0 1000 = true ∧ spA xs h = loF xs h xs.length ∧ spB xs h = otF xs h xs.length ∧ spC xs h = 0) := by
  unfold spA spB spC spG
  cases h1 : okB xs
  · exact .inl ⟨rfl, rfl, rfl, rfl⟩
  · cases h2 : inB h 0 1000
    · exact .inr (.inl ⟨rfl, rfl, rfl, rfl, rfl⟩)
    · exact .inr (.inr ⟨rfl, rfl, rfl, rfl, rfl⟩)
theorem spA_len (xs : List Bk) (h : Int) : (spA xs h).length ≤ xs.length := by unfold spA; split; exact loF_len2 _ _ _; exact Nat.zero_le _
theorem spB_len (xs : List Bk) (h : Int) : (spB xs h).length ≤ xs.length := by unfold spB; split; exact otF_len2 _ _ _; exact Nat.zero_le _

/-- Two values with blocks apart. -/
def Dj (a b : Value) : Prop := ∀ k, a.ownBlock = some k → b.ownBlock ≠ some k

set_option maxHeartbeats 8000000 in
theorem specSplit_any (v0 : Value) (xs : List Bk) (wf : ∀ b ∈ xs, b.Wf) (h : Int) (w : World) (hs : SliceOf w v0 xs) (hm : xs.length ≤ maxLen) :
    Calls Try.prog 27 #[v0, .int .i64 h] w fun e w' => ∃ u v, e = .returned (.tuple #[u, v, .int .i64 (spC xs h)]) ∧ ResB w' w.heap.size u (spA xs h) ∧ ResB w' w.heap.size v (spB xs h) ∧ Dj u v ∧ Below w.heap.size w w' := by
  have HS := Lib.hid hs
  have WF := Lib.hid wf
  obtain ⟨A0, k0, rfl, hat0⟩ := hs
  have HA := Lib.hid hat0
  clear wf hat0
  have two := Lib.hid (fun (W w1 : World) (g1 : Below W.heap.size W w1) => show ResB ((w1.alloc (.cells #[] 61)).alloc (.cells #[] 61)) W.heap.size (.slice (some ⟨w1.heap.size, 0, none⟩) 0 0) [] ∧ ResB ((w1.alloc (.cells #[] 61)).alloc (.cells #[] 61)) W.heap.size (.slice (some ⟨w1.heap.size + 1, 0, none⟩) 0 0) [] ∧ Dj (.slice (some ⟨w1.heap.size, 0, none⟩) 0 0) (.slice (some ⟨w1.heap.size + 1, 0, none⟩) 0 0) ∧ Below W.heap.size W ((w1.alloc (.cells #[] 61)).alloc (.cells #[] 61)) by
    have z := g1.size
    have a1 : ((w1.alloc (.cells #[] 61)).alloc (.cells #[] 61)).heap[w1.heap.size]? = some (.cells #[] 61 (0, 0)) := (Below.heap_alloc _ _ _ (by simp)).trans (heap_alloc_new w1 _)
    have a2 : ((w1.alloc (.cells #[] 61)).alloc (.cells #[] 61)).heap[w1.heap.size + 1]? = some (.cells #[] 61 (0, 0)) := by
      have := heap_alloc_new (w1.alloc (.cells #[] 61)) (.cells #[] 61)
      rwa [World.size_alloc] at this
    refine ⟨.inr ⟨_, 0, rfl, z, ⟨#[], a1, rfl, fun i hi => absurd hi (Nat.not_lt_zero _)⟩, Nat.le_refl _⟩, .inr ⟨_, 0, rfl, by omega, ⟨#[], a2, rfl, fun i hi => absurd hi (Nat.not_lt_zero _)⟩, Nat.le_refl _⟩, ?_, bnext g1 (by go_grown)⟩
    intro k hk e
    have e1 : w1.heap.size = k := by injection hk
    have e2 : w1.heap.size + 1 = k := by injection e
    omega)
  rcases sp_cases xs h with ⟨h1, h2, h3, h4⟩ | ⟨h1, h2, h3, h4, h5⟩ | ⟨h1, h2, h3, h4, h5⟩
  · have E1 := Lib.hid h2
    have E2 := Lib.hid h3
    have E3 := Lib.hid h4
    clear h2 h3 h4
    go_enter Try.func27, Try.ntmps27
    go_wp2_with fail
    refine (l01Ok_any _ xs WF.out _ HS.out hm).mono ?_
    rintro e w1 ⟨rfl, g1⟩
    rw [h1]
    have TW := Lib.hid (two.out _ _ g1)
    go_wp2
    go_ret3
    exact ⟨_, _, by rw [E3.out]; rfl, by rw [E1.out]; exact TW.out.1, by rw [E2.out]; exact TW.out.2.1, TW.out.2.2.1, TW.out.2.2.2⟩
  · have E1 := Lib.hid h3
    have E2 := Lib.hid h4
    have E3 := Lib.hid h5
    clear h3 h4 h5
    go_enter Try.func27, Try.ntmps27
    go_wp2_with fail
    refine (l01Ok_any _ xs WF.out _ HS.out hm).mono ?_
    rintro e w1 ⟨rfl, g1⟩
    rw [h1]
    go_wp2_with fail
    refine (l00In_any _ _ _ _).mono ?_
    rintro e w' ⟨rfl, rfl⟩
    rw [h2]
    have TW := Lib.hid (two.out _ _ g1)
    go_wp2
    go_ret3
    exact ⟨_, _, by rw [E3.out]; rfl, by rw [E1.out]; exact TW.out.1, by rw [E2.out]; exact TW.out.2.1, TW.out.2.2.1, TW.out.2.2.2⟩
  · have E1 := Lib.hid h3
    have E2 := Lib.hid h4
    have E3 := Lib.hid h5
    have hn60 : xs.length ≤ 60 := by unfold okB at h1; simp at h1; exact h1.2
    obtain ⟨i0, hi0, hz0, hz1, hz2⟩ := info_parts infoBook
    clear h3 h4 h5
    go_enter Try.func27, Try.ntmps27
    go_wp2_with fail
    refine (l01Ok_any _ xs WF.out _ HS.out hm).mono ?_
    rintro e w1 ⟨rfl, g1⟩
    rw [h1]
    go_wp2_with fail
    refine (l00In_any _ _ _ _).mono ?_
    rintro e w' ⟨rfl, rfl⟩
    rw [h2]
    have z1 := g1.size
    have a1 : ((w1.alloc (.cells #[] 61)).alloc (.cells #[] 61)).heap[w1.heap.size]? = some (.cells #[] 61 (0, 0)) := (Below.heap_alloc _ _ _ (by simp)).trans (heap_alloc_new w1 _)
    have a2 : ((w1.alloc (.cells #[] 61)).alloc (.cells #[] 61)).heap[w1.heap.size + 1]? = some (.cells #[] 61 (0, 0)) := by
      have := heap_alloc_new (w1.alloc (.cells #[] 61)) (.cells #[] 61)
      rwa [World.size_alloc] at this
    have TW := Lib.hid (two.out _ _ g1)
    have O1 := Lib.hid (show ((w1.alloc (.cells #[] 61)).alloc (.cells #[] 61)).ownsRow w.heap.size 61 8 (.slice (some ⟨w1.heap.size, 0, none⟩) 0 0) (loF xs h 0).length (flB (loF xs h 0)) from ⟨rfl, .inr ⟨w1.heap.size, 0, #[], rfl, z1, a1, Nat.le_refl _, Nat.zero_le _, rfl, rfl⟩⟩)
    have O2 := Lib.hid (show ((w1.alloc (.cells #[] 61)).alloc (.cells #[] 61)).ownsRow w.heap.size 61 8 (.slice (some ⟨w1.heap.size + 1, 0, none⟩) 0 0) (otF xs h 0).length (flB (otF xs h 0)) from ⟨rfl, .inr ⟨w1.heap.size + 1, 0, #[], rfl, by omega, a2, Nat.le_refl _, Nat.zero_le _, rfl, rfl⟩⟩)
    clear a1 a2 h1 h2
    go_wp2
    go_loopw [7, 8, 9] (fun a_ b_ i_ wr => ∃ (va vb : Value) (i : Nat), va = a_ ∧ vb = b_ ∧ i ≤ xs.length ∧ i_ = .int .i64 (i : Int) ∧ wr.ownsRow w.heap.size 61 8 va (loF xs h i).length (flB (loF xs h i)) ∧ wr.ownsRow w.heap.size 61 8 vb (otF xs h i).length (flB (otF xs h i)) ∧ Dj va vb ∧ Below w.heap.size w wr) (fun _ _ i_ _ => xs.length - (intOf i_).toNat)
    case atStart => exact ⟨_, _, 0, rfl, rfl, Nat.zero_le _, rfl, O1.out, O2.out, TW.out.2.2.1, TW.out.2.2.2⟩
    case round =>
      obtain ⟨va, vb, i, rfl, rfl, hi, rfl, ho1, ho2, hdj, hb⟩ := hrel
      have OA := Lib.hid ho1
      have OB := Lib.hid ho2
      have DJ := Lib.hid hdj
      have HB := Lib.hid hb
      have L1 := loF_len xs h i
      have L2 := otF_len xs h i
      have hsz := hb.size
      clear ho1 ho2 hdj hb
      by_cases hlt : i < xs.length
      · obtain ⟨ga, oa, rfl, hga, hat⟩ := HA.out (by omega)
        obtain ⟨p0, p1, p2, p3, p4, p5, p6, p7⟩ := booksAt_some (hat.below HB.out hga) hlt
        obtain ⟨_, _, _, _, _, _, ⟨wb1, wb2⟩, _⟩ := (WF.out _ (List.getElem_mem hlt))
        clear hat
        by_cases hd : xs[i].hi ≤ h
        · have hdd : decide (xs[i].hi ≤ h) = true := by simpa using hd
          have SY := Lib.hid (split_yes hlt hd)
          generalize xs[i] = b at *
          go_wp2_with (at_builtin; refine wpList_append_own_at _ rfl (.tmp 36) (.tmp 41) _ rfl w.heap.size 61 i0 (.agg #[.int .i16 0, .int .u8 0, .int .u8 0, .int .u8 0, .int .i16 0, .int .i16 0, .int .i16 0, .int .i16 0]) 8 14 Try.underlying41 hi0 hz0 hz1 hz2 rfl (by decide) _ _ _ rfl (OA.out.alloc _) ⟨wr.heap.size, 0, none⟩ 1 1 [.int .i16 b.c, .int .u8 b.m0, .int .u8 b.m1, .int .u8 b.m2, .int .i16 b.v, .int .i16 b.wi, .int .i16 b.hi, .int .i16 b.we] rfl rfl (cell8_new _ _ _ _ _ _ _ _ _ _) (one8 b) (by unfold maxLen; omega) (by omega) (by simp; omega) ?_)
          intro v' w4 hown' hgrow' _ hblk
          have ha : Below wr.heap.size wr (wr.alloc (.cells #[.int .i16 b.c, .int .u8 b.m0, .int .u8 b.m1, .int .u8 b.m2, .int .i16 b.v, .int .i16 b.wi, .int .i16 b.hi, .int .i16 b.we] 61)) := (Below.refl _ _).alloc (Nat.le_refl _) _
          have OA2 := Lib.hid (show w4.ownsRow w.heap.size 61 8 v' (loF xs h (i + 1)).length (flB (loF xs h (i + 1))) by rw [SY.out.1, flB_snoc, List.length_append]; exact hown')
          have OB2 := Lib.hid (show w4.ownsRow w.heap.size 61 8 vb (otF xs h (i + 1)).length (flB (otF xs h (i + 1))) by rw [SY.out.2]; exact ownOther (ownBelow OB.out ha) hgrow' (fun k hk e => DJ.out k e.symm hk))
          have DJ2 := Lib.hid (show Dj v' vb by
            intro k hk e
            rcases hblk with hb2 | hb2
            · exact DJ.out k (hb2.symm.trans hk) e
            · have := (OB.out.lt k e).2
              rw [hb2] at hk
              have : wr.heap.size + 1 = k := by injection hk
              omega)
          have HB2 := Lib.hid ((bnext HB.out ha).grown hgrow' (bnext HB.out ha).size (fun k hk => (OA.out.lt k hk).1))
          clear hown' hgrow' hblk ha
          go_wp2
          go_roundw
          case rel => exact ⟨_, _, i + 1, rfl, rfl, by omega, by go_num, OA2.out, OB2.out, DJ2.out, HB2.out⟩
          case measure => simp [intOf]; omega
        · have hdd : decide (xs[i].hi ≤ h) = false := by simpa using hd
          have SY := Lib.hid (split_no hlt hd)
          generalize xs[i] = b at *
          go_wp2_with (at_builtin; refine wpList_append_own_at _ rfl (.tmp 43) (.tmp 48) _ rfl w.heap.size 61 i0 (.agg #[.int .i16 0, .int .u8 0, .int .u8 0, .int .u8 0, .int .i16 0, .int .i16 0, .int .i16 0, .int .i16 0]) 8 14 Try.underlying41 hi0 hz0 hz1 hz2 rfl (by decide) _ _ _ rfl (OB.out.alloc _) ⟨wr.heap.size, 0, none⟩ 1 1 [.int .i16 b.c, .int .u8 b.m0, .int .u8 b.m1, .int .u8 b.m2, .int .i16 b.v, .int .i16 b.wi, .int .i16 b.hi, .int .i16 b.we] rfl rfl (cell8_new _ _ _ _ _ _ _ _ _ _) (one8 b) (by unfold maxLen; omega) (by omega) (by simp; omega) ?_)
          intro v' w4 hown' hgrow' _ hblk
          have ha : Below wr.heap.size wr (wr.alloc (.cells #[.int .i16 b.c, .int .u8 b.m0, .int .u8 b.m1, .int .u8 b.m2, .int .i16 b.v, .int .i16 b.wi, .int .i16 b.hi, .int .i16 b.we] 61)) := (Below.refl _ _).alloc (Nat.le_refl _) _
          have OA2 := Lib.hid (show w4.ownsRow w.heap.size 61 8 va (loF xs h (i + 1)).length (flB (loF xs h (i + 1))) by rw [SY.out.1]; exact ownOther (ownBelow OA.out ha) hgrow' (fun k hk e => DJ.out k hk e.symm))
          have OB2 := Lib.hid (show w4.ownsRow w.heap.size 61 8 v' (otF xs h (i + 1)).length (flB (otF xs h (i + 1))) by rw [SY.out.2, flB_snoc, List.length_append]; exact hown')
          have DJ2 := Lib.hid (show Dj va v' by
            intro k hk e
            rcases hblk with hb2 | hb2
            · exact DJ.out k hk (hb2.symm.trans e)
            · have := (OA.out.lt k hk).2
              rw [hb2] at e
              have : wr.heap.size + 1 = k := by injection e
              omega)
          have HB2 := Lib.hid ((bnext HB.out ha).grown hgrow' (bnext HB.out ha).size (fun k hk => (OB.out.lt k hk).1))
          clear hown' hgrow' hblk ha
          go_wp2
          go_roundw
          case rel => exact ⟨_, _, i + 1, rfl, rfl, by omega, by go_num, OA2.out, OB2.out, DJ2.out, HB2.out⟩
          case measure => simp [intOf]; omega
      · obtain rfl : i = xs.length := by omega
        go_wp2
        go_ret3
        exact ⟨_, _, by rw [E3.out]; rfl, by rw [E1.out]; exact ResB.ofL OA.out rfl, by rw [E2.out]; exact ResB.ofL OB.out rfl, DJ.out, HB.out⟩

end Go.Proofs.Ytjfhpgomaahgoaa
