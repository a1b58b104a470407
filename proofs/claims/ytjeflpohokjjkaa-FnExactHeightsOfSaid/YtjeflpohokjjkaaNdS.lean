/- Heights that books need, by the model: contracts. Condition: at most 60 books. -/
import Derived.Test.YtjeflpohokjjkaaNdP
import Derived.Test.YtjeflpohokjjkaaPegV
import Derived.Test.YtjeflpohokjjkaaOwn
import Derived.Test.YtjeflpohokjjkaaNums
import Derived.Test.YtjeflpohokjjkaaUse
import Derived.Deep.CutBlock
import Derived.Deep.RegionHeld3
import Derived.IntWalk
namespace Go.Proofs.Ytjeflpohokjjkaa
set_option linter.unusedSimpArgs false
set_option linter.unusedVariables false
set_option maxRecDepth 100000
open Go.RowKit

theorem infoIntH : (Try.prog.info? 2).map (fun i => (i.zero, i.size, i.bytes)) = some (some (.int .i64 0), 1, 8) := by kernel_rfl
theorem cell1_new (w : World) (z : Int) (t : TypeId) : ∀ (j : Nat) (u : Value), [Value.int .i64 z][j]? = some u → (w.alloc (.cells #[.int .i64 z] t)).cell? (Addr.add ⟨w.heap.size, 0, none⟩ j) = some u := by
  intro j u hu
  match j, hu with
  | 0, hu => (simp at hu; subst hu; exact (cell_of_row _ _ 0 _ _ _ (heap_alloc_new w _)).trans rfl)
  | j + 1, hu => simp at hu
theorem putZ_ge {x n : Int} {t : List Int} (h : n ≤ x) (h2 : n < x) : putZ (x :: t) n = n :: x :: t := by rw [putZ, if_pos h, if_pos h2]
theorem putZ_eq {x n : Int} {t : List Int} (h : n ≤ x) (h2 : ¬ n < x) : putZ (x :: t) n = x :: t := by rw [putZ, if_pos h, if_neg h2]
theorem putZ_lt {x n : Int} {t : List Int} (h : ¬ n ≤ x) : putZ (x :: t) n = x :: putZ t n := by rw [putZ, if_neg h]
theorem ints_at3 {W : World} {A : Option Addr} {n c : Nat} {zs : List Int} (h : IntsOf .i64 W (.slice A n c) zs) (h0 : 0 < zs.length) : ∃ g o, A = some ⟨g, o, none⟩ ∧ g < W.heap.size ∧ IntsAt .i64 W g o zs := by
  obtain ⟨A', c', e, hat⟩ := h
  obtain ⟨g, o, e2, hg, ha⟩ := hat h0
  injection e with e1 _ _
  exact ⟨g, o, e1.trans e2, hg, ha⟩
def PutR (l : List Int) (n : Int) (k : Nat) (d : Bool) (L : List Int) : Prop := L.length ≤ k + 1 ∧ (d = false → L.length ≤ k ∧ L ++ putZ (l.drop k) n = putZ l n) ∧ (d = true → L ++ l.drop k = putZ l n)
set_option maxHeartbeats 4000000 in
theorem l00Put_any (v : Value) (l : List Int) (n : Int) (w : World) (hs : IntsOf .i64 w v l) (hl : l.length ≤ 60) :
    Calls Try.prog 30 #[v, .int .i64 n] w fun e w' => ∃ u, e = .returned u ∧ w'.ownsRow w.heap.size 2 1 u (putZ l n).length ((putZ l n).map (Value.int .i64)) ∧ Below w.heap.size w w' := by
  have HS := Lib.hid hs
  obtain ⟨A, c, rfl, -⟩ := hs
  obtain ⟨i0, hi0, hz0, hz1, hz2⟩ := info_parts infoIntH
  have O0 := Lib.hid (show (w.alloc (.cells #[] 2)).ownsRow w.heap.size 2 1 (.slice (some ⟨w.heap.size, 0, none⟩) 0 0) ([] : List Int).length (([] : List Int).map (Value.int .i64)) from ⟨rfl, .inr ⟨w.heap.size, 0, #[], rfl, Nat.le_refl _, heap_alloc_new w _, Nat.le_refl _, Nat.zero_le _, rfl, rfl⟩⟩)
  have B0 := Lib.hid ((Below.refl w.heap.size w).alloc (Nat.le_refl _) (.cells #[] 2))
  have P0 := Lib.hid (show PutR l n 0 false [] from ⟨by simp, fun _ => ⟨Nat.le_refl _, rfl⟩, fun h => by cases h⟩)
  go_enter Try.func30, Try.ntmps30
  go_wp2
  go_loopw [5, 6, 7] (fun v_ d_ i_ wr => ∃ (v : Value) (d : Bool) (k : Nat) (L : List Int), v = v_ ∧ d_ = .bool d ∧ i_ = .int .i64 (k : Int) ∧ k ≤ l.length ∧ PutR l n k d L ∧ wr.ownsRow w.heap.size 2 1 v L.length (L.map (Value.int .i64)) ∧ Below w.heap.size w wr) (fun _ _ i_ _ => l.length - (intOf i_).toNat)
  case atStart => exact ⟨_, false, 0, [], rfl, rfl, rfl, Nat.zero_le _, P0.out, O0.out, B0.out⟩
  case round =>
    clear O0 B0 P0
    obtain ⟨v, d, k, L, rfl, rfl, rfl, hk, hp, hown, hb⟩ := hrel
    have OW := Lib.hid hown
    have BR := Lib.hid hb
    have HP := Lib.hid hp
    have hLl : L.length ≤ 61 := by have := hp.1; omega
    have hsz := hb.size
    clear hown hp
    obtain ⟨A2, c2, rfl⟩ := vlen_own1 OW.out
    by_cases hlt : k < l.length
    · obtain ⟨g, o, e5, hg, hat⟩ := ints_at3 HS.out (by omega)
      subst e5
      have pw := hat k hlt
      have HD := Lib.hid (List.drop_eq_getElem_cons hlt)
      generalize hx : l[k] = x at pw HD
      have PW := Lib.hid pw
      have p0 := (hb.cell (p := ⟨g, o + k, none⟩) hg).trans pw
      clear hx hat hb pw
      cases d
      · have E1 := Lib.hid (HP.out.2.1 rfl).2
        have hl1 := (HP.out.2.1 rfl).1
        clear HP
        by_cases h1 : n ≤ x
        · by_cases h2 : n < x
          · have PN := Lib.hid (show PutR l n (k + 1) true (L ++ [n] ++ [x]) from ⟨by simp; omega, (fun h => by cases h), fun _ => by rw [← E1.out, HD.out, putZ_ge h1 h2]; simp⟩)
            go_wp2_with (at_builtin; refine wpList_append_own _ rfl (.tmp 31) (.tmp 33) _ rfl w.heap.size 2 i0 (.int .i64 0) 1 8 Try.underlying27 hi0 hz0 hz1 hz2 rfl (by decide) _ _ _ rfl (OW.out.alloc _) ⟨wr.heap.size, 0, none⟩ 1 1 [.int .i64 n] rfl rfl (cell1_new _ _ _) (by intro u hu; simp at hu; subst hu; rfl) (by unfold maxLen; omega) (by omega) (by simp; omega) ?_)
            intro v' w4 hown' hgrow' _
            have ha : Below wr.heap.size wr (wr.alloc (.cells #[.int .i64 n] 2)) := (Below.refl _ _).alloc (Nat.le_refl _) _
            have O4 := Lib.hid (show w4.ownsRow w.heap.size 2 1 v' (L.length + 1) ((L ++ [n]).map (Value.int .i64)) by rw [List.map_append]; exact hown')
            have B4 := Lib.hid ((bnext BR.out ha).grown hgrow' (bnext BR.out ha).size (fun q hq => (OW.out.lt q hq).1))
            obtain ⟨A3, c3, rfl⟩ := vlen_own1 hown'
            clear hown' hgrow' ha OW
            have z4 := B4.out.size
            have p4 := (B4.out.cell (p := ⟨g, o + k, none⟩) hg).trans PW.out
            clear p0
            generalize hM : L ++ [n] = M at O4
            have hMl : M.length = L.length + 1 := by rw [← hM]; simp
            rw [hM] at PN
            have HML := Lib.hid hMl
            clear hM hMl
            go_wp2_with (at_builtin; refine wpList_append_own _ rfl (.tmp 35) (.tmp 40) _ rfl w.heap.size 2 i0 (.int .i64 0) 1 8 Try.underlying27 hi0 hz0 hz1 hz2 rfl (by decide) _ _ _ rfl (O4.out.alloc _) ⟨w4.heap.size, 0, none⟩ 1 1 [.int .i64 x] rfl rfl (cell1_new _ _ _) (by intro u hu; simp at hu; subst hu; rfl) (by unfold maxLen; omega) (by omega) (by simp; omega) ?_)
            intro v' w5 hown' hgrow' _
            have ha : Below w4.heap.size w4 (w4.alloc (.cells #[.int .i64 x] 2)) := (Below.refl _ _).alloc (Nat.le_refl _) _
            have O5 := Lib.hid (show w5.ownsRow w.heap.size 2 1 v' ((L.length + 1) + 1) ((M ++ [x]).map (Value.int .i64)) by rw [List.map_append]; exact hown')
            have B5 := Lib.hid ((bnext B4.out ha).grown hgrow' (bnext B4.out ha).size (fun q hq => (O4.out.lt q hq).1))
            obtain ⟨A3, c3, rfl⟩ := vlen_own1 hown'
            clear hown' hgrow' ha O4
            go_wp2
            go_roundw
            case rel => exact ⟨_, true, k + 1, M ++ [x], rfl, rfl, by go_num, by omega, PN.out, by rw [show (M ++ [x]).length = L.length + 1 + 1 by rw [List.length_append, HML.out]; rfl]; exact O5.out, B5.out⟩
            case measure => first | (simp [intOf]; done) | (simp [intOf]; omega)
          · have PN := Lib.hid (show PutR l n (k + 1) true (L ++ [x]) from ⟨by simp; omega, (fun h => by cases h), fun _ => by rw [← E1.out, HD.out, putZ_eq h1 h2]; simp⟩)
            go_wp2_with (at_builtin; refine wpList_append_own _ rfl (.tmp 35) (.tmp 40) _ rfl w.heap.size 2 i0 (.int .i64 0) 1 8 Try.underlying27 hi0 hz0 hz1 hz2 rfl (by decide) _ _ _ rfl (OW.out.alloc _) ⟨wr.heap.size, 0, none⟩ 1 1 [.int .i64 x] rfl rfl (cell1_new _ _ _) (by intro u hu; simp at hu; subst hu; rfl) (by unfold maxLen; omega) (by omega) (by simp; omega) ?_)
            intro v' w4 hown' hgrow' _
            have ha : Below wr.heap.size wr (wr.alloc (.cells #[.int .i64 x] 2)) := (Below.refl _ _).alloc (Nat.le_refl _) _
            have O4 := Lib.hid (show w4.ownsRow w.heap.size 2 1 v' (L.length + 1) ((L ++ [x]).map (Value.int .i64)) by rw [List.map_append]; exact hown')
            have B4 := Lib.hid ((bnext BR.out ha).grown hgrow' (bnext BR.out ha).size (fun q hq => (OW.out.lt q hq).1))
            obtain ⟨A3, c3, rfl⟩ := vlen_own1 hown'
            clear hown' hgrow' ha OW
            go_wp2
            go_roundw
            case rel => exact ⟨_, true, k + 1, L ++ [x], rfl, rfl, by go_num, by omega, PN.out, by rw [show (L ++ [x]).length = L.length + 1 by simp]; exact O4.out, B4.out⟩
            case measure => first | (simp [intOf]; done) | (simp [intOf]; omega)
        · have PN := Lib.hid (show PutR l n (k + 1) false (L ++ [x]) from ⟨by simp; omega, fun _ => ⟨by simp; omega, by rw [← E1.out, HD.out, putZ_lt h1]; simp⟩, fun h => by cases h⟩)
          go_wp2_with (at_builtin; refine wpList_append_own _ rfl (.tmp 35) (.tmp 40) _ rfl w.heap.size 2 i0 (.int .i64 0) 1 8 Try.underlying27 hi0 hz0 hz1 hz2 rfl (by decide) _ _ _ rfl (OW.out.alloc _) ⟨wr.heap.size, 0, none⟩ 1 1 [.int .i64 x] rfl rfl (cell1_new _ _ _) (by intro u hu; simp at hu; subst hu; rfl) (by unfold maxLen; omega) (by omega) (by simp; omega) ?_)
          intro v' w4 hown' hgrow' _
          have ha : Below wr.heap.size wr (wr.alloc (.cells #[.int .i64 x] 2)) := (Below.refl _ _).alloc (Nat.le_refl _) _
          have O4 := Lib.hid (show w4.ownsRow w.heap.size 2 1 v' (L.length + 1) ((L ++ [x]).map (Value.int .i64)) by rw [List.map_append]; exact hown')
          have B4 := Lib.hid ((bnext BR.out ha).grown hgrow' (bnext BR.out ha).size (fun q hq => (OW.out.lt q hq).1))
          obtain ⟨A3, c3, rfl⟩ := vlen_own1 hown'
          clear hown' hgrow' ha OW
          go_wp2
          go_roundw
          case rel => exact ⟨_, false, k + 1, L ++ [x], rfl, rfl, by go_num, by omega, PN.out, by rw [show (L ++ [x]).length = L.length + 1 by simp]; exact O4.out, B4.out⟩
          case measure => first | (simp [intOf]; done) | (simp [intOf]; omega)
      · have PN := Lib.hid (show PutR l n (k + 1) true (L ++ [x]) from ⟨by have := HP.out.1; simp; omega, (fun h => by cases h), fun _ => by rw [← HP.out.2.2 rfl, HD.out]; simp⟩)
        go_wp2_with (at_builtin; refine wpList_append_own _ rfl (.tmp 35) (.tmp 40) _ rfl w.heap.size 2 i0 (.int .i64 0) 1 8 Try.underlying27 hi0 hz0 hz1 hz2 rfl (by decide) _ _ _ rfl (OW.out.alloc _) ⟨wr.heap.size, 0, none⟩ 1 1 [.int .i64 x] rfl rfl (cell1_new _ _ _) (by intro u hu; simp at hu; subst hu; rfl) (by unfold maxLen; omega) (by omega) (by simp; omega) ?_)
        intro v' w4 hown' hgrow' _
        have ha : Below wr.heap.size wr (wr.alloc (.cells #[.int .i64 x] 2)) := (Below.refl _ _).alloc (Nat.le_refl _) _
        have O4 := Lib.hid (show w4.ownsRow w.heap.size 2 1 v' (L.length + 1) ((L ++ [x]).map (Value.int .i64)) by rw [List.map_append]; exact hown')
        have B4 := Lib.hid ((bnext BR.out ha).grown hgrow' (bnext BR.out ha).size (fun q hq => (OW.out.lt q hq).1))
        obtain ⟨A3, c3, rfl⟩ := vlen_own1 hown'
        clear hown' hgrow' ha OW
        go_wp2
        go_roundw
        case rel => exact ⟨_, true, k + 1, L ++ [x], rfl, rfl, by go_num, by omega, PN.out, by rw [show (L ++ [x]).length = L.length + 1 by simp]; exact O4.out, B4.out⟩
        case measure => first | (simp [intOf]; done) | (simp [intOf]; omega)
    · obtain rfl : k = l.length := by omega
      clear hb
      cases d
      · have E1 := Lib.hid (show L ++ [n] = putZ l n by have h := (HP.out.2.1 rfl).2; rwa [List.drop_length, putZ] at h)
        clear HP
        go_wp2_with (at_builtin; refine wpList_append_own _ rfl (.tmp 44) (.tmp 46) _ rfl w.heap.size 2 i0 (.int .i64 0) 1 8 Try.underlying27 hi0 hz0 hz1 hz2 rfl (by decide) _ _ _ rfl (OW.out.alloc _) ⟨wr.heap.size, 0, none⟩ 1 1 [.int .i64 n] rfl rfl (cell1_new _ _ _) (by intro u hu; simp at hu; subst hu; rfl) (by unfold maxLen; omega) (by omega) (by simp; omega) ?_)
        intro v' w4 hown' hgrow' _
        have ha : Below wr.heap.size wr (wr.alloc (.cells #[.int .i64 n] 2)) := (Below.refl _ _).alloc (Nat.le_refl _) _
        have O4 := Lib.hid (show w4.ownsRow w.heap.size 2 1 v' (L.length + 1) ((L ++ [n]).map (Value.int .i64)) by rw [List.map_append]; exact hown')
        have B4 := Lib.hid ((bnext BR.out ha).grown hgrow' (bnext BR.out ha).size (fun q hq => (OW.out.lt q hq).1))
        obtain ⟨A3, c3, rfl⟩ := vlen_own1 hown'
        clear hown' hgrow' ha OW
        go_wp2
        go_ret
        exact ⟨_, rfl, by rw [← E1.out, show (L ++ [n]).length = L.length + 1 by simp]; exact O4.out, B4.out⟩
      · have E1 := Lib.hid (show L = putZ l n by have h := HP.out.2.2 rfl; rwa [List.drop_length, List.append_nil] at h)
        clear HP
        go_wp2
        go_ret
        exact ⟨_, rfl, by rw [← E1.out]; exact OW.out, BR.out⟩

/-- Block g is a box of pegs (here: of a parameter). -/
def PBS (W : World) (g : Nat) (p : Pg) : Prop := W.heap[g]? = some (.cells #[.int .i16 p.lo, .int .i16 p.st, .int .i16 p.bo] 30 (0, 0))
theorem PBS.lt {W : World} {g : Nat} {p : Pg} (h : PBS W g p) : g < W.heap.size := (Array.getElem?_eq_some_iff.1 h).1
theorem PBS.later {W W' : World} {g : Nat} {p : Pg} (h : PBS W g p) (hb : Below W.heap.size W W') : PBS W' g p := (hb.block g h.lt).trans h
theorem PBS.c0 {W : World} {g : Nat} {p : Pg} (h : PBS W g p) : W.cell? ⟨g, 0, none⟩ = some (.int .i16 p.lo) := cell_of_row W g 0 _ _ _ h
theorem PBS.c1 {W : World} {g : Nat} {p : Pg} (h : PBS W g p) : W.cell? ⟨g, 1, none⟩ = some (.int .i16 p.st) := cell_of_row W g 1 _ _ _ h
theorem PBS.c2 {W : World} {g : Nat} {p : Pg} (h : PBS W g p) : W.cell? ⟨g, 2, none⟩ = some (.int .i16 p.bo) := cell_of_row W g 2 _ _ _ h
set_option maxHeartbeats 4000000 in
theorem l04Heights_any (p : Pg) (hp : pegsB p = true) (v : Value) (xs : List Bk) (ok : ∀ b ∈ xs, bookB b = true) (h60 : xs.length ≤ 60) (w : World) (hs : SliceOf w v xs) :
    Calls Try.prog 18 #[.agg #[.int .i16 p.lo, .int .i16 p.st, .int .i16 p.bo], v] w fun e w' => ∃ u, e = .returned u ∧ w'.ownsRow w.heap.size 2 1 u (hsT p xs xs.length).length ((hsT p xs xs.length).map (Value.int .i64)) ∧ Below w.heap.size w w' := by
  obtain ⟨A, c, rfl, hat⟩ := hs
  have HS := Lib.hid hat
  have OK := Lib.hid ok
  have HP := Lib.hid hp
  obtain ⟨i0, hi0, hz0, hz1, hz2⟩ := info_parts infoIntH
  have ba := (Below.refl w.heap.size w).alloc (Nat.le_refl _) (.cells #[.int .i16 p.lo, .int .i16 p.st, .int .i16 p.bo] 30)
  have P0 := Lib.hid (show PBS (w.alloc (.cells #[.int .i16 p.lo, .int .i16 p.st, .int .i16 p.bo] 30)) w.heap.size p from heap_alloc_new w _)
  have BA := Lib.hid ba
  clear ba hat ok hp
  go_enter Try.func18, Try.ntmps18
  go_upto_region 1 with (fail)
  generalize World.alloc w _ = W0 at P0 BA ⊢
  have O0 := Lib.hid (show (W0.alloc (.cells #[] 2)).ownsRow w.heap.size 2 1 (.slice (some ⟨W0.heap.size, 0, none⟩) 0 0) ([] : List Int).length (([] : List Int).map (Value.int .i64)) from ⟨rfl, .inr ⟨W0.heap.size, 0, #[], rfl, BA.out.size, heap_alloc_new W0 _, Nat.le_refl _, Nat.zero_le _, rfl, rfl⟩⟩)
  have B1 := Lib.hid (BA.out.alloc BA.out.size (.cells #[] 2))
  have P1 := Lib.hid (P0.out.later ((Below.refl W0.heap.size W0).alloc (Nat.le_refl _) (.cells #[] 2)))
  go_upto_region 2 with (fail)
  generalize World.alloc W0 _ = W1 at O0 B1 P1 ⊢
  clear P0 BA
  go_wp2_with fail
  go_loopw [5, 6] (fun v_ i_ wr => ∃ (v : Value) (k : Nat), v = v_ ∧ k ≤ xs.length ∧ i_ = .int .i64 (k : Int) ∧ wr.ownsRow w.heap.size 2 1 v (hsT p xs k).length ((hsT p xs k).map (Value.int .i64)) ∧ PBS wr w.heap.size p ∧ Below w.heap.size w wr) (fun _ i_ _ => xs.length - (intOf i_).toNat)
  case atStart => exact ⟨_, 0, rfl, Nat.zero_le _, rfl, O0.out, P1.out, B1.out⟩
  case round =>
    clear O0 B1 P1
    obtain ⟨v, k, rfl, hk, rfl, hown, hpb, hb⟩ := hrel
    have OW := Lib.hid hown
    have PR := Lib.hid hpb
    have BR := Lib.hid hb
    have hsz := hb.size
    clear hown hpb
    obtain ⟨A2, c2, rfl⟩ := vlen_own1 OW.out
    by_cases hlt : k < xs.length
    · obtain ⟨g, o, rfl, hg, hat⟩ := HS.out (by omega)
      obtain ⟨x0, x1, x2, x3, x4, x5, x6, x7⟩ := booksAt_some (hat.below hb hg) hlt
      have hbk := OK.out _ (List.getElem_mem hlt)
      obtain ⟨⟨n1, n2⟩, -⟩ := bookB_hi hbk
      have HT := Lib.hid (show hsT p xs (k + 1) = putZ (hsT p xs k) (pegV p xs[k].hi) by rw [hsT, show xs.getD k default = xs[k] by simp [List.getD, List.getElem?_eq_getElem hlt]]; rfl)
      have hlen := hsT_len p xs k
      generalize hsT p xs k = L at OW HT hlen
      generalize xs[k].hi = h at x6 n1 n2 HT
      have IO := Lib.hid (ownInts OW.out)
      have LP := Lib.hid (fun W => l04Peg_any p h W HP.out (by omega) (by omega))
      have q0 := PR.out.c0
      have q1 := PR.out.c1
      have q2 := PR.out.c2
      have zg := PR.out.lt
      have zg2 := Nat.lt_of_lt_of_le hg hsz
      have hw : wrap64 h = h := by unfold wrap64; omega
      have hw2 : IntKind.i64.wrap h = h := IntWalk.i64_in _ (by omega)
      have b0 : Below wr.heap.size wr wr.drew := (Below.refl _ _).drew
      have HK := Lib.hid (show ∀ X : World, Below wr.heap.size wr X → (Below wr.heap.size wr X ∧ X.cell? ⟨w.heap.size, 0, none⟩ = some (.int .i16 p.lo) ∧ X.cell? ⟨w.heap.size, 1, none⟩ = some (.int .i16 p.st) ∧ X.cell? ⟨w.heap.size, 2, none⟩ = some (.int .i16 p.bo) ∧ X.cell? ⟨g, o + k * 8 + 6, none⟩ = some (.int .i16 h)) from fun X hX => ⟨hX, (hX.cell (p := ⟨w.heap.size, 0, none⟩) zg).trans q0, (hX.cell (p := ⟨w.heap.size, 1, none⟩) zg).trans q1, (hX.cell (p := ⟨w.heap.size, 2, none⟩) zg).trans q2, (hX.cell (p := ⟨g, o + k * 8 + 6, none⟩) zg2).trans x6⟩)
      clear hat hbk x0 x1 x2 x3 x4 x5 x7
      go_wp2
      go_region_held3 (fun (X : World) => Below wr.heap.size wr X ∧ X.cell? ⟨w.heap.size, 0, none⟩ = some (.int .i16 p.lo) ∧ X.cell? ⟨w.heap.size, 1, none⟩ = some (.int .i16 p.st) ∧ X.cell? ⟨w.heap.size, 2, none⟩ = some (.int .i16 p.bo) ∧ X.cell? ⟨g, o + k * 8 + 6, none⟩ = some (.int .i16 h)) (first | assumption | exact HK.out _ b0 | exact HK.out _ B5.out | exact HK.out _ B4.out) (first
        | (go_at_call 31; refine (LP.out _).mono ?_; rintro e w4 ⟨rfl, hq⟩; have B4 := Lib.hid (bnext (show Below wr.heap.size wr _ from And.left (by assumption)) hq); clear hq)
        | (go_at_call 30; refine (l00Put_any _ L _ _ (IO.out.below B4.out) (by omega)).mono ?_; rintro e w5 ⟨u5, rfl, ho5, hq⟩; have B5 := Lib.hid (bnext B4.out hq); have O5 := Lib.hid ((ownsMono ho5 B4.out.size)); clear ho5 hq))
      rename_i hHeld
      clear hHeld
      obtain ⟨A5, c5, rfl⟩ := vlen_own1 O5.out
      clear q0 q1 q2 x6
      go_wp2
      go_roundw
      case rel => exact ⟨_, k + 1, rfl, by omega, by go_num, by rw [HT.out]; exact ownsMono O5.out hsz, PR.out.later B5.out, bnext BR.out B5.out⟩
      case measure => first | (simp [intOf]; done) | (simp [intOf]; omega)
    · obtain rfl : k = xs.length := by omega
      go_wp2
      go_ret
      exact ⟨_, rfl, OW.out, BR.out⟩
theorem hsT_low {p : Pg} {xs : List Bk} (hp : pegsB p = true) (ok : ∀ b ∈ xs, bookB b = true) : ∀ k, k ≤ xs.length → ∀ y ∈ hsT p xs k, 50 ≤ y ∧ y ≤ 600 := by
  intro k hk y hy
  obtain ⟨j, h1, h2⟩ := hsT_mem.1 hy
  have h3 := phB_bd hp (ok _ (List.getElem_mem (show j < xs.length by omega)))
  rw [show xs.getD j default = xs[j] by simp [List.getD, List.getElem?_eq_getElem (show j < xs.length by omega)]] at h2
  omega
def hbC (p : Pg) (xs : List Bk) : Int := if pegsB p then (if okB xs then 0 else 1) else 1
theorem hb_cases (p : Pg) (xs : List Bk) : (pegsB p = false ∧ hoC p xs = 1 ∧ hoL p xs = []) ∨ (pegsB p = true ∧ okB xs = false ∧ hoC p xs = 1 ∧ hoL p xs = []) ∨ (pegsB p = true ∧ okB xs = true ∧ hoC p xs = 0 ∧ hoL p xs = hsT p xs xs.length) := by
  unfold hoC hoL
  cases h1 : pegsB p
  · exact .inl ⟨rfl, rfl, rfl⟩
  · cases h2 : okB xs
    · exact .inr (.inl ⟨rfl, rfl, rfl, rfl⟩)
    · exact .inr (.inr ⟨rfl, rfl, rfl, rfl⟩)
set_option maxHeartbeats 2000000 in
theorem l04Books_any (p : Pg) (wfp : p.Wf) (v : Value) (xs : List Bk) (wf : ∀ b ∈ xs, b.Wf) (w : World) (hs : SliceOf w v xs) (hm : xs.length ≤ maxLen) :
    Calls Try.prog 17 #[.agg #[.int .i16 p.lo, .int .i16 p.st, .int .i16 p.bo], v] w fun e w' => e = .returned (.int .i64 (hoC p xs)) ∧ Below w.heap.size w w' := by
  have HS := Lib.hid hs
  have LP := Lib.hid (fun W => l04Pegs_any p wfp W)
  have LO := Lib.hid (fun W (h : SliceOf W v xs) => l01Ok_any v xs wf W h hm)
  have BA := Lib.hid ((Below.refl w.heap.size w).alloc (Nat.le_refl _) (.cells #[.int .i16 p.lo, .int .i16 p.st, .int .i16 p.bo] 30))
  have P0 := Lib.hid (show PBS (w.alloc (.cells #[.int .i16 p.lo, .int .i16 p.st, .int .i16 p.bo] 30)) w.heap.size p from heap_alloc_new w _)
  obtain ⟨A, c, rfl, -⟩ := hs
  clear wfp wf
  rcases hb_cases p xs with ⟨h1, h2, -⟩ | ⟨h1, h3, h2, -⟩ | ⟨h1, h3, h2, -⟩
  all_goals
    rw [h1] at LP
    (try rw [h3] at LO)
    rw [h2]
    clear h1 h2
    (try clear h3)
    go_enter Try.func17, Try.ntmps17
    go_upto_region 1 with (fail)
    generalize World.alloc w _ = W0 at BA P0 ⊢
    have q0 := P0.out.c0
    have q1 := P0.out.c1
    have q2 := P0.out.c2
    go_wp2_with fail
    refine (LP.out _).mono ?_
    rintro e w1 ⟨rfl, h1⟩
    have B1 := Lib.hid (bnext BA.out h1)
    clear h1 q0 q1 q2
    first
    | (go_wp2
       go_ret
       exact ⟨rfl, B1.out⟩)
    | (go_wp2_with fail
       refine (LO.out _ (HS.out.below B1.out)).mono ?_
       rintro e w2 ⟨rfl, h2⟩
       have B2 := Lib.hid (bnext B1.out h2)
       clear h2
       go_wp2
       go_ret
       exact ⟨rfl, B2.out⟩)
set_option maxHeartbeats 2000000 in
theorem specHeightsOf_any (p : Pg) (wfp : p.Wf) (v : Value) (xs : List Bk) (wf : ∀ b ∈ xs, b.Wf) (w : World) (hs : SliceOf w v xs) (hm : xs.length ≤ maxLen) :
    Calls Try.prog 6 #[.agg #[.int .i16 p.lo, .int .i16 p.st, .int .i16 p.bo], v] w fun e w' => ∃ u, e = .returned (.tuple #[u, .int .i64 (hoC p xs)]) ∧ w'.ownsRow w.heap.size 2 1 u (hoL p xs).length ((hoL p xs).map (Value.int .i64)) ∧ Below w.heap.size w w' := by
  have HS := Lib.hid hs
  have LB := Lib.hid (fun W (h : SliceOf W v xs) => l04Books_any p wfp v xs wf W h hm)
  have LH := Lib.hid (fun (h1 : pegsB p = true) (h2 : okB xs = true) W (h : SliceOf W v xs) => l04Heights_any p h1 v xs (fun b hb => by unfold okB at h2; simp only [Bool.and_eq_true, List.all_eq_true] at h2; exact h2.1 b hb) (by unfold okB at h2; simp at h2; exact h2.2) W h)
  have BA := Lib.hid ((Below.refl w.heap.size w).alloc (Nat.le_refl _) (.cells #[.int .i16 p.lo, .int .i16 p.st, .int .i16 p.bo] 30))
  have P0 := Lib.hid (show PBS (w.alloc (.cells #[.int .i16 p.lo, .int .i16 p.st, .int .i16 p.bo] 30)) w.heap.size p from heap_alloc_new w _)
  obtain ⟨A, c, rfl, -⟩ := hs
  clear wfp wf
  rcases hb_cases p xs with ⟨_, h2, h3⟩ | ⟨_, _, h2, h3⟩ | ⟨e1, e2, h2, h3⟩
  all_goals
    (try have L2 := Lib.hid (LH.out e1 e2))
    rw [h2] at LB
    rw [h2, h3]
    clear h2 h3 LH
    (try clear e1 e2)
    go_enter Try.func6, Try.ntmps6
    go_upto_region 1 with (fail)
    generalize World.alloc w _ = W0 at BA P0 ⊢
    have q0 := P0.out.c0
    have q1 := P0.out.c1
    have q2 := P0.out.c2
    go_wp2_with fail
    refine (LB.out _ (HS.out.below BA.out)).mono ?_
    rintro e w1 ⟨rfl, h1⟩
    have B1 := Lib.hid (bnext BA.out h1)
    have P1 := Lib.hid (P0.out.later h1)
    clear h1 q0 q1 q2
    have q0 := P1.out.c0
    have q1 := P1.out.c1
    have q2 := P1.out.c2
    go_wp2_with fail
    first
    | (go_ret2
       exact ⟨_, rfl, ⟨rfl, .inr ⟨w1.heap.size, 0, #[], rfl, B1.out.size, heap_alloc_new w1 _, Nat.le_refl _, Nat.zero_le _, rfl, rfl⟩⟩, B1.out.alloc B1.out.size _⟩)
    | (refine (L2.out _ (HS.out.below B1.out)).mono ?_
       rintro e w2 ⟨u, rfl, ho, h2⟩
       have O2 := Lib.hid (ownsMono ho B1.out.size)
       have B2 := Lib.hid (bnext B1.out h2)
       clear ho h2
       go_wp2
       go_ret2
       exact ⟨_, rfl, O2.out, B2.out⟩)
end Go.Proofs.Ytjeflpohokjjkaa
