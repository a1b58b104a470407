/- HeightsOf by the program: a contract. Condition: numbers within their kinds. -/
import Derived.Test.YtjeflpohokjjkaaNdI
namespace Go.Proofs.Ytjeflpohokjjkaa
set_option linter.unusedSimpArgs false
set_option linter.unusedVariables false
set_option maxRecDepth 100000
open Go.RowKit

theorem fl3_at : ∀ (L : List Nd) (i : Nat) (h : i < L.length) (j : Nat), j < 3 → (L.flatMap ndC)[i * 3 + j]? = (ndC L[i])[j]?
  | b :: t, 0, _, j, hj => by
    rw [List.flatMap_cons]
    show (ndC b ++ t.flatMap ndC)[0 * 3 + j]? = _
    rw [Nat.zero_mul, Nat.zero_add, List.getElem?_append_left (by simp [ndC]; omega)]
    rfl
  | b :: t, i + 1, h, j, hj => by
    have h1 : i < t.length := by simpa using h
    rw [List.flatMap_cons]
    have e : (i + 1) * 3 + j = (ndC b).length + (i * 3 + j) := by simp [ndC]; omega
    rw [e, List.getElem?_append_right (by omega), Nat.add_sub_cancel_left, fl3_at t i h1 j hj]
    rfl
theorem nds_at {w : World} {base c : Nat} {A : Option Addr} {L : List Nd} (h : w.ownsRow base 54 3 (.slice A L.length c) L.length (L.flatMap ndC)) (h0 : 0 < L.length) : ∃ g, A = some ⟨g, 0, none⟩ ∧ g < w.heap.size ∧ ∀ j (hj : j < L.length), w.cell? ⟨g, j * 3, none⟩ = some (.int .i64 L[j].hi) ∧ w.cell? ⟨g, j * 3 + 1, none⟩ = some (.int .i64 L[j].wd) ∧ w.cell? ⟨g, j * 3 + 2, none⟩ = some (.int .i64 L[j].ar) := by
  rcases h.2 with ⟨e, _⟩ | ⟨g, cap, cur, e, hb, hg, hc, _, hs, ht⟩
  · injection e with _ e _
    omega
  · injection e with e1 _ _
    refine ⟨g, e1, (Array.getElem?_eq_some_iff.1 hg).1, fun j hj => ?_⟩
    have key : ∀ i, i < 3 → w.cell? ⟨g, j * 3 + i, none⟩ = (ndC L[j])[i]? := by
      intro i hi
      rw [cell_of_row w g _ cur _ _ hg, ← fl3_at L j hj i hi, ← ht, List.getElem?_take, if_pos (by omega), Array.getElem?_toList]
    exact ⟨key 0 (by omega), key 1 (by omega), key 2 (by omega)⟩
set_option maxHeartbeats 4000000 in
theorem heightsOf_any (p : Pg) (wfp : p.Wf) (v : Value) (xs : List Bk) (w : World) (hs : SliceOf w v xs) (hm : xs.length ≤ maxLen) :
    Calls Try.prog 9 #[.agg #[.int .i16 p.lo, .int .i16 p.st, .int .i16 p.bo], v] w fun e w' => ∃ u, e = .returned (.tuple #[u, .int .i64 (hoC p xs)]) ∧ w'.ownsRow w.heap.size 2 1 u (hoL p xs).length ((hoL p xs).map (Value.int .i64)) ∧ Below w.heap.size w w' := by
  have HS := Lib.hid hs
  have VP := Lib.hid (fun W => validPegs_any p wfp W)
  have VB := Lib.hid (fun W (h : SliceOf W v xs) => validBooks_any v xs W h hm)
  have NO := Lib.hid (fun (h1 : pegsB p = true) (h2 : okB xs = true) W (h : SliceOf W v xs) => needsOf_any p wfp h1 v xs (fun b hb => by unfold okB at h2; simp only [Bool.and_eq_true, List.all_eq_true] at h2; exact h2.1 b hb) (by unfold okB at h2; simp at h2; exact h2.2) W h)
  have NH := Lib.hid (fun (h1 : pegsB p = true) (h2 : okB xs = true) => And.intro (needs_hi (xs := xs) h1 (fun b hb => by unfold okB at h2; simp only [Bool.and_eq_true, List.all_eq_true] at h2; exact h2.1 b hb)) (Nat.le_trans (needs_len (xs := xs) h1 (fun b hb => by unfold okB at h2; simp only [Bool.and_eq_true, List.all_eq_true] at h2; exact h2.1 b hb)) (show xs.length ≤ 60 by unfold okB at h2; simp at h2; exact h2.2)))
  have BA := Lib.hid ((Below.refl w.heap.size w).alloc (Nat.le_refl _) (.cells #[.int .i16 p.lo, .int .i16 p.st, .int .i16 p.bo] 30))
  have P0 := Lib.hid (show PBS (w.alloc (.cells #[.int .i16 p.lo, .int .i16 p.st, .int .i16 p.bo] 30)) w.heap.size p from heap_alloc_new w _)
  obtain ⟨A, c, rfl, -⟩ := hs
  clear wfp
  rcases hb_cases p xs with ⟨h1, h2, h3⟩ | ⟨h1, h4, h2, h3⟩ | ⟨h1, h4, h2, h3⟩
  · rw [h1] at VP
    rw [h2, h3]
    clear h1 h2 h3 NO NH VB
    go_enter Try.func9, Try.ntmps9
    go_upto_region 1 with (fail)
    generalize World.alloc w _ = W0 at BA P0 ⊢
    have q0 := P0.out.c0
    have q1 := P0.out.c1
    have q2 := P0.out.c2
    go_wp2_with fail
    refine (VP.out _).mono ?_
    rintro e w1 ⟨rfl, g1⟩
    have B1 := Lib.hid (bnext BA.out g1)
    go_wp2
    go_ret2
    exact ⟨_, rfl, ⟨rfl, .inl ⟨rfl, rfl⟩⟩, B1.out⟩
  · rw [h1] at VP
    rw [h4] at VB
    rw [h2, h3]
    clear h1 h2 h3 h4 NO NH
    go_enter Try.func9, Try.ntmps9
    go_upto_region 1 with (fail)
    generalize World.alloc w _ = W0 at BA P0 ⊢
    have q0 := P0.out.c0
    have q1 := P0.out.c1
    have q2 := P0.out.c2
    go_wp2_with fail
    refine (VP.out _).mono ?_
    rintro e w1 ⟨rfl, g1⟩
    have B1 := Lib.hid (bnext BA.out g1)
    clear g1 q0 q1 q2
    go_wp2_with fail
    refine (VB.out _ (HS.out.below B1.out)).mono ?_
    rintro e w2 ⟨rfl, g2⟩
    have B2 := Lib.hid (bnext B1.out g2)
    go_wp2
    go_ret2
    exact ⟨_, rfl, ⟨rfl, .inl ⟨rfl, rfl⟩⟩, B2.out⟩
  · have N2 := Lib.hid (NO.out h1 h4)
    obtain ⟨n1, n2⟩ := NH.out h1 h4
    rw [h1] at VP
    rw [h4] at VB
    rw [h2, h3, ← n1]
    have HL := Lib.hid n2
    clear h1 h2 h3 h4 NO NH n1 n2
    generalize needsL p xs = L at N2 HL ⊢
    obtain ⟨i0, hi0, hz0, hz1, hz2⟩ := info_parts infoIntH
    go_enter Try.func9, Try.ntmps9
    go_upto_region 1 with (fail)
    generalize World.alloc w _ = W0 at BA P0 ⊢
    have q0 := P0.out.c0
    have q1 := P0.out.c1
    have q2 := P0.out.c2
    go_wp2_with fail
    refine (VP.out _).mono ?_
    rintro e w1 ⟨rfl, g1⟩
    have B1 := Lib.hid (bnext BA.out g1)
    have P1 := Lib.hid (P0.out.later g1)
    clear g1 q0 q1 q2
    go_wp2_with fail
    refine (VB.out _ (HS.out.below B1.out)).mono ?_
    rintro e w2 ⟨rfl, g2⟩
    have B2 := Lib.hid (bnext B1.out g2)
    have P2 := Lib.hid (P1.out.later g2)
    clear g2
    have q0 := P2.out.c0
    have q1 := P2.out.c1
    have q2 := P2.out.c2
    go_wp2_with fail
    refine (N2.out _ (HS.out.below B2.out)).mono ?_
    rintro e w3 ⟨u, rfl, ho, g3⟩
    have O3 := Lib.hid ho
    have B3 := Lib.hid (bnext B2.out g3)
    obtain ⟨A3, c3, rfl⟩ := vlen_ownN ho
    clear ho g3 q0 q1 q2 P0 P1 P2 BA B1 B2
    have hL60 := HL.out
    go_wp2
    go_loopw [6, 21] (fun v_ i_ wr => ∃ (v : Value) (k : Nat), v = v_ ∧ k ≤ L.length ∧ i_ = .int .i64 (k : Int) ∧ wr.ownsRow w3.heap.size 2 1 v k (((L.take k).map Nd.hi).map (Value.int .i64)) ∧ Below w3.heap.size w3 wr) (fun _ i_ _ => L.length - (intOf i_).toNat)
    case atStart => exact ⟨_, 0, rfl, Nat.zero_le _, rfl, ⟨rfl, .inl ⟨rfl, rfl⟩⟩, Below.refl _ _⟩
    case round =>
      obtain ⟨v, k, rfl, hk, rfl, hown, hb⟩ := hrel
      have OW := Lib.hid hown
      have BR := Lib.hid hb
      have hsz := hb.size
      clear hown hb
      obtain ⟨A2, c2, rfl⟩ := vlen_own1 OW.out
      by_cases hlt : k < L.length
      · obtain ⟨g, rfl, hg, hc⟩ := nds_at O3.out (by omega)
        obtain ⟨p0, p1, p2⟩ := hc k hlt
        have p0 := (BR.out.cell (p := ⟨g, k * 3, none⟩) hg).trans p0
        have p1 := (BR.out.cell (p := ⟨g, k * 3 + 1, none⟩) hg).trans p1
        have p2 := (BR.out.cell (p := ⟨g, k * 3 + 2, none⟩) hg).trans p2
        have TS := Lib.hid (show (((L.take (k + 1)).map Nd.hi).map (Value.int .i64)) = ((L.take k).map Nd.hi).map (Value.int .i64) ++ [.int .i64 L[k].hi] by rw [List.take_succ_eq_append_getElem hlt, List.map_append, List.map_append]; rfl)
        generalize L[k] = q at p0 p1 p2 TS
        generalize ((L.take k).map Nd.hi).map (Value.int .i64) = ys at OW TS
        have QB := Lib.hid (show NB (wr.alloc (.cells #[.int .i64 q.hi, .int .i64 q.wd, .int .i64 q.ar] 54)) wr.heap.size q from heap_alloc_new wr _)
        have O4 := Lib.hid (OW.out.alloc (.cells #[.int .i64 q.hi, .int .i64 q.wd, .int .i64 q.ar] 54))
        have B4 := Lib.hid (BR.out.alloc hsz (.cells #[.int .i64 q.hi, .int .i64 q.wd, .int .i64 q.ar] 54))
        clear hc OW BR
        go_upto_region 7 with (fail)
        generalize hg8 : wr.heap.size = g8 at QB ⊢
        generalize World.alloc wr _ = W4 at QB O4 B4 ⊢
        have n0 := QB.out.c0
        have hsz4 := B4.out.size
        clear p0 p1 p2
        go_wp2_with (at_builtin; refine wpList_append_own _ rfl (.tmp 25) (.tmp 28) _ rfl w3.heap.size 2 i0 (.int .i64 0) 1 8 Try.underlying27 hi0 hz0 hz1 hz2 rfl (by decide) _ _ _ rfl (O4.out.alloc _) ⟨W4.heap.size, 0, none⟩ 1 1 [.int .i64 q.hi] rfl rfl (cell1_new _ _ _) (by intro u hu; simp at hu; subst hu; rfl) (by unfold maxLen; omega) (by omega) (by simp; omega) ?_)
        intro v' w5 hown' hgrow' _
        have ha : Below W4.heap.size W4 (W4.alloc (.cells #[.int .i64 q.hi] 2)) := (Below.refl _ _).alloc (Nat.le_refl _) _
        have O5 := Lib.hid (show w5.ownsRow w3.heap.size 2 1 v' (k + 1) (((L.take (k + 1)).map Nd.hi).map (Value.int .i64)) by rw [TS.out]; exact hown')
        have B5 := Lib.hid ((bnext B4.out ha).grown hgrow' (bnext B4.out ha).size (fun k hk => (O4.out.lt k hk).1))
        obtain ⟨A5, c5, rfl⟩ := vlen_own1 hown'
        clear hown' hgrow' ha O4 n0
        go_wp2
        go_roundw
        case rel => exact ⟨_, k + 1, rfl, by omega, by go_num, O5.out, B5.out⟩
        case measure => first | (simp [intOf]; done) | (simp [intOf]; omega)
      · obtain rfl : k = L.length := by omega
        rw [List.take_length] at OW
        go_wp2
        go_ret2
        exact ⟨_, rfl, by rw [List.length_map]; exact ownsMono OW.out B3.out.size, bnext B3.out BR.out⟩
theorem hoL_len (p : Pg) (xs : List Bk) : (hoL p xs).length ≤ 60 := by
  unfold hoL
  by_cases h : (pegsB p && okB xs) = true
  · rw [if_pos h]
    have h1 := hsT_len p xs xs.length
    simp only [Bool.and_eq_true] at h
    have h2 : xs.length ≤ 60 := by have h3 := h.2; unfold okB at h3; simp at h3; exact h3.2
    omega
  · rw [if_neg h]; simp
end Go.Proofs.Ytjeflpohokjjkaa
