/- The free places of a rack, by the model and by the program: contracts. Condition: at most 1048576 books, whose numbers lie within their kinds; the two error variables hold errors of errors.New's make. -/
import Derived.Test.YtlphpajpjpohmaaDoorRkT
namespace Go.Proofs.YtlphpajpjpohmaaDoor
set_option linter.unusedSimpArgs false
set_option linter.unusedVariables false
set_option maxRecDepth 100000
open Go.RowKit Go.Sort

noncomputable def fpL (r : Rk) : List Int := if rkB r then frTo r.ps r.n.toNat else []
theorem fpL_len (r : Rk) : (fpL r).length ≤ 60 := by
  unfold fpL
  cases hk : rkB r
  · simp
  · simp only [if_true]
    have := frTo_length r.ps r.n.toNat
    have := rk_nat hk
    omega
theorem ownMonoR {w : World} {base base' n size : Nat} {t : TypeId} {v : Value} {xs : List Value} (h : w.ownsRow base t size v n xs) (hb : base' ≤ base) : w.ownsRow base' t size v n xs := by
  refine ⟨h.1, ?_⟩
  rcases h.2 with h | ⟨g, cap, cur, e1, e2, e3⟩
  · exact .inl h
  · exact .inr ⟨g, cap, cur, e1, Nat.le_trans hb e2, e3⟩
theorem frTo_succ (ps : List Pl) (k : Nat) : frTo ps (k + 1) = frTo ps k ++ (if tkB ps k then [] else [(k : Int)]) := rfl
theorem ownI0 (w : World) (base : Nat) (h : base ≤ w.heap.size) : (w.alloc (.cells #[] 2)).ownsRow base 2 1 (.slice (some ⟨w.heap.size, 0, none⟩) 0 0) ([] : List Int).length (([] : List Int).map (Value.int .i64)) := ⟨rfl, .inr ⟨w.heap.size, 0, #[], rfl, h, heap_alloc_new w _, Nat.le_refl _, Nat.zero_le _, rfl, rfl⟩⟩
theorem TkAt.all {w : World} {g : Nat} {ps : List Pl} (h : TkAt w g ps ps.length) (j : Nat) (hj : j < 60) : w.cell? ⟨g, j, none⟩ = some (.bool (tkB ps j)) := by
  have := h.cell j hj
  rwa [List.take_length] at this
theorem TkAt.new (w : World) (ps : List Pl) (t : TypeId) : TkAt (w.alloc (.cells (tkL ps ps.length).toArray t)) w.heap.size ps ps.length := by
  refine ⟨fun j v hv => ?_, there_new w _ t (tkS _ _)⟩
  rw [Nat.zero_add, cell_of_row _ _ _ _ _ _ (heap_alloc_new w _)]
  simpa using hv

theorem stTk (ps : List Pl) (k g : Nat) (w : World) (h : w.there g 0 60) : Sem.run Tryd.prog (storeCells ⟨g, 0, none⟩ (tkL ps k)) w = .ok () (w.setCells g 0 (tkL ps k)) :=
  run_storeCells_cells g 0 (tkL ps k) 0 w (fun j hj => (h j (by rwa [tkL_length] at hj)).1) (fun j hj => (h j (by rwa [tkL_length] at hj)).2) (fun v hv => by
    unfold tkL at hv
    obtain ⟨j, _, rfl⟩ := List.mem_map.1 hv
    rfl)
set_option maxHeartbeats 8000000 in
theorem specFreePlaces_any (r : Rk) (hv : Value) (wf : r.Wf) (w : World) (hs : PlsOf w hv r.ps) (ml : r.ps.length ≤ maxLen) :
    Calls Tryd.prog 26 #[.agg #[.int .i16 r.n, hv]] w fun e w' => ∃ u, e = .returned (.tuple #[u, .int .i64 (rkC r)]) ∧ w'.ownsRow w.heap.size 2 1 u (fpL r).length ((fpL r).map (Value.int .i64)) ∧ Below w.heap.size w w' := by
  have RA := Lib.hid (RackAt.new 30 hs)
  have WF := Lib.hid wf
  have G0 := Lib.hid (show Below w.heap.size w (w.alloc (.cells #[.int .i16 r.n, hv] 30)) by go_grown)
  obtain ⟨A, c, rfl, -⟩ := hs
  clear wf
  cases hk : rkB r
  · have E1 := Lib.hid (show rkC r = 1 by unfold rkC; rw [hk]; rfl)
    have E2 := Lib.hid (show fpL r = [] by unfold fpL; rw [hk]; rfl)
    go_enter Tryd.func26, Tryd.ntmps26
    go_wp2_with fail
    refine (l05Ok_any r _ WF.out _ _ _ RA.out ml).mono ?_
    rintro e w1 ⟨rfl, h1⟩
    rw [hk]
    clear hk
    have zz := (bnext G0.out h1).size
    go_wp2
    go_ret2
    exact ⟨_, by rw [E1.out]; rfl, by rw [E2.out]; exact ownI0 w1 _ zz, (bnext G0.out h1).alloc zz _⟩
  · have E1 := Lib.hid (show rkC r = 0 by unfold rkC; rw [hk]; rfl)
    have E2 := Lib.hid (show fpL r = frTo r.ps r.n.toNat by unfold fpL; rw [hk]; rfl)
    have HK := Lib.hid hk
    obtain ⟨en, en1, en2, e4⟩ := rk_nat hk
    obtain ⟨n, hn⟩ : ∃ n, r.n.toNat = n := ⟨_, rfl⟩
    rw [hn] at en en1 en2 E2
    obtain ⟨i0, hi, hz0, hz1, hz2⟩ := info_parts infoInt64
    have EN := Lib.hid en
    clear e4 hn en
    have RN := Lib.hid (fun (W : World) (h : RackAt W w.heap.size 0 r (.slice A r.ps.length c)) => show W.cell? ⟨w.heap.size, 0, none⟩ = some (.int .i16 (n : Int)) by have := h.n; rwa [EN.out] at this)
    go_enter Tryd.func26, Tryd.ntmps26
    go_wp2_with fail
    refine (l05Ok_any r _ WF.out _ _ _ RA.out ml).mono ?_
    rintro e w1 ⟨rfl, h1⟩
    rw [hk]
    clear hk
    have RA1 := Lib.hid (RA.out.below h1)
    have B1 := Lib.hid (bnext G0.out h1)
    go_wp2_with fail
    refine (l05Taken_any r _ WF.out _ _ _ RA1.out HK.out).mono ?_
    rintro e w2 ⟨rfl, h2⟩
    have RA2 := Lib.hid (RA1.out.below h2)
    have B2 := Lib.hid (bnext B1.out h2)
    go_upto_region 3 with (fail)
    have B3 := Lib.hid (show Below w2.heap.size w2 (World.alloc w2 (.cells (tkL [] 0).toArray 84)) from (Below.refl _ _).alloc (Nat.le_refl _) _)
    have T3 := Lib.hid (there_new w2 (tkL [] 0).toArray 84 rfl)
    change Oper.upon _ _ _ _ _ (Result.andThen (Sem.run _ _ (World.alloc w2 (.cells (tkL [] 0).toArray 84))) _)
    generalize World.alloc w2 _ = w3 at B3 T3 ⊢
    rw [stTk r.ps r.ps.length w2.heap.size w3 T3.out]
    have K4 := Lib.hid (show TkAt (w3.setCells w2.heap.size 0 (tkL r.ps r.ps.length)) w2.heap.size r.ps r.ps.length from ⟨World.rangeAt_setCells_same w3 w2.heap.size 0 (tkL r.ps r.ps.length) (by rw [tkL_length]; exact T3.out), World.there_setCells T3.out _ _ _⟩)
    have b4 := setCells_below (g := w2.heap.size) (Nat.le_refl _) (tkL r.ps r.ps.length) 0 w3 B3.out
    have C4 := Lib.hid ((b4.cell (p := ⟨w.heap.size, 0, none⟩) RA2.out.low).trans (RN.out w2 RA2.out))
    have B4 := Lib.hid (bnext B2.out b4)
    have zlo := RA2.out.low
    have z42 := b4.size
    clear b4
    generalize World.setCells w3 _ _ _ = w4 at K4 B4 C4 z42 ⊢
    have zz4 := B4.out.size
    have O5 := Lib.hid (show (w4.alloc (.cells #[] 2)).ownsRow w4.heap.size 2 1 (.slice (some ⟨w4.heap.size, 0, none⟩) 0 0) (frTo r.ps 0).length ((frTo r.ps 0).map (Value.int .i64)) from ownI0 w4 _ (Nat.le_refl _))
    have d5 : Below w4.heap.size w4 (w4.alloc (.cells #[] 2)) := (Below.refl _ _).alloc (Nat.le_refl _) _
    have D5 := Lib.hid d5
    clear d5
    go_wp2
    go_loopw [5, 6] (fun v_ i_ wr => ∃ (v : Value) (k : Nat), v = v_ ∧ k ≤ n ∧ i_ = .int .i64 (k : Int) ∧ wr.ownsRow w4.heap.size 2 1 v (frTo r.ps k).length ((frTo r.ps k).map (Value.int .i64)) ∧ Below w4.heap.size w4 wr) (fun _ i_ _ => n - (intOf i_).toNat)
    case atStart => exact ⟨_, 0, rfl, Nat.zero_le _, rfl, O5.out, D5.out⟩
    case round =>
      obtain ⟨v, k, rfl, hk, rfl, ho, hb⟩ := hrel
      have OW := Lib.hid ho
      have HB := Lib.hid hb
      have hzw := hb.size
      have c0 := (hb.cell (p := ⟨w.heap.size, 0, none⟩) (by show w.heap.size < _; omega)).trans C4.out
      have fl := frTo_length r.ps k
      clear ho hb
      by_cases hlt : k < n
      · have q0 := (HB.out.cell (p := ⟨w2.heap.size, k, none⟩) K4.out.lt).trans (K4.out.all k (by omega))
        have k6 : (k : Int) < 60 := by omega
        have k0 : (0 : Int) ≤ (k : Int) := by omega
        have kn : (k : Int) < (n : Int) := by omega
        cases ht : tkB r.ps k
        · have FS := Lib.hid (show frTo r.ps (k + 1) = frTo r.ps k ++ [(k : Int)] by rw [frTo_succ, ht]; rfl)
          rw [ht] at q0
          clear ht
          go_wp2_with (at_builtin; refine wpList_append_own _ rfl (.tmp 23) (.tmp 25) _ rfl w4.heap.size 2 i0 (.int .i64 0) 1 8 Tryd.underlying40 hi hz0 hz1 hz2 rfl (by decide) _ _ _ rfl (OW.out.alloc _) ⟨wr.heap.size, 0, none⟩ 1 1 [.int .i64 (k : Int)] rfl rfl ?c1b ?c2b ?c3b ?c4b ?c5b ?_)
          case c1b => exact cell_one_new _ _ _
          case c2b => (intro u hu; simp at hu; subst hu; rfl)
          case c3b => (unfold maxLen; omega)
          case c4b => omega
          case c5b => (simp; omega)
          intro v' w6 hown' hgrow' _
          have OW' := Lib.hid hown'
          have g2 : Below w4.heap.size w4 w6 := (HB.out.alloc hzw _).grown hgrow' (by simp; omega) (fun k hk => (OW.out.lt k hk).1)
          clear hown' hgrow'
          go_wp2
          go_roundw
          case rel => exact ⟨_, k + 1, rfl, by omega, by go_num, by have h := OW'.out; rw [FS.out]; simpa using h, g2⟩
          case measure => simp [intOf]; omega
        · have FS := Lib.hid (show frTo r.ps (k + 1) = frTo r.ps k by rw [frTo_succ, ht]; simp)
          rw [ht] at q0
          clear ht
          go_wp2
          go_roundw
          case rel => exact ⟨_, k + 1, rfl, by omega, by go_num, by rw [FS.out]; exact OW.out, HB.out⟩
          case measure => simp [intOf]; omega
      · obtain rfl : k = n := by omega
        go_wp2
        go_ret2
        exact ⟨_, by rw [E1.out]; rfl, by rw [E2.out]; exact ownMonoR OW.out zz4, bnext B4.out HB.out⟩
set_option maxHeartbeats 4000000 in
theorem freePlaces_any (r : Rk) (hv : Value) (wf : r.Wf) (w : World) (s i : Addr) (he : Er2 w s i) (hs : PlsOf w hv r.ps) (hn : r.ps.length ≤ 1048576) :
    Calls Tryd.prog 27 #[.agg #[.int .i16 r.n, hv]] w fun e w' => ∃ u, e = .returned (.tuple #[u, .int .i64 (rkC r)]) ∧ w'.ownsRow w.heap.size 2 1 u (fpL r).length ((fpL r).map (Value.int .i64)) ∧ Below w.heap.size w w' := by
  have HE := Lib.hid he
  have WF := Lib.hid wf
  have HS := Lib.hid hs
  obtain ⟨A, c, rfl, -⟩ := hs
  have G0 := Lib.hid (show Below w.heap.size w (w.alloc (.cells #[.int .i16 r.n, .slice A r.ps.length c] 30)) by go_grown)
  clear he wf
  go_enter Tryd.func27, Tryd.ntmps27
  go_wp2_with fail
  refine (placesOf_any r _ WF.out _ s i (HE.out.below G0.out) (HS.out.below G0.out) hn).mono ?_
  rintro e w1 ⟨v, rfl, hp, g1⟩
  have B1 := Lib.hid (bnext G0.out g1)
  have z1 := B1.out.size
  generalize hC : rkC r = C
  cases hk : rkB r
  · obtain rfl := hp.no hk
    have E2 := Lib.hid (show fpL r = whr false [] by unfold fpL; rw [hk]; rfl)
    have HC := Lib.hid hC
    clear hp hk hC
    go_wp2_with fail
    refine (where_any _ [] false _ (pcs_nil _) (by simp)).mono ?_
    rintro e w2 ⟨u, rfl, hr, g2⟩
    have HR := Lib.hid (ownMonoR hr z1)
    clear hr
    go_wp2
    go_ret2
    exact ⟨u, by rw [HC.out]; rfl, by rw [E2.out]; exact HR.out, bnext B1.out g2⟩
  · obtain ⟨g, rfl, hg, hr⟩ := hp.ok hk
    obtain ⟨e1, e2, e3, e4⟩ := rk_nat hk
    have E2 := Lib.hid (show fpL r = whr false (plc r.n.toNat r.ps) by unfold fpL; rw [hk, whr_false e4]; rfl)
    have HR := Lib.hid hr
    have HC := Lib.hid hC
    clear hp hk hC hr e1 e4
    go_wp2_with fail
    refine (where_any _ (plc r.n.toNat r.ps) false _ (RowN.sl HR.out (plc_length _ _)) (by rw [plc_length]; exact e3)).mono ?_
    rintro e w2 ⟨u, rfl, hr, g2⟩
    have HR2 := Lib.hid (ownMonoR hr z1)
    clear hr
    go_wp2
    go_ret2
    exact ⟨u, by rw [HC.out]; rfl, by rw [E2.out]; exact HR2.out, bnext B1.out g2⟩
end Go.Proofs.YtlphpajpjpohmaaDoor
