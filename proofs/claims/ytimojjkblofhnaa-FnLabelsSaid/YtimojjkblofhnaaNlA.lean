/- The labels among texts, in ascending order, by the program: contracts. Condition: at most 400 texts. -/
import Derived.Test.YtimojjkblofhnaaNlS
import Derived.Test.YtimojjkblofhnaaLabY
import Derived.Shelf.SortM.Plain
import Derived.Shelf.SortM.SortNone
import Derived.Shelf.SlGeneric
import Derived.Ground.SlgmProg
import Derived.Sort.OwnSorted
namespace Go.Proofs.Ytimojjkblofhnaa
set_option linter.unusedSimpArgs false
set_option linter.unusedVariables false
set_option maxRecDepth 100000
open Go.RowKit Go.Shelf

shelf_lay_g SlLaysM.n6 Slgm 6 at Try 42 as sortSL

theorem sortStrs_any (v : Value) (ss : List (List UInt8)) (base : Nat) (w : World) (hown : w.ownsRow base 9 1 v ss.length (ss.map encStr)) (hn : ss.length ≤ 400) :
    Calls Try.prog 42 #[v] w fun e w' => e = .returned (.tuple #[]) ∧ w'.ownsRow base 9 1 v ss.length ((ss.mergeSort leB).map encStr) ∧ w.grownBy w' v.ownBlock := by
  by_cases h0 : ss.length = 0
  · obtain ⟨A, c, rfl⟩ := vlen_own1 hown
    obtain rfl : ss = [] := List.eq_nil_of_length_eq_zero h0
    have H := AnyM.slices_Sort_string_none sortSL A c w
    refine H.mono fun e w' h => ?_
    obtain ⟨h1, h2⟩ := h
    subst h2
    refine ⟨h1, ?_, World.grownBy.refl _ _⟩
    simpa using hown
  · rcases hown.2 with ⟨_, h⟩ | ⟨g, cap, cur, rfl, hb, hg, hc, hm, hs, ht⟩
    · exact absurd h h0
    · have hlt := (Array.getElem?_eq_some_iff.1 hg).1
      have H := AnyM.slices_Sort_string sortSL g 0 cap ss w (holds_of_block hg (by simpa using ht)) hlt (by omega)
      refine H.mono fun e w' h => ?_
      obtain ⟨h1, n, os, rfl⟩ := h
      exact ⟨h1, ownsRow_sorted (by rw [List.length_mergeSort]) hb hg hc hm hs, grownBy_sorted _⟩

def filTo (T : List UInt8) (ts : List (List UInt8)) (i : Nat) : List (List UInt8) := (ts.take i).filter (okT T)
theorem filTo_succ {T : List UInt8} {ts : List (List UInt8)} {i : Nat} (h : i < ts.length) : filTo T ts (i + 1) = if okT T ts[i] then filTo T ts i ++ [ts[i]] else filTo T ts i := by
  unfold filTo
  rw [List.take_succ_eq_append_getElem h, List.filter_append]
  cases q : okT T ts[i]
  · simp [q]
  · simp [q]
theorem filTo_len (T : List UInt8) (ts : List (List UInt8)) (i : Nat) : (filTo T ts i).length ≤ ts.length := by
  unfold filTo
  refine Nat.le_trans (List.length_filter_le _ _) ?_
  simp
  omega
set_option maxHeartbeats 8000000 in
theorem labelsAmong_any (v : Value) (ts : List (List UInt8)) (T : List UInt8) (w : World) (hs : StrsOf w v ts) (hn : ts.length ≤ 400) (h9 : ∀ s ∈ ts, s.length = 9) :
    Calls Try.prog 27 #[v, .string (tB T)] w fun e w' => ∃ u, e = .returned u ∧ w'.ownsRow w.heap.size 9 1 u ((ts.filter (okT T)).mergeSort leB).length (((ts.filter (okT T)).mergeSort leB).map encStr) ∧ Below w.heap.size w w' := by
  obtain ⟨A, c, rfl, hat⟩ := hs
  have HA := Lib.hid hat
  have H9 := Lib.hid h9
  have CL := Lib.hid (fun (s : List UInt8) (h : s.length ≤ maxLen) W => checkLabel_any (tB s) (by rw [tB_size]; exact h) W)
  obtain ⟨i0, hi0, hz0, hz1, hz2⟩ := info_parts infoStr
  have O0 := Lib.hid (show w.ownsRow w.heap.size 9 1 (.slice none 0 0) (filTo T ts 0).length ((filTo T ts 0).map encStr) from ⟨rfl, .inl ⟨rfl, rfl⟩⟩)
  clear hat h9
  go_enter Try.func27, Try.ntmps27
  go_wp2
  go_loopw [5, 10] (fun v_ i_ wr => ∃ (v : Value) (i : Nat), v = v_ ∧ i ≤ ts.length ∧ i_ = .int .i64 (i : Int) ∧ wr.ownsRow w.heap.size 9 1 v (filTo T ts i).length ((filTo T ts i).map encStr) ∧ Below w.heap.size w wr) (fun _ i_ _ => ts.length - (intOf i_).toNat)
  case atStart => exact ⟨_, 0, rfl, Nat.zero_le _, rfl, O0.out, Below.refl _ _⟩
  case round =>
    clear O0
    obtain ⟨v, i, rfl, hi, rfl, hown, hb⟩ := hrel
    have OA := Lib.hid hown
    have HB := Lib.hid hb
    have LN := Lib.hid (filTo_len T ts i)
    clear hown hb
    by_cases hlt : i < ts.length
    · obtain ⟨g, o, rfl, hg, ha⟩ := HA.out (by omega)
      have p0 := ha.below HB.out hg i hlt
      have EQT := Lib.hid (toList_eqT (s := ts[i]) (t := T))
      have FS := Lib.hid (filTo_succ (T := T) hlt)
      have L9 := Lib.hid (H9.out _ (List.getElem_mem hlt))
      have CK := Lib.hid (fun W => CL.out ts[i] (by rw [L9.out]; unfold maxLen; decide) W)
      clear ha
      obtain ⟨L, hL⟩ : ∃ L, filTo T ts i = L := ⟨_, rfl⟩
      rw [hL] at OA LN FS
      have HLL := Lib.hid hL
      clear hL
      obtain ⟨X, hX⟩ : ∃ X, ts[i] = X := ⟨_, rfl⟩
      rw [hX] at p0 EQT FS L9 CK
      clear hX
      by_cases he : X = T
      · have e0 : ((tB X).toList == (tB T).toList) = true := by rw [EQT.out]; exact decide_eq_true he
        have PN := Lib.hid (show filTo T ts (i + 1) = L by rw [FS.out, if_neg (by unfold okT; rw [decide_eq_false (fun h => h he)]; simp)])
        clear he
        generalize tB X = XB at *
        generalize tB T = TB at *
        go_wp2
        go_roundw
        case rel => exact ⟨_, i + 1, rfl, by omega, by go_num, by rw [PN.out]; exact OA.out, HB.out⟩
        case measure => simp [intOf] <;> omega
      · have e0 : ((tB X).toList == (tB T).toList) = false := by rw [EQT.out]; exact decide_eq_false he
        cases hl : lbl X
        · have PN := Lib.hid (show filTo T ts (i + 1) = L by rw [FS.out, if_neg (by unfold okT; rw [hl, Bool.and_false]; decide)])
          rw [show isB (tB X) = false from hl] at CK
          clear he hl
          generalize tB X = XB at *
          generalize tB T = TB at *
          go_wp2_with fail
          refine (CK.out _).mono ?_
          rintro e w2 ⟨rfl, h2⟩
          have O2 := Lib.hid (ownBelow OA.out h2)
          have B2 := Lib.hid (bnext HB.out h2)
          clear h2 p0
          go_wp2
          go_roundw
          case rel => exact ⟨_, i + 1, rfl, by omega, by go_num, by rw [PN.out]; exact O2.out, B2.out⟩
          case measure => simp [intOf] <;> omega
        · have PN := Lib.hid (show filTo T ts (i + 1) = L ++ [X] by rw [FS.out, if_pos (by unfold okT; rw [hl, decide_eq_true he]; rfl)])
          rw [show isB (tB X) = true from hl] at CK
          have hX := Lib.hid (show encStr X = .string (tB X) from rfl)
          clear he hl
          generalize tB X = XB at *
          generalize tB T = TB at *
          go_wp2_with fail
          refine (CK.out _).mono ?_
          rintro e w2 ⟨rfl, h2⟩
          have O2 := Lib.hid (ownBelow OA.out h2)
          have B2 := Lib.hid (bnext HB.out h2)
          have z2 := B2.out.size
          clear h2 p0
          go_wp2_with (at_builtin; refine wpList_append_own _ rfl (.tmp 21) (.tmp 23) _ rfl w.heap.size 9 i0 (.string ⟨#[]⟩) 1 16 Try.underlying35 hi0 hz0 hz1 hz2 rfl (by decide) _ _ _ rfl (O2.out.alloc _) ⟨w2.heap.size, 0, none⟩ 1 1 [.string XB] rfl rfl (cell_one_new _ _ _) (by intro u hu; simp at hu; subst hu; rfl) (by have := LN.out; unfold maxLen; omega) (by have := LN.out; omega) (by simp; omega) ?_)
          intro v' w4 hown' hgrow' _
          have OC := Lib.hid (show w4.ownsRow w.heap.size 9 1 v' (filTo T ts (i + 1)).length ((filTo T ts (i + 1)).map encStr) by rw [PN.out, List.length_append, List.map_append, List.map_cons, hX.out]; exact hown')
          have B4 := Lib.hid ((B2.out.alloc z2 _).grown hgrow' (by simp; omega) (fun k hk => (O2.out.lt k hk).1))
          clear hown' hgrow'
          go_wp2
          go_roundw
          case rel => exact ⟨_, i + 1, rfl, by omega, by go_num, OC.out, B4.out⟩
          case measure => simp [intOf] <;> omega
    · obtain rfl : i = ts.length := by omega
      have EF := Lib.hid (show filTo T ts ts.length = ts.filter (okT T) by unfold filTo; rw [List.take_length])
      rw [EF.out] at OA LN
      generalize tB T = TB at *
      obtain ⟨F, hF⟩ : ∃ F, ts.filter (okT T) = F := ⟨_, rfl⟩
      have HF := Lib.hid hF
      rw [hF] at OA LN
      clear hF
      have CS := Lib.hid (sortStrs_any v F w.heap.size wr OA.out (by have := LN.out; omega))
      have OV := Lib.hid (fun k (h : v.ownBlock = some k) => OA.out.lt k h)
      go_wp2_with fail
      refine CS.out.mono ?_
      rintro e w5 ⟨rfl, h5, g5⟩
      have O5 := Lib.hid h5
      have B5 := Lib.hid (HB.out.grown g5 HB.out.size (fun k hk => (OV.out k hk).1))
      clear h5 g5
      go_wp2
      go_ret
      exact ⟨v, rfl, by rw [HF.out, List.length_mergeSort]; exact O5.out, B5.out⟩
end Go.Proofs.Ytimojjkblofhnaa
