/- The model: the list of all books of a rack: contracts. Condition: at most 60 books. -/
import Derived.Test.YtlphpajpjpohmaaDoorRkS
import Derived.Test.YtlphpajpjpohmaaDoorFlB
namespace Go.Proofs.YtlphpajpjpohmaaDoor
set_option linter.unusedSimpArgs false
set_option linter.unusedVariables false
set_option maxRecDepth 100000
open Go.RowKit Go.Sort

theorem bks_take {ps : List Pl} {k : Nat} (h : k < ps.length) : (bks ps).take (k + 1) = (bks ps).take k ++ [ps[k].b] := by
  have e : k < (bks ps).length := by rw [bks_length]; exact h
  rw [List.take_succ_eq_append_getElem e, bks_get]

set_option maxHeartbeats 8000000 in
theorem l05Books_any (r : Rk) (hv : Value) (g o : Nat) (w : World) (ha : RackAt w g o r hv) (hn : r.ps.length ≤ 60) :
    Calls Tryd.prog 58 #[.pointer (some ⟨g, o, none⟩)] w fun e w' => ∃ v, e = .returned v ∧ ResB w' w.heap.size v (bks r.ps) ∧ Below w.heap.size w w' := by
  have HA := Lib.hid ha
  obtain ⟨A, c, rfl, hat⟩ := ha.ps
  have HT := Lib.hid hat
  obtain ⟨i0, hi0, hz0, hz1, hz2⟩ := info_parts infoBook
  have zg := ha.low
  have O0 := Lib.hid (show (w.alloc (.cells #[] 51)).ownsRow w.heap.size 51 8 (.slice (some ⟨w.heap.size, 0, none⟩) 0 0) ((bks r.ps).take 0).length (flB ((bks r.ps).take 0)) from by simpa using ResB.own1 w w.heap.size (Nat.le_refl _))
  have bl := bks_length r.ps
  clear ha hat
  go_enter Tryd.func58, Tryd.ntmps58
  go_wp2
  go_loopw [3, 4] (fun v_ i_ wr => ∃ (v : Value) (k : Nat), v = v_ ∧ k ≤ r.ps.length ∧ i_ = .int .i64 (k : Int) ∧ wr.ownsRow w.heap.size 51 8 v ((bks r.ps).take k).length (flB ((bks r.ps).take k)) ∧ Below w.heap.size w wr) (fun _ i_ _ => r.ps.length - (intOf i_).toNat)
  case atStart => exact ⟨_, 0, rfl, Nat.zero_le _, rfl, O0.out, (Below.refl _ _).alloc (Nat.le_refl _) _⟩
  case round =>
    obtain ⟨v, k, rfl, hk, rfl, ho, hb⟩ := hrel
    have OW := Lib.hid ho
    have HB := Lib.hid hb
    have c1 := (HA.out.below hb).h
    have zw := hb.size
    have kl : ((bks r.ps).take k).length ≤ 60 := by rw [List.length_take]; omega
    clear ho hb
    by_cases hlt : k < r.ps.length
    · have hlt' := hlt
      obtain ⟨ga, oa, rfl, hga, hat⟩ := HT.out (by omega)
      obtain ⟨-, p1, p2, p3, p4, p5, p6, p7, p8⟩ := plAt_some (hat.below HB.out hga) hlt
      have BT := Lib.hid (bks_take hlt)
      have KL := Lib.hid (show ((bks r.ps).take k).length = k by rw [List.length_take]; omega)
      clear hat
      generalize r.ps[k].b = b at BT p1 p2 p3 p4 p5 p6 p7 p8
      go_wp2_with (at_builtin; refine wpList_append_own _ rfl (.tmp 15) (.tmp 24) _ rfl w.heap.size 51 i0 (.agg #[.int .i16 0, .int .u8 0, .int .u8 0, .int .u8 0, .int .i16 0, .int .i16 0, .int .i16 0, .int .i16 0]) 8 14 Tryd.underlying34 hi0 hz0 hz1 hz2 rfl (by decide) _ _ _ rfl (OW.out.alloc _) ⟨wr.heap.size, 0, none⟩ 1 1 [.int .i16 b.c, .int .u8 b.m0, .int .u8 b.m1, .int .u8 b.m2, .int .i16 b.v, .int .i16 b.wi, .int .i16 b.hi, .int .i16 b.we] rfl rfl (cell8_new _ _ _ _ _ _ _ _ _ _) (one8 b) (by unfold maxLen; omega) (by omega) (by simp; omega) ?_)
      intro v' w4 hown' hgrow' _
      have OW2 := Lib.hid (show w4.ownsRow w.heap.size 51 8 v' ((bks r.ps).take (k + 1)).length (flB ((bks r.ps).take (k + 1))) by rw [BT.out, flB_snoc, List.length_append, KL.out]; exact hown')
      have HB2 := Lib.hid ((HB.out.alloc zw (.cells #[.int .i16 b.c, .int .u8 b.m0, .int .u8 b.m1, .int .u8 b.m2, .int .i16 b.v, .int .i16 b.wi, .int .i16 b.hi, .int .i16 b.we] 51)).grown hgrow' (by simp; omega) (fun k hk => (OW.out.lt k hk).1))
      clear hown' hgrow'
      go_wp2
      go_roundw
      case rel => exact ⟨_, k + 1, rfl, by omega, by go_num, OW2.out, HB2.out⟩
      case measure => simp [intOf]; omega
    · obtain rfl : k = r.ps.length := by omega
      have OE := Lib.hid (show wr.ownsRow w.heap.size 51 8 v (bks r.ps).length (flB (bks r.ps)) by have := OW.out; rwa [List.take_of_length_le (by omega)] at this)
      go_wp2
      go_ret
      exact ⟨_, rfl, ResB.ofL OE.out rfl, HB.out⟩
set_option maxHeartbeats 2000000 in
theorem specValidRack_any (r : Rk) (hv : Value) (wf : r.Wf) (w : World) (hs : PlsOf w hv r.ps) (ml : r.ps.length ≤ maxLen) :
    Calls Tryd.prog 16 #[.agg #[.int .i16 r.n, hv]] w fun e w' => e = .returned (.bool (rkB r)) ∧ Below w.heap.size w w' := by
  have RA := Lib.hid (RackAt.new 30 hs)
  have WF := Lib.hid wf
  have G0 := Lib.hid (show Below w.heap.size w (w.alloc (.cells #[.int .i16 r.n, hv] 30)) by go_grown)
  obtain ⟨A, c, rfl, -⟩ := hs
  clear wf
  go_enter Tryd.func16, Tryd.ntmps16
  go_wp2_with fail
  refine (l05Ok_any r _ WF.out _ _ _ RA.out ml).mono ?_
  rintro e w1 ⟨rfl, h1⟩
  go_wp2
  go_ret
  exact ⟨rfl, bnext G0.out h1⟩

noncomputable def rkC (r : Rk) : Int := if rkB r then 0 else 1
noncomputable def rkBks (r : Rk) : List Bk := if rkB r then bks r.ps else []
set_option maxHeartbeats 2000000 in
theorem specBooksIn_any (r : Rk) (hv : Value) (wf : r.Wf) (w : World) (hs : PlsOf w hv r.ps) (ml : r.ps.length ≤ maxLen) :
    Calls Tryd.prog 20 #[.agg #[.int .i16 r.n, hv]] w fun e w' => ∃ u, e = .returned (.tuple #[u, .int .i64 (rkC r)]) ∧ ResB w' w.heap.size u (rkBks r) ∧ Below w.heap.size w w' := by
  have RA := Lib.hid (RackAt.new 30 hs)
  have WF := Lib.hid wf
  have G0 := Lib.hid (show Below w.heap.size w (w.alloc (.cells #[.int .i16 r.n, hv] 30)) by go_grown)
  obtain ⟨A, c, rfl, -⟩ := hs
  clear wf
  cases hk : rkB r
  · have E1 := Lib.hid (show rkC r = 1 by unfold rkC; rw [hk]; rfl)
    have E2 := Lib.hid (show rkBks r = [] by unfold rkBks; rw [hk]; rfl)
    go_enter Tryd.func20, Tryd.ntmps20
    go_wp2_with fail
    refine (l05Ok_any r _ WF.out _ _ _ RA.out ml).mono ?_
    rintro e w1 ⟨rfl, h1⟩
    rw [hk]
    clear hk
    have zz := (bnext G0.out h1).size
    go_wp2
    go_ret2
    exact ⟨_, by rw [E1.out]; rfl, by rw [E2.out]; exact ResB.ofL (ResB.own1 w1 _ zz) rfl, (bnext G0.out h1).alloc zz _⟩
  · have E1 := Lib.hid (show rkC r = 0 by unfold rkC; rw [hk]; rfl)
    have E2 := Lib.hid (show rkBks r = bks r.ps by unfold rkBks; rw [hk]; rfl)
    have h60 := rkB_len hk
    go_enter Tryd.func20, Tryd.ntmps20
    go_wp2_with fail
    refine (l05Ok_any r _ WF.out _ _ _ RA.out ml).mono ?_
    rintro e w1 ⟨rfl, h1⟩
    rw [hk]
    clear hk
    go_wp2_with fail
    refine (l05Books_any r _ _ _ _ (RA.out.below h1) h60).mono ?_
    rintro e w2 ⟨u, rfl, hr, h2⟩
    have HR := Lib.hid (hr.mono (bnext G0.out h1).size)
    clear hr
    go_wp2
    go_ret2
    exact ⟨_, by rw [E1.out]; rfl, by rw [E2.out]; exact HR.out, bnext (bnext G0.out h1) h2⟩

end Go.Proofs.YtlphpajpjpohmaaDoor
