/- Both functions that tell the runs of a list: contracts. Condition: at most 1048576 books, whose numbers lie within their kinds. -/
import Derived.Test.YtgmipobohnagnaaDoorRuns
import Derived.Maps.AppendAt
namespace Go.Proofs.YtgmipobohnagnaaDoor
set_option linter.unusedSimpArgs false
set_option linter.unusedVariables false
set_option maxRecDepth 100000
open Go.RowKit

theorem infoInt64 : (Tryd.prog.info? 2).map (fun i => (i.zero, i.size, i.bytes)) = some (some (.int .i64 0), 1, 8) := by kernel_rfl

set_option maxHeartbeats 4000000 in
theorem runsOf_any (v0 : Value) (xs : List Bk) (wf : ∀ b ∈ xs, b.Wf) (w : World) (hs : SliceOf w v0 xs) (hn : xs.length ≤ 1048576) :
    Calls Tryd.prog 17 #[v0] w fun e w' => ∃ v, e = .returned v ∧ w'.ownsRow w.heap.size 2 1 v (runs xs).length ((runs xs).map (Value.int .i64)) ∧ Below w.heap.size w w' := by
  obtain ⟨A, c, rfl, hs⟩ := hs
  obtain ⟨i0, hi, hz0, hz1, hz2⟩ := info_parts infoInt64
  have HS := Lib.hid hs
  have WF := Lib.hid wf
  have H0 := Lib.hid (show w.ownsRow w.heap.size 2 1 (.slice none 0 0) (runsTo xs 0).length ((runsTo xs 0).map (Value.int .i64)) from ⟨rfl, .inl ⟨rfl, rfl⟩⟩)
  clear hs wf
  go_enter Tryd.func17, Tryd.ntmps17
  go_wp2
  go_loopw [3, 7, 4] (fun v i _ wr => ∃ (k : Nat) (x : Int), x = k ∧ k ≤ xs.length ∧ i = .int .i64 x ∧ wr.ownsRow w.heap.size 2 1 v (runsTo xs k).length ((runsTo xs k).map (Value.int .i64)) ∧ Below w.heap.size w wr) (fun _ i _ _ => xs.length - (intOf i).toNat)
  case atStart => exact ⟨0, 0, rfl, Nat.zero_le _, rfl, H0.out, Below.refl _ _⟩
  case round =>
    obtain ⟨k, x, hx, hk, rfl, hown, hb⟩ := hrel
    have OW0 := Lib.hid hown
    clear hown
    by_cases hlt : k < xs.length
    · have hlt' := hlt
      obtain ⟨ga, oa, rfl, hga, hat⟩ := HS.out (by omega)
      have zg := Nat.lt_of_lt_of_le hga hb.size
      rcases k with _ | m
      · obtain rfl : x = 0 := by simpa using hx
        clear hx hat
        go_wp2
        refine wp_region_below (by kernel_rfl) (by kernel_rfl) ?_
        repeat (first | go_big_quiet_step (fail) | quiet_step (fail))
        refine wpQuiet_nil ?_
        rintro wq ⟨⟨_, hq⟩, rfl⟩
        have g1 := hb.trans (hq.mono hb.size)
        have OW := Lib.hid (ownsBelow OW0.out hq)
        go_wp2_with (at_builtin; refine wpList_append_own _ rfl (.tmp 25) (.tmp 27) _ rfl w.heap.size 2 i0 (.int .i64 0) 1 8 Tryd.underlying54 hi hz0 hz1 hz2 rfl (by decide) _ _ _ rfl (OW.out.alloc _) ⟨wq.heap.size, 0, none⟩ 1 1 [.int .i64 0] rfl rfl ?c1a ?c2a ?c3a ?c4a ?c5a ?_)
        case c1a => exact cell_one_new _ _ _
        case c2a => (intro u hu; simp at hu; subst hu; rfl)
        case c3a => (have := runsTo_length xs 0; unfold maxLen; omega)
        case c4a => (have := runsTo_length xs 0; omega)
        case c5a => (have := g1.size; simp; omega)
        intro v' w2 hown' hgrow' _
        have OW' := Lib.hid hown'
        have g2 : Below w.heap.size w w2 := (g1.alloc g1.size _).grown hgrow' (by have := g1.size; simp; omega) (fun k hk => (OW.out.lt k hk).1)
        clear hown' hgrow'
        go_wp2
        go_roundw
        case rel => exact ⟨1, 1, rfl, by omega, by go_num, by simpa [runsTo] using OW'.out, g2⟩
        case measure => simp [intOf]; omega
      · have hx' : x = (m : Int) + 1 := by simpa using hx
        subst hx'
        clear hx
        have hlt0 : m < xs.length := by omega
        have A1 := Lib.hid ((hat.below hb hga).at_ zg hlt)
        have A0 := Lib.hid ((hat.below hb hga).at_ zg hlt0)
        have HO := Lib.hid (outAt_eq hlt)
        have d0 : ((m : Int) + 1 == 0) = false := by simp; omega
        have hlti : (m : Int) + 1 < xs.length := by omega
        clear hat
        obtain ⟨-, p0, p1, p2, p3, p4, p5, p6, p7⟩ := A1.out
        obtain ⟨-, q0, q1, q2, q3, q4, q5, q6, q7⟩ := A0.out
        have p0 := belowBy_cell zg p0; have q0 := belowBy_cell zg q0
        have p1 := belowBy_cell zg p1; have q1 := belowBy_cell zg q1
        have p2 := belowBy_cell zg p2; have q2 := belowBy_cell zg q2
        have p3 := belowBy_cell zg p3; have q3 := belowBy_cell zg q3
        have p4 := belowBy_cell zg p4; have q4 := belowBy_cell zg q4
        have p5 := belowBy_cell zg p5; have q5 := belowBy_cell zg q5
        have p6 := belowBy_cell zg p6; have q6 := belowBy_cell zg q6
        have p7 := belowBy_cell zg p7; have q7 := belowBy_cell zg q7
        go_wp2
        refine wp_region_below (by kernel_rfl) (by kernel_rfl) ?_
        repeat (first | go_big_quiet_step ((go_at_call 30; exact calls_below (compareBooks_any xs[m + 1] xs[m] (WF.out _ (List.getElem_mem _)) (WF.out _ (List.getElem_mem _)) _))) | quiet_step ((go_at_call 30; exact calls_below (compareBooks_any xs[m + 1] xs[m] (WF.out _ (List.getElem_mem _)) (WF.out _ (List.getElem_mem _)) _))))
        refine wpQuiet_nil ?_
        rintro wq ⟨⟨_, hq⟩, rfl⟩
        clear p0 p1 p2 p3 p4 p5 p6 p7 q0 q1 q2 q3 q4 q5 q6 q7
        have g1 := hb.trans (hq.mono hb.size)
        have OW := Lib.hid (ownsBelow OW0.out hq)
        generalize usual xs[m + 1] xs[m] = r at HO ⊢
        cases ho : outAt xs (m + 1)
        · have hd : 0 ≤ r := by have := HO.out.symm.trans ho; simpa using this
          have HH := Lib.hid ho
          clear ho
          go_wp2
          go_roundw
          case rel => exact ⟨m + 2, (m : Int) + 1 + 1, by omega, by omega, by go_num, by simpa [runsTo, HH.out] using OW.out, g1⟩
          case measure => simp [intOf]; omega
        · have hd : r < 0 := by have := HO.out.symm.trans ho; simpa using this
          have HH := Lib.hid ho
          clear ho
          go_wp2_with (at_builtin; refine wpList_append_own _ rfl (.tmp 25) (.tmp 27) _ rfl w.heap.size 2 i0 (.int .i64 0) 1 8 Tryd.underlying54 hi hz0 hz1 hz2 rfl (by decide) _ _ _ rfl (OW.out.alloc _) ⟨wq.heap.size, 0, none⟩ 1 1 [.int .i64 ((m : Int) + 1)] rfl rfl ?c1b ?c2b ?c3b ?c4b ?c5b ?_)
          case c1b => exact cell_one_new _ _ _
          case c2b => (intro u hu; simp at hu; subst hu; rfl)
          case c3b => (have := runsTo_length xs (m + 1); unfold maxLen; omega)
          case c4b => (have := runsTo_length xs (m + 1); omega)
          case c5b => (have := g1.size; simp; omega)
          intro v' w2 hown' hgrow' _
          have OW' := Lib.hid hown'
          have g2 : Below w.heap.size w w2 := (g1.alloc g1.size _).grown hgrow' (by have := g1.size; simp; omega) (fun k hk => (OW.out.lt k hk).1)
          clear hown' hgrow'
          go_wp2
          go_roundw
          case rel => exact ⟨m + 2, (m : Int) + 1 + 1, by omega, by omega, by go_num, by have h := OW'.out; rw [show runsTo xs (m + 2) = runsTo xs (m + 1) ++ [((m : Int) + 1)] by rw [runsTo]; simp [HH.out]]; simpa using h, g2⟩
          case measure => simp [intOf]; omega
    · obtain rfl : k = xs.length := by omega
      subst hx
      go_wp2
      go_ret
      exact ⟨_, rfl, OW0.out, hb⟩

end Go.Proofs.YtgmipobohnagnaaDoor
