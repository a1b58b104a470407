/- How long to wait for a book, by the model and by the program: contracts. Condition: no longer than slices can be, numbers within their kinds. -/
import Derived.Test.YtmafjncaigllbaaDkG
namespace Go.Proofs.Ytmafjncaigllbaa
set_option linter.unusedSimpArgs false
set_option linter.unusedVariables false
set_option maxRecDepth 100000
open Go.RowKit

def maxZ (x : Int) : Int := if 0 < x then x else 0
def waitI (c : Cp) (day p : Int) : Int := maxZ (c.due - day) + (if c.st = 2 then 28 else 0) + p * 35
noncomputable def waitV (d : Dk) (who book : Int) : Int := if placeC d who book = 0 then waitI (askP d who book) d.day (placeV d who book) else 0
theorem wait_cases (d : Dk) (who book : Int) : (¬ askC d who book = 0 ∧ placeV d who book = 0 ∧ placeC d who book = askC d who book ∧ waitV d who book = 0) ∨ (dkB d = true ∧ askC d who book = 0 ∧ ∃ (n : Nat) (hn : n < d.cs.length), book = (n : Int) ∧ askP d who book = d.cs[n] ∧ ((placeI d.cs[n].q who < 0 ∧ placeV d who book = 0 ∧ placeC d who book = 6 ∧ waitV d who book = 0) ∨ (∃ m : Nat, m < 4 ∧ placeI d.cs[n].q who = (m : Int) ∧ placeV d who book = (m : Int) ∧ placeC d who book = 0 ∧ waitV d who book = waitI d.cs[n] d.day m))) := by
  unfold waitV
  rcases place_cases d who book with ⟨h1, h2, h3⟩ | ⟨h0, -, h1, n, hn, h2, -, h4, h5⟩
  · exact .inl ⟨h1, h2, h3, by rw [h3, if_neg h1]⟩
  · refine .inr ⟨h0, h1, n, hn, h2, h4, ?_⟩
    rcases h5 with ⟨h5, h6, h7⟩ | ⟨h5, h6, h7⟩
    · exact .inl ⟨h5, h6, h7, by rw [h7]; rfl⟩
    · have hl := placeI_lt d.cs[n].q who
      have h4q := cp_q4 ((dk_of h0).cp n hn)
      refine .inr ⟨(placeI d.cs[n].q who).toNat, by omega, by omega, by omega, h7, ?_⟩
      rw [h7, if_pos rfl, h4, h6]
      congr 1
      omega

set_option maxHeartbeats 8000000 in
theorem specWaitAtMost_any (d : Dk) (hv : Value) (wf : d.Wf ∧ ∀ c ∈ d.cs, c.q.length ≤ maxLen) (who book : Int) (w : World) (hs : CpsOf w hv d.cs) (hn : d.cs.length ≤ maxLen) :
    Calls Try.prog 43 #[.agg #[.int .i16 d.day, hv], .int .i64 who, .int .i64 book] w fun e w' => e = .returned (.tuple #[.int .i64 (waitV d who book), .int .i64 (placeC d who book)]) ∧ Below w.heap.size w w' := by
  have HD := Lib.hid (DkAt.new (t := 30) hs)
  have WF := Lib.hid wf
  have AK := Lib.hid (fun W (h : DkAt W w.heap.size d hv) => l06Asked_any d hv wf who book w.heap.size W h hn)
  obtain ⟨A, c, rfl, -⟩ := hs
  have G0 := Lib.hid (show Below w.heap.size w (w.alloc (.cells #[.int .i16 d.day, .slice A d.cs.length c] 30)) from (Below.refl _ _).alloc (Nat.le_refl _) _)
  obtain ⟨y1, y2⟩ := wf.1.day
  clear wf
  rcases wait_cases d who book with ⟨h1, -, h2, h3⟩ | ⟨-, h1, n, hlt, rfl, -, h4⟩
  · rw [h2, h3]
    clear h2 h3
    generalize askC d who book = k at h1 AK ⊢
    have hk : (k != 0) = true := by simpa using h1
    go_enter Try.func43, Try.ntmps43
    go_wp2_with fail
    generalize World.alloc w _ = W at HD G0 ⊢
    refine (AK.out _ HD.out).mono ?_
    rintro e w1 ⟨rfl, g1⟩
    go_wp2
    go_ret2
    exact ⟨rfl, bnext G0.out g1⟩
  · rw [h1] at AK
    have PL := Lib.hid (fun W u (h : IntsOf .i8 W u d.cs[n].q) => l06Place_any u d.cs[n].q who W h ((WF.out.1.cs _ (List.getElem_mem hlt)).q) (WF.out.2 _ (List.getElem_mem hlt)))
    clear h1
    rcases h4 with ⟨hp, -, h2, h3⟩ | ⟨m, hm, hp, -, h2, h3⟩
    · rw [h2, h3]
      clear h2 h3
      generalize placeI d.cs[n].q who = p at hp PL ⊢
      go_enter Try.func43, Try.ntmps43
      go_wp2_with fail
      generalize World.alloc w _ = W at HD G0 ⊢
      refine (AK.out _ HD.out).mono ?_
      rintro e w1 ⟨rfl, g1⟩
      have G1 := Lib.hid (bnext G0.out g1)
      obtain ⟨-, c1, hg, hs⟩ := HD.out.below g1
      obtain ⟨ga, oa, rfl, hga, -, -, -, -, u, c4, hq⟩ := hs.in0 hlt
      have CL := Lib.hid (PL.out w1 u hq)
      obtain ⟨A2, k2, rfl, -⟩ := hq
      clear hs g1
      go_wp2_with fail
      refine CL.out.mono ?_
      rintro e w' ⟨rfl, rfl⟩
      go_wp2
      go_ret2
      exact ⟨rfl, G1.out⟩
    · rw [h2, h3]
      rw [hp] at PL
      clear h2 h3 hp
      have WK := WF.out.1.cs _ (List.getElem_mem hlt)
      obtain ⟨⟨s1, s2⟩, -, ⟨d1, d2⟩, -, -⟩ := WK
      have EW := Lib.hid (show waitI d.cs[n] d.day m = maxZ (d.cs[n].due - d.day) + (if d.cs[n].st = 2 then 28 else 0) + (m : Int) * 35 from rfl)
      obtain ⟨z, hz⟩ : ∃ z, z = maxZ (d.cs[n].due - d.day) := ⟨_, rfl⟩
      have LX := Lib.hid (fun W => l00Max_any 0 (d.cs[n].due - d.day) z (by rw [hz]; rfl) W)
      have hz0 : 0 ≤ z ∧ z ≤ 70000 := by rw [hz]; unfold maxZ; split <;> omega
      rw [← hz] at EW
      obtain ⟨z0, z1⟩ := hz0
      clear hz
      go_enter Try.func43, Try.ntmps43
      go_wp2_with fail
      generalize World.alloc w _ = W at HD G0 ⊢
      refine (AK.out _ HD.out).mono ?_
      rintro e w1 ⟨rfl, g1⟩
      have G1 := Lib.hid (bnext G0.out g1)
      obtain ⟨c0, c1, hg, hs⟩ := HD.out.below g1
      obtain ⟨ga, oa, rfl, hga, p0, -, p2, -, u, c4, hq⟩ := hs.in0 hlt
      have CL := Lib.hid (PL.out w1 u hq)
      obtain ⟨A2, k2, rfl, -⟩ := hq
      clear hs g1
      go_wp2_with fail
      refine CL.out.mono ?_
      rintro e w' ⟨rfl, rfl⟩
      have Z1 := hg
      have c0q := belowBy_cell hg c0
      have p2q := belowBy_cell hga p2
      generalize hdu : d.cs[n].due = du at *
      generalize hst : d.cs[n].st = stt at *
      have HW1 := Lib.hid p0
      have HC0 := Lib.hid c0
      clear c0 p2 c4 c1
      go_wp2
      refine wp_region_below (by kernel_rfl) (by kernel_rfl) ?_
      repeat (first | go_big_quiet_step ((go_at_call 84; exact calls_same_below (LX.out _))) | quiet_step ((go_at_call 84; exact calls_same_below (LX.out _))))
      refine wpQuiet_nil ?_
      rintro wq ⟨⟨_, hq⟩, rfl⟩
      have p0 := (hq.cell (p := ⟨ga, oa + n * 5, none⟩) hga).trans HW1.out
      have GQ := Lib.hid (bnext G1.out hq)
      clear c0q p2q
      by_cases hs2 : stt = 2
      · subst hs2
        have E2 := Lib.hid (show waitI d.cs[n] d.day m = z + 28 + (m : Int) * 35 by rw [EW.out, if_pos rfl])
        go_wp2
        go_ret2
        exact ⟨by rw [E2.out]; rfl, GQ.out⟩
      · have E2 := Lib.hid (show waitI d.cs[n] d.day m = z + (m : Int) * 35 by rw [EW.out, if_neg hs2]; omega)
        go_wp2
        go_ret2
        exact ⟨by rw [E2.out]; rfl, GQ.out⟩
set_option maxHeartbeats 8000000 in
theorem waitAtMost_any (d : Dk) (wf : d.Wf ∧ ∀ c ∈ d.cs, c.q.length ≤ maxLen) (who book : Int) (g : Nat) (w : World) (hs : CRowK w g g d.cs d.cs.length d.cs.length) (hn : d.cs.length ≤ maxLen) :
    Calls Try.prog 44 #[.agg #[.int .i16 d.day, .slice (some ⟨g, 0, none⟩) d.cs.length d.cs.length], .int .i64 who, .int .i64 book] w fun e w' => e = .returned (.tuple #[.int .i64 (waitV d who book), .int .i64 (placeC d who book)]) ∧ Below w.heap.size w w' := by
  have PQ := Lib.hid (fun W (h : Below w.heap.size w W) => placeInQueue_any d wf who book g W (hs.below h) hn)
  have HS := Lib.hid hs
  have WF := Lib.hid wf
  obtain ⟨y1, y2⟩ := wf.1.day
  clear wf hs
  have G0 := Lib.hid (show Below w.heap.size w (w.alloc (.cells #[.int .i16 d.day, .slice (some ⟨g, 0, none⟩) d.cs.length d.cs.length] 30)) from (Below.refl _ _).alloc (Nat.le_refl _) _)
  have X0 := Lib.hid (heap_alloc_new w (.cells #[.int .i16 d.day, .slice (some ⟨g, 0, none⟩) d.cs.length d.cs.length] 30))
  have Y0 := Lib.hid (show w.heap.size < (w.alloc (.cells #[.int .i16 d.day, .slice (some ⟨g, 0, none⟩) d.cs.length d.cs.length] 30)).heap.size by simp)
  have KK : (¬ placeC d who book = 0 ∧ waitV d who book = 0) ∨ (∃ (n : Nat) (hlt : n < d.cs.length) (m : Nat), m < 4 ∧ book = (n : Int) ∧ placeV d who book = (m : Int) ∧ placeC d who book = 0 ∧ waitV d who book = waitI d.cs[n] d.day m) := by
    rcases wait_cases d who book with ⟨h1, -, h2, h3⟩ | ⟨-, -, n, hlt, h0, -, h4⟩
    · exact .inl ⟨by rw [h2]; exact h1, h3⟩
    · rcases h4 with ⟨-, -, h2, h3⟩ | ⟨m, hm, -, h1, h2, h3⟩
      · exact .inl ⟨by rw [h2]; decide, h3⟩
      · exact .inr ⟨n, hlt, m, hm, h0, h1, h2, h3⟩
  rcases KK with ⟨h1, h2⟩ | ⟨n, hlt, m, hm, rfl, h1, h2, h3⟩
  · rw [h2]
    have hk : (placeC d who book != 0) = true := by simpa using h1
    clear h1 h2
    generalize placeV d who book = pv at *
    generalize placeC d who book = k at *
    go_enter Try.func44, Try.ntmps44
    go_wp2_with fail
    generalize World.alloc w _ = W at G0 X0 Y0 ⊢
    refine (PQ.out _ G0.out).mono ?_
    rintro e w1 ⟨rfl, k1⟩
    have G1 := Lib.hid (bnext G0.out k1)
    go_wp2
    go_ret2
    exact ⟨rfl, G1.out⟩
  · rw [h2, h3]
    rw [h1, h2] at PQ
    clear h1 h2 h3
    have WK := Lib.hid (WF.out.1.cs _ (List.getElem_mem hlt))
    have EW := Lib.hid (show waitI d.cs[n] d.day m = maxZ (d.cs[n].due - d.day) + (if d.cs[n].st = 2 then 28 else 0) + (m : Int) * 35 from rfl)
    obtain ⟨x, hx⟩ : ∃ x, x = d.cs[n] := ⟨_, rfl⟩
    rw [← hx] at WK EW ⊢
    have HX := Lib.hid hx
    clear hx
    obtain ⟨st, wh, due, ren, q⟩ := x
    go_enter Try.func44, Try.ntmps44
    go_wp2_with fail
    generalize World.alloc w _ = W at G0 X0 Y0 ⊢
    refine (PQ.out _ G0.out).mono ?_
    rintro e w1 ⟨rfl, k1⟩
    have G1 := Lib.hid (bnext G0.out k1)
    have X1 := Lib.hid ((k1.block w.heap.size Y0.out).trans X0.out)
    have L1 := Lib.hid (Nat.lt_of_lt_of_le Y0.out k1.size)
    have a1 : w1.cell? ⟨w.heap.size, 1, none⟩ = some (.slice (some ⟨g, 0, none⟩) d.cs.length d.cs.length) := cell_of_row w1 _ 1 _ _ _ X1.out
    obtain ⟨p0, p1, p2, p3, gi, p4, -⟩ := (HS.out.below G1.out).in_ hlt
    clear k1
    rw [← HX.out] at p0 p1 p2 p3 p4
    dsimp only at p0 p1 p2 p3 p4 WK
    go_wp2_with fail
    refine (loanOf_any ⟨st, wh, due, ren, q⟩ WK.out _ _).mono ?_
    rintro e w2 ⟨rfl, k2⟩
    have G2 := Lib.hid (bnext G1.out k2)
    have X2 := Lib.hid ((k2.block w.heap.size L1.out).trans X1.out)
    have L2 := Lib.hid (Nat.lt_of_lt_of_le L1.out k2.size)
    have A2 := Lib.hid (show Below w2.heap.size w2 (w2.alloc (.cells #[.int .i64 st, .int .i64 wh, .int .i64 due, .int .i64 ren] 82)) from (Below.refl _ _).alloc (Nat.le_refl _) _)
    have a0 := (A2.out.cell (p := ⟨w.heap.size, 0, none⟩) L2.out).trans (cell_of_row w2 _ 0 _ _ _ X2.out)
    simp only [List.getElem?_toArray, List.getElem?_cons_zero] at a0
    have l2 := L2.out
    obtain ⟨⟨s1, s2⟩, -, ⟨d1, d2⟩, -, -⟩ := WK.out
    dsimp only at s1 s2 d1 d2
    clear k2 p0 p1 p2 p3 p4 a1
    by_cases hz : 0 < due - d.day
    · have hz1 : (0 : Int) ≤ due - d.day := by omega
      have hz2 : ¬ due - d.day < 0 := by omega
      have hz3 : ¬ due - d.day ≤ 0 := by omega
      by_cases hs2 : st = 2
      · subst hs2
        have E := Lib.hid (show waitI ⟨2, wh, due, ren, q⟩ d.day m = (due - d.day) + (m : Int) * 35 + 28 by rw [EW.out]; unfold maxZ; rw [if_pos hz]; simp; omega)
        go_wp2
        go_ret2
        exact ⟨by rw [E.out]; first | rfl | (simp; done) | (simp; omega), bnext G2.out A2.out⟩
      · have E := Lib.hid (show waitI ⟨st, wh, due, ren, q⟩ d.day m = (due - d.day) + (m : Int) * 35 by rw [EW.out]; unfold maxZ; rw [if_pos hz, if_neg hs2]; omega)
        go_wp2
        go_ret2
        exact ⟨by rw [E.out]; first | rfl | (simp; done) | (simp; omega), bnext G2.out A2.out⟩
    · have hz1 : due - d.day ≤ 0 := by omega
      by_cases hs2 : st = 2
      · subst hs2
        have E := Lib.hid (show waitI ⟨2, wh, due, ren, q⟩ d.day m = 0 + (m : Int) * 35 + 28 by rw [EW.out]; unfold maxZ; rw [if_neg hz]; simp; omega)
        go_wp2
        go_ret2
        exact ⟨by rw [E.out]; first | rfl | (simp; done) | (simp; omega), bnext G2.out A2.out⟩
      · have E := Lib.hid (show waitI ⟨st, wh, due, ren, q⟩ d.day m = 0 + (m : Int) * 35 by rw [EW.out]; unfold maxZ; rw [if_neg hz, if_neg hs2]; omega)
        go_wp2
        go_ret2
        exact ⟨by rw [E.out]; first | rfl | (simp; done) | (simp; omega), bnext G2.out A2.out⟩
end Go.Proofs.Ytmafjncaigllbaa
