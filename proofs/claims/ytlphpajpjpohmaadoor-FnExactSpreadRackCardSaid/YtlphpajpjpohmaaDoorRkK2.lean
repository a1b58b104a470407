/- TakeBook, by the program: a contract. Condition: at most 1048576 books, whose numbers lie within their kinds; the two error variables hold errors of errors.New's make. -/
import Derived.Test.YtlphpajpjpohmaaDoorRkK
namespace Go.Proofs.YtlphpajpjpohmaaDoor
set_option linter.unusedSimpArgs false
set_option linter.unusedVariables false
set_option maxRecDepth 100000
open Go.RowKit Go.Sort

set_option maxHeartbeats 400000 in
theorem within64R (n low high : Int) (w : World) :
    Calls Tryd.prog 73 #[.int .i64 n, .int .i64 low, .int .i64 high] w fun e w' => e = .returned (.bool (inB n low high)) ∧ w = w' := by
  by_cases h1 : low ≤ n
  · by_cases h2 : n ≤ high
    · go_enter Tryd.func73, Tryd.ntmps73
      go_wp2
      go_ret
      exact ⟨by simp [inB, h1, h2], rfl⟩
    · have h2' : high < n := by omega
      go_enter Tryd.func73, Tryd.ntmps73
      go_wp2
      go_ret
      exact ⟨by simp [inB, h1, h2], rfl⟩
  · have h1' : n < low := by omega
    go_enter Tryd.func73, Tryd.ntmps73
    go_wp2
    go_ret
    exact ⟨by simp [inB]; omega, rfl⟩

set_option maxHeartbeats 16000000 in
theorem takeBook_any (r : Rk) (hv : Value) (wf : r.Wf) (a : Int) (w : World) (s i : Addr) (he : Er2 w s i) (hs : PlsOf w hv r.ps) (hn : r.ps.length ≤ 1048576) :
    Calls Tryd.prog 39 #[.agg #[.int .i16 r.n, hv], .int .i64 a] w fun e w' => ∃ u, e = .returned (.tuple #[.agg #[.int .i16 (tbN r a), u], .int .i64 (tbC r a)]) ∧ ResN Pl.cells 99 w' w.heap.size u (tbL r a) ∧ Below w.heap.size w w' := by
  have HE := Lib.hid he
  have WF := Lib.hid wf
  have HS := Lib.hid hs
  obtain ⟨A, c, rfl, -⟩ := hs
  have G0 := Lib.hid (show Below w.heap.size w ((w.alloc (.cells #[.int .i16 r.n, .slice A r.ps.length c] 30)).alloc (.cells #[.int .i16 0, .slice none 0 0] 30)) by go_grown)
  have K1 := Lib.hid (show ((w.alloc (.cells #[.int .i16 r.n, .slice A r.ps.length c] 30)).alloc (.cells #[.int .i16 0, .slice none 0 0] 30)).heap[w.heap.size + 1]? = some (.cells #[.int .i16 0, .slice none 0 0] 30 (0, 0)) from by
    have := heap_alloc_new (w.alloc (.cells #[.int .i16 r.n, .slice A r.ps.length c] 30)) (.cells #[.int .i16 0, .slice none 0 0] 30)
    rwa [World.size_alloc] at this)
  have TC := Lib.hid (tb_cases r a)
  clear he wf
  go_enter Tryd.func39, Tryd.ntmps39
  go_wp2_with fail
  generalize (w.alloc _).alloc _ = w0 at G0 K1 ⊢
  refine (placesOf_any r _ WF.out _ s i (HE.out.below G0.out) (HS.out.below G0.out) hn).mono ?_
  rintro e w1 ⟨v, rfl, hp, g1⟩
  have B1 := Lib.hid (bnext G0.out g1)
  have zz0 : w.heap.size + 1 < w0.heap.size := (Array.getElem?_eq_some_iff.1 K1.out).1
  have R1 := Lib.hid ((g1.block _ zz0).trans K1.out)
  have zz1 := g1.size
  clear g1
  rcases TC.out with ⟨hk, e1, e2, e3⟩ | ⟨hk, hin, e1, e2, e3⟩ | ⟨hk, hin, ht, e1, e2, e3⟩ | ⟨hk, hin, ht, e1, e2, e3⟩
  · have E := Lib.hid (And.intro e1 (And.intro e2 e3))
    obtain rfl := hp.no hk
    rw [show rkC r = 1 by unfold rkC; rw [hk]; rfl]
    clear e1 e2 e3 hk hp
    have b0 := cell_of_row w1 _ 0 _ _ _ R1.out
    have b1 := cell_of_row w1 _ 1 _ _ _ R1.out
    have fz := fun j => frozen_of_row w1 _ j _ _ R1.out
    simp only [List.getElem?_toArray, List.getElem?_cons_zero, List.getElem?_cons_succ] at b0 b1
    go_wp2
    refine bodyPost_ret (v := .tuple #[.agg #[.int .i16 0, .slice none 0 0], .int .i64 1]) (by simp [results, Tryd.results39, go_sem, b0, b1]) rfl ?_
    refine ⟨.slice none 0 0, by rw [E.out.1, E.out.2.2], by rw [E.out.2.1]; exact ResN.nil _ _ _, ?_⟩
    repeat (refine Below.setCell ?_ (by first | (simp; done) | (simp; omega) | omega) _)
    exact B1.out
  all_goals
    have E := Lib.hid (And.intro e1 (And.intro e2 e3))
    obtain ⟨g, rfl, hg, hr⟩ := hp.ok hk
    rw [show rkC r = 0 by unfold rkC; rw [hk]; rfl]
    obtain ⟨en, en1, en2, e4⟩ := rk_nat hk
    have HR := Lib.hid hr
    have PT := Lib.hid e4
    have PLN := Lib.hid (plc_length r.n.toNat r.ps)
    have TK := Lib.hid (fun (k : Nat) (hk2 : k < (plc r.n.toNat r.ps).length) => show (plc r.n.toNat r.ps)[k].t = tkB r.ps k by
      have := plc_tk e4 (j := k) (by rw [plc_length] at hk2; exact hk2)
      rwa [getD_pc (List.getElem?_eq_getElem hk2)] at this)
    obtain ⟨n, hnn⟩ : ∃ n, r.n.toNat = n := ⟨_, rfl⟩
    rw [hnn] at en en1 en2 HR PT PLN TK ⊢
    have EN := Lib.hid en
    rw [en] at hin
    clear e1 e2 e3 hk hp hr e4 hnn en
    have n0 : (n : Int) ≤ 60 := by omega
    have zg := HR.out.lt
    go_wp2_with fail
    refine (within64R _ _ _ _).mono ?_
    rintro e w' ⟨rfl, rfl⟩
    rw [hin]
  · clear hin
    have b0 := cell_of_row w1 _ 0 _ _ _ R1.out
    have b1 := cell_of_row w1 _ 1 _ _ _ R1.out
    have fz := fun j => frozen_of_row w1 _ j _ _ R1.out
    simp only [List.getElem?_toArray, List.getElem?_cons_zero, List.getElem?_cons_succ] at b0 b1
    go_wp2
    refine bodyPost_ret (v := .tuple #[.agg #[.int .i16 0, .slice none 0 0], .int .i64 2]) (by simp [results, Tryd.results39, go_sem, b0, b1]) rfl ?_
    refine ⟨.slice none 0 0, by rw [E.out.1, E.out.2.2], by rw [E.out.2.1]; exact ResN.nil _ _ _, ?_⟩
    repeat (refine Below.setCell ?_ (by first | (simp; done) | (simp; omega) | omega) _)
    exact B1.out
  all_goals
    obtain ⟨m, rfl⟩ : ∃ m : Nat, a = (m : Int) := ⟨a.toNat, by unfold inB at hin; simp at hin; omega⟩
    have hmn : m < n := by unfold inB at hin; simp at hin; omega
    rw [Int.toNat_natCast] at ht
    have hq : m < (plc n r.ps).length := by rw [PLN.out]; exact hmn
    obtain ⟨p0, -⟩ := pcAt_some (RowN.at_ (show RowN Pc.cells 101 w1 g (plc n r.ps) (plc n r.ps).length n by rw [PLN.out]; exact HR.out)) hq
    rw [TK.out m hq, ht, Nat.zero_add] at p0
    have m0 : (0 : Int) ≤ (m : Int) := by omega
    have m1 : (m : Int) < (n : Int) := by omega
    clear hin
  · clear ht
    have b0 := cell_of_row w1 _ 0 _ _ _ R1.out
    have b1 := cell_of_row w1 _ 1 _ _ _ R1.out
    have fz := fun j => frozen_of_row w1 _ j _ _ R1.out
    simp only [List.getElem?_toArray, List.getElem?_cons_zero, List.getElem?_cons_succ] at b0 b1
    go_wp2
    refine bodyPost_ret (v := .tuple #[.agg #[.int .i16 0, .slice none 0 0], .int .i64 6]) (by simp [results, Tryd.results39, go_sem, b0, b1]) rfl ?_
    refine ⟨.slice none 0 0, by rw [E.out.1, E.out.2.2], by rw [E.out.2.1]; exact ResN.nil _ _ _, ?_⟩
    repeat (refine Below.setCell ?_ (by first | (simp; done) | (simp; omega) | omega) _)
    exact B1.out
  · clear ht
    obtain ⟨⟨u0, q0⟩, ⟨u1, q1⟩, ⟨u2, q2⟩, ⟨u3, q3⟩, ⟨u4, q4⟩, ⟨u5, q5⟩, ⟨u6, q6⟩, ⟨u7, q7⟩, ⟨u8, q8⟩⟩ := HR.out.cells9 m hmn
    have fz := HR.out.frozen
    have hgR : g ≠ w.heap.size + 1 := by omega
    have HR2 := Lib.hid (show RowN Pc.cells 101 (set9 w1 g (m * 9) (.bool false) (.int .i16 0) (.int .u8 0) (.int .u8 0) (.int .u8 0) (.int .i16 0) (.int .i16 0) (.int .i16 0) (.int .i16 0)) g (plc n (outL r.ps m)) n n by
      rw [← out_plc PT.out m hmn]
      exact HR.out.put m (by rw [PLN.out]; exact hmn) hmn pc0 _ _ _ _ _ _ _ _ _ rfl Pc.nine (by rw [PLN.out]; exact Nat.le_refl _))
    have R12 := Lib.hid (set9_far (v0 := .bool false) (v1 := .int .i16 0) (v2 := .int .u8 0) (v3 := .int .u8 0) (v4 := .int .u8 0) (v5 := .int .i16 0) (v6 := .int .i16 0) (v7 := .int .i16 0) (v8 := .int .i16 0) (o := m * 9) R1.out (Ne.symm hgR))
    have B2 := Lib.hid (set9_below (v0 := .bool false) (v1 := .int .i16 0) (v2 := .int .u8 0) (v3 := .int .u8 0) (v4 := .int .u8 0) (v5 := .int .i16 0) (v6 := .int .i16 0) (v7 := .int .i16 0) (v8 := .int .i16 0) (o := m * 9) B1.out (show w.heap.size ≤ g by omega))
    have PO := Lib.hid (plq_plc (outL_pos PT.out (m : Int)))
    have PL2 := Lib.hid (plc_length n (outL r.ps m))
    go_wp2_with fail
    change Calls _ _ _ (set9 w1 g (m * 9) (.bool false) (.int .i16 0) (.int .u8 0) (.int .u8 0) (.int .u8 0) (.int .i16 0) (.int .i16 0) (.int .i16 0) (.int .i16 0)) _
    generalize set9 w1 _ _ _ _ _ _ _ _ _ _ _ = w2 at HR2 R12 B2 ⊢
    clear q0 q1 q2 q3 q4 q5 q6 q7 q8 fz p0
    have hsl : PcsOf w2 (.slice (some ⟨g, 0, none⟩) n n) (plc n (outL r.ps m)) := RowN.sl HR2.out PL2.out
    have RC := Lib.hid (rack_any _ (plc n (outL r.ps m)) w2 hsl (by rw [PL2.out]; exact en2))
    clear hsl
    refine RC.out.mono ?_
    rintro e w3 ⟨u, rfl, hres, g3⟩
    rw [PO.out] at hres
    rw [PL2.out]
    have RS := Lib.hid hres
    obtain ⟨Au, nu, cu, rfl⟩ := hres.form
    have zR2 : w.heap.size + 1 < w2.heap.size := (Array.getElem?_eq_some_iff.1 R12.out).1
    have R13 := Lib.hid ((g3.block _ zR2).trans R12.out)
    have B3 := Lib.hid (bnext B2.out g3)
    clear hres g3
    have b0 := cell_of_row w3 _ 0 _ _ _ R13.out
    have b1 := cell_of_row w3 _ 1 _ _ _ R13.out
    have fz := fun j => frozen_of_row w3 _ j _ _ R13.out
    simp only [List.getElem?_toArray, List.getElem?_cons_zero, List.getElem?_cons_succ] at b0 b1
    have E1 := Lib.hid (only_set2 (only_set2 (World.grownBy.refl w3 (some (w.heap.size + 1))) 0 (.int .i16 (n : Int))) 1 (.slice Au nu cu))
    have E2 := Lib.hid (RS.out.other E1.out (fun p hp e => by
      have := (RS.out.lt p hp).1
      have h2 : p = w.heap.size + 1 := by injection e
      omega))
    have zlo : w.heap.size ≤ w2.heap.size := by omega
    go_wp2
    refine bodyPost_ret (v := .tuple #[.agg #[.int .i16 (n : Int), .slice Au nu cu], .int .i64 0]) (by simp [results, Tryd.results39, go_sem, b0, b1]) rfl ?_
    refine ⟨_, by rw [E.out.1, E.out.2.2, ← EN.out], by rw [E.out.2.1]; exact E2.out.mono zlo, ?_⟩
    repeat (refine Below.setCell ?_ (by first | (simp; done) | (simp; omega) | omega) _)
    exact B3.out
end Go.Proofs.YtlphpajpjpohmaaDoor
