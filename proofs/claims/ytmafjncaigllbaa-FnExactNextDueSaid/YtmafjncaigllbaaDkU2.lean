/- NextDue, by the program: the contract. Condition: no longer than slices can be, numbers within their kinds. -/
import Derived.Test.YtmafjncaigllbaaDkU
namespace Go.Proofs.Ytmafjncaigllbaa
set_option linter.unusedSimpArgs false
set_option linter.unusedVariables false
set_option maxRecDepth 100000
open Go.RowKit

set_option maxHeartbeats 8000000 in
theorem implNextDue_any (d : Dk) (wf : d.Wf ∧ ∀ c ∈ d.cs, c.q.length ≤ maxLen) (g : Nat) (w : World) (hs : CRowK w g g d.cs d.cs.length d.cs.length) (hn : d.cs.length ≤ maxLen) :
    Calls Try.prog 38 #[.agg #[.int .i16 d.day, .slice (some ⟨g, 0, none⟩) d.cs.length d.cs.length]] w fun e w' => e = .returned (.tuple #[.int .i64 (ndI (cnCs d 0)), .int .i64 (ndD (cnCs d 0)), .int .i64 (ndC (cnC d 0) (cnCs d 0))]) ∧ Below w.heap.size w w' := by
  have CO := Lib.hid (fun W (h : Below w.heap.size w W) => counterOf_any d wf 0 g W (hs.below h) hn)
  have G0 := Lib.hid (show Below w.heap.size w (w.alloc (.cells #[.int .i16 d.day, .slice (some ⟨g, 0, none⟩) d.cs.length d.cs.length] 30)) from (Below.refl _ _).alloc (Nat.le_refl _) _)
  have WF := Lib.hid wf
  clear wf hs
  rcases cn_cases d 0 with ⟨h1, h2, h3, h4⟩ | ⟨h1, hp, h2, h3, h4⟩ | ⟨h1, hp, h2, h3, h4⟩
  · rw [h2, h3, h4] at CO
    rw [h2, h4]
    clear h1 h2 h3 h4
    go_enter Try.func38, Try.ntmps38
    go_wp2_with fail
    generalize World.alloc w _ = W2 at G0 ⊢
    refine (CO.out _ G0.out).mono ?_
    rintro e w1 ⟨v, rfl, hit, k1⟩
    obtain ⟨A3, c3, rfl⟩ := hit.form
    have G1 := Lib.hid (bnext G0.out k1)
    clear hit k1
    go_wp2
    go_ret3
    exact ⟨rfl, G1.out.alloc G1.out.size _⟩
  · exact absurd hp (by decide)
  · rw [h2, h3, h4] at CO
    rw [h2, h4]
    have h60 := dk_60 h1
    clear h1 h2 h3 h4 hp
    go_enter Try.func38, Try.ntmps38
    go_wp2_with fail
    generalize World.alloc w _ = W2 at G0 ⊢
    refine (CO.out _ G0.out).mono ?_
    rintro e w1 ⟨v, rfl, hit, k1⟩
    obtain ⟨A3, c3, rfl⟩ := hit.form
    have HIT := Lib.hid hit
    have G1 := Lib.hid (bnext G0.out k1)
    have AX := Lib.hid (show Below w1.heap.size w1 (w1.alloc (.cells #[.int .i64 d.day, .slice A3 d.cs.length c3, .int .i64 0] 77)) from (Below.refl _ _).alloc (Nat.le_refl _) _)
    have X1 := Lib.hid (heap_alloc_new w1 (.cells #[.int .i64 d.day, .slice A3 d.cs.length c3, .int .i64 0] 77))
    have S1 := Lib.hid (show w1.heap.size < (w1.alloc (.cells #[.int .i64 d.day, .slice A3 d.cs.length c3, .int .i64 0] 77)).heap.size by simp)
    clear hit k1
    go_wp2_with fail
    generalize World.alloc w1 _ = W4 at AX X1 S1 ⊢
    refine (whereNextDue_any d.cs WF.out.1.cs WF.out.2 d.day _ _ _ (HIT.out.below AX.out) h60).mono ?_
    rintro e w5 ⟨u, rfl, ho, k5⟩
    have HO := Lib.hid (ownInts ho)
    obtain ⟨A6, c6, rfl⟩ := vlen_own1 ho
    have G5 := Lib.hid (bnext (bnext G1.out AX.out) k5)
    have X5 := Lib.hid ((k5.block w1.heap.size S1.out).trans X1.out)
    have S5 := Lib.hid (Nat.lt_of_lt_of_le S1.out k5.size)
    have IT5 := Lib.hid ((HIT.out.below AX.out).below k5)
    have WL := Lib.hid (wh_len d.cs lentB)
    have WM := Lib.hid (fun (x : Int) (hx : x ∈ wh d.cs lentB) => (whTo_mem d.cs.length x hx).2.2)
    have NT := nMin_to d.cs lentB d.cs.length
    rw [show whTo d.cs lentB d.cs.length = wh d.cs lentB from rfl] at NT
    clear ho k5
    rcases NT with ⟨h0, -⟩ | ⟨h0, j, hj, hm⟩
    · have E := Lib.hid (show ndI d.cs = 0 ∧ ndD d.cs = 0 ∧ ndC 0 d.cs = 6 by unfold ndI ndD ndC; rw [if_pos h0, if_pos h0, if_pos rfl, if_pos h0]; exact ⟨rfl, rfl, rfl⟩)
      rw [h0]
      clear h0
      go_wp2
      go_ret3
      exact ⟨by rw [E.out.1, E.out.2.1, E.out.2.2]; rfl, G5.out⟩
    · have E := Lib.hid (show ndI d.cs = (j : Int) ∧ ndD d.cs = d.cs[j].due ∧ ndC 0 d.cs = 0 by unfold ndI ndD ndC; rw [if_neg h0, if_neg h0, if_pos rfl, if_neg h0, hm, dueAt_nat hj]; exact ⟨rfl, rfl, rfl⟩)
      have hlen : (((wh d.cs lentB).length : Int) == 0) = false := by
        have := List.length_pos_iff.2 h0
        rw [beq_eq_false_iff_ne]
        omega
      have MD := Lib.hid (minDue_any d.cs _ _ w1.heap.size w5 IT5.out (cell_of_row w5 _ 1 _ _ _ X5.out) S5.out _ (wh d.cs lentB) HO.out h0 (fun x hx => by obtain ⟨i, hi, e, _⟩ := WM.out x hx; exact ⟨i, hi, e⟩) (by have := WL.out; omega))
      rw [hm] at MD
      clear h0 hm
      generalize wh d.cs lentB = L at *
      go_wp2_with fail
      refine MD.out.mono ?_
      rintro e w6 ⟨rfl, k6⟩
      have G6 := Lib.hid (bnext G5.out k6)
      have X6 := Lib.hid ((k6.block w1.heap.size S5.out).trans X5.out)
      have b1 : w6.cell? ⟨w1.heap.size, 1, none⟩ = some (.slice A3 d.cs.length c3) := cell_of_row w6 _ 1 _ _ _ X6.out
      obtain ⟨ga, rfl, -, hga, -, -, q2, -, -⟩ := (IT5.out.below k6).at_ hj
      generalize d.cs[j].due = x at *
      clear k6
      go_wp2
      go_quiet (fail)
      clear b1 q2
      go_wp2
      go_ret3
      exact ⟨by rw [E.out.1, E.out.2.1, E.out.2.2]; rfl, below_drewN G6.out _⟩
end Go.Proofs.Ytmafjncaigllbaa
