/- The least height that is high enough, by the model and by the program: contracts. Condition: numbers within their kinds. -/
import Derived.Test.YtjfhpgomaahgoaaFrom
namespace Go.Proofs.Ytjfhpgomaahgoaa
set_option linter.unusedSimpArgs false
set_option linter.unusedVariables false
set_option maxRecDepth 100000
open Go.RowKit

def pfV (p : Pg) (h : Int) : Int := if pegsB p && inB h 0 1000 then (fromV p h).getD 0 else 0
def pfC (p : Pg) (h : Int) : Int := if pegsB p = false then 1 else if inB h 0 1000 = false then 2 else if fromV p h = none then 6 else 0
theorem pf_cases (p : Pg) (h : Int) : (pegsB p = false ∧ pfV p h = 0 ∧ pfC p h = 1) ∨ (pegsB p = true ∧ inB h 0 1000 = false ∧ pfV p h = 0 ∧ pfC p h = 2) ∨
    (pegsB p = true ∧ inB h 0 1000 = true ∧ 1000 < pegV p h ∧ fromV p h = none ∧ pfV p h = 0 ∧ pfC p h = 6) ∨ (pegsB p = true ∧ inB h 0 1000 = true ∧ pegV p h ≤ 1000 ∧ fromV p h = some (pegV p h) ∧ pfV p h = pegV p h ∧ pfC p h = 0) := by
  cases h1 : pegsB p
  · exact .inl ⟨rfl, by simp [pfV, h1], by simp [pfC, h1]⟩
  · cases h2 : inB h 0 1000
    · exact .inr (.inl ⟨rfl, rfl, by simp [pfV, h2], by simp [pfC, h1, h2]⟩)
    · have hh : h ≤ 1000 := by unfold inB at h2; simp at h2; omega
      have e := fromV_eq h1 hh
      by_cases h3 : pegV p h ≤ 1000
      · rw [if_pos h3] at e
        exact .inr (.inr (.inr ⟨rfl, rfl, h3, e, by simp [pfV, h1, h2, e], by simp [pfC, h1, h2, e]⟩))
      · rw [if_neg h3] at e
        exact .inr (.inr (.inl ⟨rfl, rfl, by omega, e, by simp [pfV, h1, h2, e], by simp [pfC, h1, h2, e]⟩))

theorem w16_any (n low high : Int) (w : World) : Calls Try.prog 64 #[.int .i64 n, .int .i64 low, .int .i64 high] w fun e w' => e = .returned (.bool (inB n low high)) ∧ w = w' := by
  by_cases h1 : low ≤ n
  · by_cases h2 : n ≤ high
    · go_enter Try.func64, Try.ntmps64
      go_wp2
      go_ret
      exact ⟨by simp [inB, h1, h2], rfl⟩
    · go_enter Try.func64, Try.ntmps64
      go_wp2
      go_ret
      exact ⟨by simp [inB, h1, h2], rfl⟩
  · have h1' : n < low := by omega
    go_enter Try.func64, Try.ntmps64
    go_wp2
    go_ret
    exact ⟨by simp [inB, show ¬ low ≤ n from by omega], rfl⟩

set_option maxHeartbeats 4000000 in
theorem specPegFor_any (p : Pg) (wf : p.Wf) (h : Int) (w : World) (hl : -9223372036854775808 ≤ h) (hu : h ≤ 9223372036854775807) :
    Calls Try.prog 22 #[.agg #[.int .i16 p.lo, .int .i16 p.st, .int .i16 p.bo], .int .i64 h] w fun e w' => e = .returned (.tuple #[.int .i64 (pfV p h), .int .i64 (pfC p h)]) ∧ Below w.heap.size w w' := by
  have HN := Lib.hid (PegIn.new w p 26)
  have G0 := Lib.hid (show Below w.heap.size w (w.alloc (.cells #[.int .i16 p.lo, .int .i16 p.st, .int .i16 p.bo] 26)) by go_grown)
  have Z0 := Lib.hid (show w.heap.size < (w.alloc (.cells #[.int .i16 p.lo, .int .i16 p.st, .int .i16 p.bo] 26)).heap.size by simp)
  have WF := Lib.hid wf
  clear wf
  rcases pf_cases p h with ⟨h1, h2, h3⟩ | ⟨h1, h4, h2, h3⟩ | ⟨h1, h4, h5, h6, h2, h3⟩ | ⟨h1, h4, h5, h6, h2, h3⟩
  · have E := Lib.hid h2
    have E2 := Lib.hid h3
    clear h2 h3
    go_enter Try.func22, Try.ntmps22
    go_wp2_with fail
    refine (l04Pegs_any p WF.out _).mono ?_
    rintro e w1 ⟨rfl, g1⟩
    rw [h1]
    go_wp2
    go_ret2
    exact ⟨by rw [E.out, E2.out]; rfl, bnext G0.out g1⟩
  · have E := Lib.hid h2
    have E2 := Lib.hid h3
    clear h2 h3
    go_enter Try.func22, Try.ntmps22
    go_wp2_with fail
    refine (l04Pegs_any p WF.out _).mono ?_
    rintro e w1 ⟨rfl, g1⟩
    rw [h1]
    go_wp2_with (go_at_call 62; refine (l00In_any _ _ _ _).mono ?_; rintro e w' ⟨rfl, rfl⟩)
    go_ret2
    exact ⟨by rw [E.out, E2.out]; rfl, bnext G0.out g1⟩
  · have E := Lib.hid h2
    have E2 := Lib.hid h3
    have HP := Lib.hid h1
    have hh : h ≤ 1000 := by unfold inB at h4; simp at h4; omega
    have hV := (pegV_bounds h1 hh).2.1
    have CC := Lib.hid (fun W => l04Peg_any p h W HP.out hl hh)
    generalize pegV p h = V at h5 CC hV
    clear h2 h3 h6
    go_enter Try.func22, Try.ntmps22
    go_wp2_with fail
    refine (l04Pegs_any p WF.out _).mono ?_
    rintro e w1 ⟨rfl, g1⟩
    rw [h1]
    obtain ⟨c0, c1, c2⟩ := HN.out.below g1 Z0.out
    go_wp2_with (go_at_call 62; refine (l00In_any _ _ _ _).mono ?_; rintro e w' ⟨rfl, rfl⟩)
    refine (CC.out _).mono ?_
    rintro e w2 ⟨rfl, g2⟩
    go_wp2
    go_ret2
    exact ⟨by rw [E.out, E2.out]; rfl, bnext (bnext G0.out g1) g2⟩
  · have E2 := Lib.hid h3
    have HP := Lib.hid h1
    have hh : h ≤ 1000 := by unfold inB at h4; simp at h4; omega
    have hV := (pegV_bounds h1 hh).2.1
    have CC := Lib.hid (fun W => l04Peg_any p h W HP.out hl hh)
    generalize pegV p h = V at h5 CC hV h2
    have E := Lib.hid h2
    have h5' : ¬ (1000 < V) := by omega
    clear h2 h3 h6
    go_enter Try.func22, Try.ntmps22
    go_wp2_with fail
    refine (l04Pegs_any p WF.out _).mono ?_
    rintro e w1 ⟨rfl, g1⟩
    rw [h1]
    obtain ⟨c0, c1, c2⟩ := HN.out.below g1 Z0.out
    go_wp2_with (go_at_call 62; refine (l00In_any _ _ _ _).mono ?_; rintro e w' ⟨rfl, rfl⟩)
    refine (CC.out _).mono ?_
    rintro e w2 ⟨rfl, g2⟩
    go_wp2
    go_ret2
    exact ⟨by rw [E.out, E2.out]; rfl, bnext (bnext G0.out g1) g2⟩

set_option maxHeartbeats 4000000 in
theorem pegFor_any (p : Pg) (wf : p.Wf) (h : Int) (w : World) (hl : -9223372036854775808 ≤ h) (hu : h ≤ 9223372036854775807) :
    Calls Try.prog 23 #[.agg #[.int .i16 p.lo, .int .i16 p.st, .int .i16 p.bo], .int .i64 h] w fun e w' => e = .returned (.tuple #[.int .i64 (pfV p h), .int .i64 (pfC p h)]) ∧ Below w.heap.size w w' := by
  have HN := Lib.hid (PegIn.new w p 26)
  have G0 := Lib.hid (show Below w.heap.size w (w.alloc (.cells #[.int .i16 p.lo, .int .i16 p.st, .int .i16 p.bo] 26)) by go_grown)
  have Z0 := Lib.hid (show w.heap.size < (w.alloc (.cells #[.int .i16 p.lo, .int .i16 p.st, .int .i16 p.bo] 26)).heap.size by simp)
  have WF := Lib.hid wf
  clear wf
  rcases pf_cases p h with ⟨h1, h2, h3⟩ | ⟨h1, h4, h2, h3⟩ | ⟨h1, h4, h5, h6, h2, h3⟩ | ⟨h1, h4, h5, h6, h2, h3⟩
  · have E := Lib.hid h2
    have E2 := Lib.hid h3
    clear h2 h3
    go_enter Try.func23, Try.ntmps23
    go_wp2_with fail
    refine (validPegs_any p WF.out _).mono ?_
    rintro e w1 ⟨rfl, g1⟩
    rw [h1]
    go_wp2
    go_ret2
    exact ⟨by rw [E.out, E2.out]; rfl, bnext G0.out g1⟩
  · have E := Lib.hid h2
    have E2 := Lib.hid h3
    clear h2 h3
    go_enter Try.func23, Try.ntmps23
    go_wp2_with fail
    refine (validPegs_any p WF.out _).mono ?_
    rintro e w1 ⟨rfl, g1⟩
    rw [h1]
    go_wp2_with (go_at_call 64; refine (w16_any _ _ _ _).mono ?_; rintro e w' ⟨rfl, rfl⟩)
    go_ret2
    exact ⟨by rw [E.out, E2.out]; rfl, bnext G0.out g1⟩
  · have E := Lib.hid h2
    have E2 := Lib.hid h3
    have CC := Lib.hid (fun W => from_any p h1 h W)
    have EV := Lib.hid (show fromVal p h = .tuple #[.agg #[.int .i16 0, .int .i16 0, .int .i16 0], .bool false] by unfold fromVal; rw [h6])
    clear h2 h3 h6 h5
    go_enter Try.func23, Try.ntmps23
    go_wp2_with fail
    refine (validPegs_any p WF.out _).mono ?_
    rintro e w1 ⟨rfl, g1⟩
    rw [h1]
    obtain ⟨c0, c1, c2⟩ := HN.out.below g1 Z0.out
    go_wp2_with (go_at_call 64; refine (w16_any _ _ _ _).mono ?_; rintro e w' ⟨rfl, rfl⟩)
    refine (CC.out _).mono ?_
    rintro e w2 ⟨rfl, g2⟩
    rw [EV.out]
    go_wp2
    go_ret2
    exact ⟨by rw [E.out, E2.out]; rfl, (bnext (bnext G0.out g1) g2).alloc (bnext (bnext G0.out g1) g2).size _⟩
  · have E2 := Lib.hid h3
    have CC := Lib.hid (fun W => from_any p h1 h W)
    have EV := Lib.hid (show fromVal p h = .tuple #[.agg #[.int .i16 (pegV p h), .int .i16 p.st, .int .i16 p.bo], .bool true] by unfold fromVal; rw [h6])
    have hh : h ≤ 1000 := by unfold inB at h4; simp at h4; omega
    obtain ⟨hV1, hV, -⟩ := pegV_bounds h1 hh
    generalize pegV p h = V at h5 EV hV h2 hV1
    have E := Lib.hid h2
    clear h2 h3 h6
    go_enter Try.func23, Try.ntmps23
    go_wp2_with fail
    refine (validPegs_any p WF.out _).mono ?_
    rintro e w1 ⟨rfl, g1⟩
    rw [h1]
    obtain ⟨c0, c1, c2⟩ := HN.out.below g1 Z0.out
    go_wp2_with (go_at_call 64; refine (w16_any _ _ _ _).mono ?_; rintro e w' ⟨rfl, rfl⟩)
    refine (CC.out _).mono ?_
    rintro e w2 ⟨rfl, g2⟩
    rw [EV.out]
    go_wp2_with fail
    refine (high_any V p.st p.bo _ (by omega) (by omega)).mono ?_
    rintro e w3 ⟨rfl, g3⟩
    go_wp2
    go_ret2
    exact ⟨by rw [E.out, E2.out]; rfl, bnext ((bnext (bnext G0.out g1) g2).alloc (bnext (bnext G0.out g1) g2).size _) g3⟩

end Go.Proofs.Ytjfhpgomaahgoaa
