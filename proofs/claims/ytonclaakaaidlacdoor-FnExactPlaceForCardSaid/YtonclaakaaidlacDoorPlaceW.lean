/- firstWhere over the closure of PlaceFor: contracts. Condition: at most 60 books, whose numbers lie within their kinds. -/
import Derived.Test.YtonclaakaaidlacDoorFirstW
import Derived.Test.YtonclaakaaidlacDoorBx
namespace Go.Proofs.YtonclaakaaidlacDoor
set_option linter.unusedSimpArgs false
set_option linter.unusedVariables false
set_option maxRecDepth 100000
open Go.RowKit

set_option maxHeartbeats 1000000 in
theorem clos_place (b : Bk) (wb : b.Wf) (z : Bk) (wz : z.Wf) (B : Nat) (w : World) (hb : Bx w B z) (hB : B < w.heap.size) :
    Calls Tryd.prog 35 #[.agg #[.int .i16 b.c, .int .u8 b.m0, .int .u8 b.m1, .int .u8 b.m2, .int .i16 b.v, .int .i16 b.wi, .int .i16 b.hi, .int .i16 b.we], .pointer (some ⟨B, 0, none⟩)] w fun e w' => e = .returned (.bool (decide (usual z b < 0))) ∧ Below w.heap.size w w' := by
  obtain ⟨q0, q1, q2, q3, q4, q5, q6, q7⟩ := hb.cells
  clear hb
  go_enter Tryd.func35, Tryd.ntmps35
  go_wp2_with fail
  refine (compareBooks_any z b wz wb _).mono ?_
  rintro e w1 ⟨rfl, h1⟩
  go_wp2
  go_ret
  exact ⟨rfl, bnew _ h1⟩

set_option maxHeartbeats 4000000 in
theorem index_place (v : Value) (xs : List Bk) (z : Bk) (wz : z.Wf) (B : Nat) (wf : ∀ b ∈ xs, b.Wf) (w : World) (sl : SliceOf w v xs) (hn : xs.length ≤ 60) (hb : Bx w B z) (hB : B < w.heap.size) :
    Calls Tryd.prog 57 #[v, .func (.func 35) #[] #[.pointer (some ⟨B, 0, none⟩)]] w fun e w' => e = .returned (.int .i64 (fidx (fun b => decide (usual z b < 0)) xs)) ∧ Below w.heap.size w w' := by
  obtain ⟨A, m, rfl, sl⟩ := sl
  have SL := Lib.hid sl
  have HBC := Lib.hid hb
  have WF := Lib.hid wf
  clear sl hb wf
  go_enter Tryd.func57, Tryd.ntmps57
  go_wp2
  go_loopw [8] (fun s wr => ∃ j : Nat, j ≤ xs.length ∧ s = .int .i64 (j : Int) ∧ (∀ (t : Nat) (ht : t < xs.length), t < j → (fun b => decide (usual z b < 0)) xs[t] = false) ∧ Below w.heap.size w wr) (fun s _ => xs.length - (intOf s).toNat)
  case atStart => exact ⟨0, Nat.zero_le _, rfl, fun _ _ h => absurd h (Nat.not_lt_zero _), Below.refl _ _⟩
  case round =>
    obtain ⟨j, hj, rfl, hp, hbel⟩ := hrel
    have HP := Lib.hid hp
    clear hp
    by_cases hlt : j < xs.length
    · obtain ⟨ga, oa, rfl, hga, hat⟩ := SL.out (by omega)
      obtain ⟨p0, p1, p2, p3, p4, p5, p6, p7⟩ := booksAt_some (hat.below hbel hga) hlt
      have hbc := Lib.hid (HBC.out.below hbel hB)
      have WB := Lib.hid (WF.out _ (List.getElem_mem hlt))
      have CL := Lib.hid (fun W h1 h2 => clos_place xs[j] WB.out z wz B W h1 h2)
      clear hat
      cases hc : (fun b => decide (usual z b < 0)) xs[j]
      · have E2 := Lib.hid (show ∀ (t : Nat) (ht : t < xs.length), t < j + 1 → (fun b => decide (usual z b < 0)) xs[t] = false from fun t ht htj => by
          by_cases e : t = j
          · subst e; exact hc
          · exact HP.out t ht (by omega))
        have hc' := hc
        simp only at hc'
        rw [hc'] at CL
        clear hc hc'
        go_wp2_with (go_at_call 35; refine (CL.out _ hbc.out (Nat.lt_of_lt_of_le hB hbel.size)).mono ?_; rintro e w2 ⟨rfl, g2⟩)
        go_roundw
        case rel => exact ⟨j + 1, by omega, by go_num, E2.out, bnext hbel g2⟩
        case measure => simp [intOf]; omega
      · have E1 := Lib.hid (fidx_at (p := fun b => decide (usual z b < 0)) hlt hc (fun t ht => HP.out t (by omega) ht))
        have hc' := hc
        simp only at hc'
        rw [hc'] at CL
        clear hc hc'
        go_wp2_with (go_at_call 35; refine (CL.out _ hbc.out (Nat.lt_of_lt_of_le hB hbel.size)).mono ?_; rintro e w2 ⟨rfl, g2⟩)
        go_ret
        exact ⟨by rw [E1.out]; rfl, bnext hbel g2⟩
    · obtain rfl : j = xs.length := by omega
      have E1 := Lib.hid (fidx_none (p := fun b => decide (usual z b < 0)) (xs := xs) (fun t ht => HP.out t ht ht))
      go_wp2
      go_ret
      exact ⟨by rw [E1.out]; rfl, hbel⟩

set_option maxHeartbeats 1000000 in
theorem first_place (v : Value) (xs : List Bk) (z : Bk) (wz : z.Wf) (B : Nat) (wf : ∀ b ∈ xs, b.Wf) (w : World) (sl : SliceOf w v xs) (hn : xs.length ≤ 60) (hb : Bx w B z) (hB : B < w.heap.size) :
    Calls Tryd.prog 34 #[v, .func (.func 35) #[] #[.pointer (some ⟨B, 0, none⟩)]] w fun e w' => e = .returned (.int .i64 (xs.findIdx (fun b => decide (usual z b < 0)) : Int)) ∧ Below w.heap.size w w' := by
  have C := Lib.hid (index_place v xs z wz B wf w sl hn hb hB)
  obtain ⟨A, m, rfl, -⟩ := sl
  have E := Lib.hid (fidx_cases (fun b => decide (usual z b < 0)) xs)
  clear wf hb
  go_enter Tryd.func34, Tryd.ntmps34
  go_wp2_with fail
  refine C.out.mono ?_
  rintro e w1 ⟨rfl, g1⟩
  rcases E.out with ⟨h1, h2⟩ | ⟨h1, h2⟩
  · have H2 := Lib.hid h2
    rw [h1]
    clear h1 h2
    go_wp2
    go_ret
    exact ⟨by rw [H2.out]; rfl, g1⟩
  · have h3 : ¬ ((xs.findIdx (fun b => decide (usual z b < 0)) : Int) < 0) := by omega
    rw [h1]
    clear h1 h2
    go_wp2
    go_ret
    exact ⟨rfl, g1⟩

end Go.Proofs.YtonclaakaaidlacDoor
