/- firstWhere over the closures of ClassRange: contracts. Condition: at most 60 books, whose numbers lie within their kinds. -/
import Derived.Test.YtonclaakaaidlacDoorFirstW
import Derived.Test.YtonclaakaaidlacDoorKeys
namespace Go.Proofs.YtonclaakaaidlacDoor
set_option linter.unusedSimpArgs false
set_option linter.unusedVariables false
set_option maxRecDepth 100000
open Go.RowKit

set_option maxHeartbeats 1000000 in
theorem clos_low (b : Bk) (wb : b.Wf) (z : Int) (B : Nat) (w : World) (hb : w.cell? ⟨B, 0, none⟩ = some (.int .i64 z)) (hB : B < w.heap.size) :
    Calls Tryd.prog 42 #[.agg #[.int .i16 b.c, .int .u8 b.m0, .int .u8 b.m1, .int .u8 b.m2, .int .i16 b.v, .int .i16 b.wi, .int .i16 b.hi, .int .i16 b.we], .pointer (some ⟨B, 0, none⟩)] w fun e w' => e = .returned (.bool (decide (z ≤ b.c))) ∧ Below w.heap.size w w' := by
  have HCL := Lib.hid (fun W => classKey_any b wb W)
  go_enter Tryd.func42, Tryd.ntmps42
  go_wp2
  generalize hw0 : World.alloc _ _ = W
  have p0 : W.cell? ⟨w.heap.size, 0, none⟩ = some (.int .i16 b.c) := by rw [← hw0]; clear hw0; go_simp
  have p1 : W.cell? ⟨w.heap.size, 1, none⟩ = some (.int .u8 b.m0) := by rw [← hw0]; clear hw0; go_simp
  have p2 : W.cell? ⟨w.heap.size, 2, none⟩ = some (.int .u8 b.m1) := by rw [← hw0]; clear hw0; go_simp
  have p3 : W.cell? ⟨w.heap.size, 3, none⟩ = some (.int .u8 b.m2) := by rw [← hw0]; clear hw0; go_simp
  have p4 : W.cell? ⟨w.heap.size, 4, none⟩ = some (.int .i16 b.v) := by rw [← hw0]; clear hw0; go_simp
  have p5 : W.cell? ⟨w.heap.size, 5, none⟩ = some (.int .i16 b.wi) := by rw [← hw0]; clear hw0; go_simp
  have p6 : W.cell? ⟨w.heap.size, 6, none⟩ = some (.int .i16 b.hi) := by rw [← hw0]; clear hw0; go_simp
  have p7 : W.cell? ⟨w.heap.size, 7, none⟩ = some (.int .i16 b.we) := by rw [← hw0]; clear hw0; go_simp
  have z0 : w.heap.size < W.heap.size := by rw [← hw0]; clear hw0; simp
  have g0 : Below w.heap.size w W := by rw [← hw0]; clear hw0; go_grown
  have q0 : W.cell? ⟨B, 0, none⟩ = some (.int .i64 z) := (g0.cell (p := ⟨B, 0, none⟩) hB).trans hb
  have z1 : B < W.heap.size := Nat.lt_of_lt_of_le hB g0.size
  clear hw0 hb
  have p0 := belowBy_cell z0 p0
  have p1 := belowBy_cell z0 p1
  have p2 := belowBy_cell z0 p2
  have p3 := belowBy_cell z0 p3
  have p4 := belowBy_cell z0 p4
  have p5 := belowBy_cell z0 p5
  have p6 := belowBy_cell z0 p6
  have p7 := belowBy_cell z0 p7
  have q0 := belowBy_cell z1 q0
  refine wp_region_below (by kernel_rfl) (by kernel_rfl) ?_
  repeat (quiet_step ((go_at_call 39; exact calls_below (HCL.out _))))
  refine wpQuiet_nil ?_
  rintro _ ⟨⟨wq, hq⟩, rfl⟩
  clear p0 p1 p2 p3 p4 p5 p6 p7 q0
  go_wp2
  go_ret
  exact ⟨rfl, bnext g0 hq⟩

set_option maxHeartbeats 4000000 in
theorem index_low (v : Value) (xs : List Bk) (z : Int) (B : Nat) (wf : ∀ b ∈ xs, b.Wf) (w : World) (sl : SliceOf w v xs) (hn : xs.length ≤ 60) (hb : w.cell? ⟨B, 0, none⟩ = some (.int .i64 z)) (hB : B < w.heap.size) :
    Calls Tryd.prog 57 #[v, .func (.func 42) #[] #[.pointer (some ⟨B, 0, none⟩)]] w fun e w' => e = .returned (.int .i64 (fidx (fun b => decide (z ≤ b.c)) xs)) ∧ Below w.heap.size w w' := by
  obtain ⟨A, m, rfl, sl⟩ := sl
  have SL := Lib.hid sl
  have HBC := Lib.hid hb
  have WF := Lib.hid wf
  clear sl hb wf
  go_enter Tryd.func57, Tryd.ntmps57
  go_wp2
  go_loopw [8] (fun s wr => ∃ j : Nat, j ≤ xs.length ∧ s = .int .i64 (j : Int) ∧ (∀ (t : Nat) (ht : t < xs.length), t < j → (fun b => decide (z ≤ b.c)) xs[t] = false) ∧ Below w.heap.size w wr) (fun s _ => xs.length - (intOf s).toNat)
  case atStart => exact ⟨0, Nat.zero_le _, rfl, fun _ _ h => absurd h (Nat.not_lt_zero _), Below.refl _ _⟩
  case round =>
    obtain ⟨j, hj, rfl, hp, hbel⟩ := hrel
    have HP := Lib.hid hp
    clear hp
    by_cases hlt : j < xs.length
    · obtain ⟨ga, oa, rfl, hga, hat⟩ := SL.out (by omega)
      obtain ⟨p0, p1, p2, p3, p4, p5, p6, p7⟩ := booksAt_some (hat.below hbel hga) hlt
      have hbc := Lib.hid ((hbel.cell (p := ⟨B, 0, none⟩) hB).trans HBC.out)
      have WB := Lib.hid (WF.out _ (List.getElem_mem hlt))
      have CL := Lib.hid (fun W h1 h2 => clos_low xs[j] WB.out z B W h1 h2)
      clear hat
      cases hc : (fun b => decide (z ≤ b.c)) xs[j]
      · have E2 := Lib.hid (show ∀ (t : Nat) (ht : t < xs.length), t < j + 1 → (fun b => decide (z ≤ b.c)) xs[t] = false from fun t ht htj => by
          by_cases e : t = j
          · subst e; exact hc
          · exact HP.out t ht (by omega))
        have hc' := hc
        simp only at hc'
        rw [hc'] at CL
        clear hc hc'
        go_wp2_with (go_at_call 42; refine (CL.out _ hbc.out (Nat.lt_of_lt_of_le hB hbel.size)).mono ?_; rintro e w2 ⟨rfl, g2⟩)
        go_roundw
        case rel => exact ⟨j + 1, by omega, by go_num, E2.out, bnext hbel g2⟩
        case measure => simp [intOf]; omega
      · have E1 := Lib.hid (fidx_at (p := fun b => decide (z ≤ b.c)) hlt hc (fun t ht => HP.out t (by omega) ht))
        have hc' := hc
        simp only at hc'
        rw [hc'] at CL
        clear hc hc'
        go_wp2_with (go_at_call 42; refine (CL.out _ hbc.out (Nat.lt_of_lt_of_le hB hbel.size)).mono ?_; rintro e w2 ⟨rfl, g2⟩)
        go_ret
        exact ⟨by rw [E1.out]; rfl, bnext hbel g2⟩
    · obtain rfl : j = xs.length := by omega
      have E1 := Lib.hid (fidx_none (p := fun b => decide (z ≤ b.c)) (xs := xs) (fun t ht => HP.out t ht ht))
      go_wp2
      go_ret
      exact ⟨by rw [E1.out]; rfl, hbel⟩

set_option maxHeartbeats 1000000 in
theorem first_low (v : Value) (xs : List Bk) (z : Int) (B : Nat) (wf : ∀ b ∈ xs, b.Wf) (w : World) (sl : SliceOf w v xs) (hn : xs.length ≤ 60) (hb : w.cell? ⟨B, 0, none⟩ = some (.int .i64 z)) (hB : B < w.heap.size) :
    Calls Tryd.prog 34 #[v, .func (.func 42) #[] #[.pointer (some ⟨B, 0, none⟩)]] w fun e w' => e = .returned (.int .i64 (xs.findIdx (fun b => decide (z ≤ b.c)) : Int)) ∧ Below w.heap.size w w' := by
  have C := Lib.hid (index_low v xs z B wf w sl hn hb hB)
  obtain ⟨A, m, rfl, -⟩ := sl
  have E := Lib.hid (fidx_cases (fun b => decide (z ≤ b.c)) xs)
  clear wf hb
  go_enter Tryd.func34, Tryd.ntmps34
  go_wp2_with fail
  refine C.out.mono ?_
  rintro e w1 ⟨rfl, g1⟩
  rcases E.out with ⟨h1, h2⟩ | ⟨h1, h2⟩
  · have H2 := Lib.hid h2
    rw [h1]
    clear h1 h2
    go_wp2
    go_ret
    exact ⟨by rw [H2.out]; rfl, g1⟩
  · have h3 : ¬ ((xs.findIdx (fun b => decide (z ≤ b.c)) : Int) < 0) := by omega
    rw [h1]
    clear h1 h2
    go_wp2
    go_ret
    exact ⟨rfl, g1⟩

set_option maxHeartbeats 1000000 in
theorem clos_high (b : Bk) (wb : b.Wf) (z : Int) (B : Nat) (w : World) (hb : w.cell? ⟨B, 0, none⟩ = some (.int .i64 z)) (hB : B < w.heap.size) :
    Calls Tryd.prog 43 #[.agg #[.int .i16 b.c, .int .u8 b.m0, .int .u8 b.m1, .int .u8 b.m2, .int .i16 b.v, .int .i16 b.wi, .int .i16 b.hi, .int .i16 b.we], .pointer (some ⟨B, 0, none⟩)] w fun e w' => e = .returned (.bool (decide (z < b.c))) ∧ Below w.heap.size w w' := by
  have HCL := Lib.hid (fun W => classKey_any b wb W)
  go_enter Tryd.func43, Tryd.ntmps43
  go_wp2
  generalize hw0 : World.alloc _ _ = W
  have p0 : W.cell? ⟨w.heap.size, 0, none⟩ = some (.int .i16 b.c) := by rw [← hw0]; clear hw0; go_simp
  have p1 : W.cell? ⟨w.heap.size, 1, none⟩ = some (.int .u8 b.m0) := by rw [← hw0]; clear hw0; go_simp
  have p2 : W.cell? ⟨w.heap.size, 2, none⟩ = some (.int .u8 b.m1) := by rw [← hw0]; clear hw0; go_simp
  have p3 : W.cell? ⟨w.heap.size, 3, none⟩ = some (.int .u8 b.m2) := by rw [← hw0]; clear hw0; go_simp
  have p4 : W.cell? ⟨w.heap.size, 4, none⟩ = some (.int .i16 b.v) := by rw [← hw0]; clear hw0; go_simp
  have p5 : W.cell? ⟨w.heap.size, 5, none⟩ = some (.int .i16 b.wi) := by rw [← hw0]; clear hw0; go_simp
  have p6 : W.cell? ⟨w.heap.size, 6, none⟩ = some (.int .i16 b.hi) := by rw [← hw0]; clear hw0; go_simp
  have p7 : W.cell? ⟨w.heap.size, 7, none⟩ = some (.int .i16 b.we) := by rw [← hw0]; clear hw0; go_simp
  have z0 : w.heap.size < W.heap.size := by rw [← hw0]; clear hw0; simp
  have g0 : Below w.heap.size w W := by rw [← hw0]; clear hw0; go_grown
  have q0 : W.cell? ⟨B, 0, none⟩ = some (.int .i64 z) := (g0.cell (p := ⟨B, 0, none⟩) hB).trans hb
  have z1 : B < W.heap.size := Nat.lt_of_lt_of_le hB g0.size
  clear hw0 hb
  have p0 := belowBy_cell z0 p0
  have p1 := belowBy_cell z0 p1
  have p2 := belowBy_cell z0 p2
  have p3 := belowBy_cell z0 p3
  have p4 := belowBy_cell z0 p4
  have p5 := belowBy_cell z0 p5
  have p6 := belowBy_cell z0 p6
  have p7 := belowBy_cell z0 p7
  have q0 := belowBy_cell z1 q0
  refine wp_region_below (by kernel_rfl) (by kernel_rfl) ?_
  repeat (quiet_step ((go_at_call 39; exact calls_below (HCL.out _))))
  refine wpQuiet_nil ?_
  rintro _ ⟨⟨wq, hq⟩, rfl⟩
  clear p0 p1 p2 p3 p4 p5 p6 p7 q0
  go_wp2
  go_ret
  exact ⟨rfl, bnext g0 hq⟩

set_option maxHeartbeats 4000000 in
theorem index_high (v : Value) (xs : List Bk) (z : Int) (B : Nat) (wf : ∀ b ∈ xs, b.Wf) (w : World) (sl : SliceOf w v xs) (hn : xs.length ≤ 60) (hb : w.cell? ⟨B, 0, none⟩ = some (.int .i64 z)) (hB : B < w.heap.size) :
    Calls Tryd.prog 57 #[v, .func (.func 43) #[] #[.pointer (some ⟨B, 0, none⟩)]] w fun e w' => e = .returned (.int .i64 (fidx (fun b => decide (z < b.c)) xs)) ∧ Below w.heap.size w w' := by
  obtain ⟨A, m, rfl, sl⟩ := sl
  have SL := Lib.hid sl
  have HBC := Lib.hid hb
  have WF := Lib.hid wf
  clear sl hb wf
  go_enter Tryd.func57, Tryd.ntmps57
  go_wp2
  go_loopw [8] (fun s wr => ∃ j : Nat, j ≤ xs.length ∧ s = .int .i64 (j : Int) ∧ (∀ (t : Nat) (ht : t < xs.length), t < j → (fun b => decide (z < b.c)) xs[t] = false) ∧ Below w.heap.size w wr) (fun s _ => xs.length - (intOf s).toNat)
  case atStart => exact ⟨0, Nat.zero_le _, rfl, fun _ _ h => absurd h (Nat.not_lt_zero _), Below.refl _ _⟩
  case round =>
    obtain ⟨j, hj, rfl, hp, hbel⟩ := hrel
    have HP := Lib.hid hp
    clear hp
    by_cases hlt : j < xs.length
    · obtain ⟨ga, oa, rfl, hga, hat⟩ := SL.out (by omega)
      obtain ⟨p0, p1, p2, p3, p4, p5, p6, p7⟩ := booksAt_some (hat.below hbel hga) hlt
      have hbc := Lib.hid ((hbel.cell (p := ⟨B, 0, none⟩) hB).trans HBC.out)
      have WB := Lib.hid (WF.out _ (List.getElem_mem hlt))
      have CL := Lib.hid (fun W h1 h2 => clos_high xs[j] WB.out z B W h1 h2)
      clear hat
      cases hc : (fun b => decide (z < b.c)) xs[j]
      · have E2 := Lib.hid (show ∀ (t : Nat) (ht : t < xs.length), t < j + 1 → (fun b => decide (z < b.c)) xs[t] = false from fun t ht htj => by
          by_cases e : t = j
          · subst e; exact hc
          · exact HP.out t ht (by omega))
        have hc' := hc
        simp only at hc'
        rw [hc'] at CL
        clear hc hc'
        go_wp2_with (go_at_call 43; refine (CL.out _ hbc.out (Nat.lt_of_lt_of_le hB hbel.size)).mono ?_; rintro e w2 ⟨rfl, g2⟩)
        go_roundw
        case rel => exact ⟨j + 1, by omega, by go_num, E2.out, bnext hbel g2⟩
        case measure => simp [intOf]; omega
      · have E1 := Lib.hid (fidx_at (p := fun b => decide (z < b.c)) hlt hc (fun t ht => HP.out t (by omega) ht))
        have hc' := hc
        simp only at hc'
        rw [hc'] at CL
        clear hc hc'
        go_wp2_with (go_at_call 43; refine (CL.out _ hbc.out (Nat.lt_of_lt_of_le hB hbel.size)).mono ?_; rintro e w2 ⟨rfl, g2⟩)
        go_ret
        exact ⟨by rw [E1.out]; rfl, bnext hbel g2⟩
    · obtain rfl : j = xs.length := by omega
      have E1 := Lib.hid (fidx_none (p := fun b => decide (z < b.c)) (xs := xs) (fun t ht => HP.out t ht ht))
      go_wp2
      go_ret
      exact ⟨by rw [E1.out]; rfl, hbel⟩

set_option maxHeartbeats 1000000 in
theorem first_high (v : Value) (xs : List Bk) (z : Int) (B : Nat) (wf : ∀ b ∈ xs, b.Wf) (w : World) (sl : SliceOf w v xs) (hn : xs.length ≤ 60) (hb : w.cell? ⟨B, 0, none⟩ = some (.int .i64 z)) (hB : B < w.heap.size) :
    Calls Tryd.prog 34 #[v, .func (.func 43) #[] #[.pointer (some ⟨B, 0, none⟩)]] w fun e w' => e = .returned (.int .i64 (xs.findIdx (fun b => decide (z < b.c)) : Int)) ∧ Below w.heap.size w w' := by
  have C := Lib.hid (index_high v xs z B wf w sl hn hb hB)
  obtain ⟨A, m, rfl, -⟩ := sl
  have E := Lib.hid (fidx_cases (fun b => decide (z < b.c)) xs)
  clear wf hb
  go_enter Tryd.func34, Tryd.ntmps34
  go_wp2_with fail
  refine C.out.mono ?_
  rintro e w1 ⟨rfl, g1⟩
  rcases E.out with ⟨h1, h2⟩ | ⟨h1, h2⟩
  · have H2 := Lib.hid h2
    rw [h1]
    clear h1 h2
    go_wp2
    go_ret
    exact ⟨by rw [H2.out]; rfl, g1⟩
  · have h3 : ¬ ((xs.findIdx (fun b => decide (z < b.c)) : Int) < 0) := by omega
    rw [h1]
    clear h1 h2
    go_wp2
    go_ret
    exact ⟨rfl, g1⟩

end Go.Proofs.YtonclaakaaidlacDoor
