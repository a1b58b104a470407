/- firstWhere over the closure of FindBook: contracts. Condition: at most 60 books, whose numbers lie within their kinds. -/
import Derived.Test.YtonclaakaaidlacDoorFirstW
import Derived.Test.YtonclaakaaidlacDoorKeys
import Derived.Laws.BytesArg
namespace Go.Proofs.YtonclaakaaidlacDoor
set_option linter.unusedSimpArgs false
set_option linter.unusedVariables false
set_option maxRecDepth 100000
open Go.RowKit

/-- A book's mark is a text. -/
def mkQ (b : Bk) (mk : ByteArray) : Bool := (strOfNums [b.m0, b.m1, b.m2]).toList == mk.toList
def fbP (cl : Int) (mk : ByteArray) (vo : Int) (b : Bk) : Bool := (b.c == cl) && (mkQ b mk && (b.v == vo))
def FCap (w : World) (B : Nat) (cl : Int) (mk : ByteArray) (vo : Int) : Prop := w.cell? ⟨B, 0, none⟩ = some (.int .i64 cl) ∧ w.cell? ⟨B + 1, 0, none⟩ = some (.string mk) ∧ w.cell? ⟨B + 2, 0, none⟩ = some (.int .i64 vo)
theorem FCap.below {w w' : World} {B : Nat} {cl vo : Int} {mk : ByteArray} (h : FCap w B cl mk vo) (hb : Below w.heap.size w w') (hB : B + 2 < w.heap.size) : FCap w' B cl mk vo :=
  ⟨(hb.cell (p := ⟨B, 0, none⟩) (by show B < _; omega)).trans h.1, (hb.cell (p := ⟨B + 1, 0, none⟩) (by show B + 1 < _; omega)).trans h.2.1, (hb.cell (p := ⟨B + 2, 0, none⟩) hB).trans h.2.2⟩
theorem conv_mark (b : Bk) (g o : Nat) (W : World) (h1 : W.cell? ⟨g, o, none⟩ = some (.int .u8 b.m0)) (h2 : W.cell? ⟨g, o + 1, none⟩ = some (.int .u8 b.m1)) (h3 : W.cell? ⟨g, o + 2, none⟩ = some (.int .u8 b.m2)) :
    (convert 63 9 (.slice (some ⟨g, o, none⟩) 3 3)).run Tryd.prog W = .ok (.string (strOfNums [b.m0, b.m1, b.m2])) W :=
  run_convert_bytes_arg W 63 5 Tryd.underlying63 Tryd.underlying5 g o 3 3 [b.m0, b.m1, b.m2] rfl (fun i hi => by
    have : i = 0 ∨ i = 1 ∨ i = 2 := by omega
    rcases this with rfl | rfl | rfl
    · exact h1
    · exact h2
    · exact h3) 9 Tryd.underlying9

set_option maxHeartbeats 4000000 in
theorem clos_find (b : Bk) (wb : b.Wf) (cl : Int) (mk : ByteArray) (vo : Int) (B : Nat) (w : World) (hb : FCap w B cl mk vo) (hB : B + 2 < w.heap.size) :
    Calls Tryd.prog 38 #[.agg #[.int .i16 b.c, .int .u8 b.m0, .int .u8 b.m1, .int .u8 b.m2, .int .i16 b.v, .int .i16 b.wi, .int .i16 b.hi, .int .i16 b.we], .pointer (some ⟨B, 0, none⟩), .pointer (some ⟨B + 1, 0, none⟩), .pointer (some ⟨B + 2, 0, none⟩)] w fun e w' => e = .returned (.bool (fbP cl mk vo b)) ∧ Below w.heap.size w w' := by
  have HCL := Lib.hid (fun W => classKey_any b wb W)
  have HVL := Lib.hid (fun W => volumeKey_any b wb W)
  obtain ⟨h0, h1, h2⟩ := hb
  go_enter Tryd.func38, Tryd.ntmps38
  go_wp2
  generalize hw0 : World.alloc _ _ = W
  have p0 : W.cell? ⟨w.heap.size, 0, none⟩ = some (.int .i16 b.c) := by rw [← hw0]; clear hw0; go_simp
  have p1 : W.cell? ⟨w.heap.size, 1, none⟩ = some (.int .u8 b.m0) := by rw [← hw0]; clear hw0; go_simp
  have p2 : W.cell? ⟨w.heap.size, 2, none⟩ = some (.int .u8 b.m1) := by rw [← hw0]; clear hw0; go_simp
  have p3 : W.cell? ⟨w.heap.size, 3, none⟩ = some (.int .u8 b.m2) := by rw [← hw0]; clear hw0; go_simp
  have p4 : W.cell? ⟨w.heap.size, 4, none⟩ = some (.int .i16 b.v) := by rw [← hw0]; clear hw0; go_simp
  have p5 : W.cell? ⟨w.heap.size, 5, none⟩ = some (.int .i16 b.wi) := by rw [← hw0]; clear hw0; go_simp
  have p6 : W.cell? ⟨w.heap.size, 6, none⟩ = some (.int .i16 b.hi) := by rw [← hw0]; clear hw0; go_simp
  have p7 : W.cell? ⟨w.heap.size, 7, none⟩ = some (.int .i16 b.we) := by rw [← hw0]; clear hw0; go_simp
  have z0 : w.heap.size < W.heap.size := by rw [← hw0]; clear hw0; simp
  have g0 : Below w.heap.size w W := by rw [← hw0]; clear hw0; go_grown
  have q0 := (g0.cell (p := ⟨B, 0, none⟩) (by show B < _; omega)).trans h0
  have q1 := (g0.cell (p := ⟨B + 1, 0, none⟩) (by show B + 1 < _; omega)).trans h1
  have q2 := (g0.cell (p := ⟨B + 2, 0, none⟩) hB).trans h2
  have z1 : B + 2 < W.heap.size := Nat.lt_of_lt_of_le hB g0.size
  clear hw0 h0 h1 h2
  have p0 := belowBy_cell z0 p0
  have p1 := belowBy_cell z0 p1
  have p2 := belowBy_cell z0 p2
  have p3 := belowBy_cell z0 p3
  have p4 := belowBy_cell z0 p4
  have p5 := belowBy_cell z0 p5
  have p6 := belowBy_cell z0 p6
  have p7 := belowBy_cell z0 p7
  have q0 := belowBy_cell (show B < W.heap.size by omega) q0
  have q1 := belowBy_cell (show B + 1 < W.heap.size by omega) q1
  have q2 := belowBy_cell z1 q2
  have hcv := fun (p : BelowBy W) => conv_mark b w.heap.size 1 p.W (p1 p) (p2 p) (p3 p)
  have E := Lib.hid (show fbP cl mk vo b = ((b.c == cl) && (mkQ b mk && (b.v == vo))) from rfl)
  have EQ := Lib.hid (show mkQ b mk = ((strOfNums [b.m0, b.m1, b.m2]).toList == mk.toList) from rfl)
  generalize strOfNums [b.m0, b.m1, b.m2] = S at *
  cases e1 : (b.c == cl)
  · have E' := Lib.hid (show fbP cl mk vo b = false by rw [E.out, e1]; rfl)
    refine wp_region_below (by kernel_rfl) (by kernel_rfl) ?_
    repeat (first | go_big_quiet_step ((first | (go_at_call 39; exact calls_below (HCL.out _)) | (go_at_call 40; exact calls_below (HVL.out _)))) | quiet_step ((first | (go_at_call 39; exact calls_below (HCL.out _)) | (go_at_call 40; exact calls_below (HVL.out _)))))
    refine wpQuiet_nil ?_
    rintro _ ⟨⟨wq, hq⟩, rfl⟩
    go_wp2
    go_ret
    exact ⟨by rw [E'.out]; rfl, bnext g0 hq⟩
  · cases e2 : (S.toList == mk.toList)
    · have E' := Lib.hid (show fbP cl mk vo b = false by rw [E.out, EQ.out, e1, e2]; rfl)
      refine wp_region_below (by kernel_rfl) (by kernel_rfl) ?_
      repeat (first | go_big_quiet_step ((first | (go_at_call 39; exact calls_below (HCL.out _)) | (go_at_call 40; exact calls_below (HVL.out _)))) | quiet_step ((first | (go_at_call 39; exact calls_below (HCL.out _)) | (go_at_call 40; exact calls_below (HVL.out _)))))
      refine wpQuiet_nil ?_
      rintro _ ⟨⟨wq, hq⟩, rfl⟩
      go_wp2
      go_ret
      exact ⟨by rw [E'.out]; rfl, bnext g0 hq⟩
    · have E' := Lib.hid (show fbP cl mk vo b = (b.v == vo) by rw [E.out, EQ.out, e1, e2]; rfl)
      refine wp_region_below (by kernel_rfl) (by kernel_rfl) ?_
      repeat (first | go_big_quiet_step ((first | (go_at_call 39; exact calls_below (HCL.out _)) | (go_at_call 40; exact calls_below (HVL.out _)))) | quiet_step ((first | (go_at_call 39; exact calls_below (HCL.out _)) | (go_at_call 40; exact calls_below (HVL.out _)))))
      refine wpQuiet_nil ?_
      rintro _ ⟨⟨wq, hq⟩, rfl⟩
      go_wp2
      go_ret
      exact ⟨by rw [E'.out]; rfl, bnext g0 hq⟩

set_option maxHeartbeats 4000000 in
theorem index_find (v : Value) (xs : List Bk) (cl : Int) (mk : ByteArray) (vo : Int) (B : Nat) (wf : ∀ b ∈ xs, b.Wf) (w : World) (sl : SliceOf w v xs) (hn : xs.length ≤ 60) (hb : FCap w B cl mk vo) (hB : B + 2 < w.heap.size) :
    Calls Tryd.prog 57 #[v, .func (.func 38) #[] #[.pointer (some ⟨B, 0, none⟩), .pointer (some ⟨B + 1, 0, none⟩), .pointer (some ⟨B + 2, 0, none⟩)]] w fun e w' => e = .returned (.int .i64 (fidx (fbP cl mk vo) xs)) ∧ Below w.heap.size w w' := by
  obtain ⟨A, m, rfl, sl⟩ := sl
  have SL := Lib.hid sl
  have HBC := Lib.hid hb
  have WF := Lib.hid wf
  clear sl hb wf
  go_enter Tryd.func57, Tryd.ntmps57
  go_wp2
  go_loopw [8] (fun s wr => ∃ j : Nat, j ≤ xs.length ∧ s = .int .i64 (j : Int) ∧ (∀ (t : Nat) (ht : t < xs.length), t < j → (fbP cl mk vo) xs[t] = false) ∧ Below w.heap.size w wr) (fun s _ => xs.length - (intOf s).toNat)
  case atStart => exact ⟨0, Nat.zero_le _, rfl, fun _ _ h => absurd h (Nat.not_lt_zero _), Below.refl _ _⟩
  case round =>
    obtain ⟨j, hj, rfl, hp, hbel⟩ := hrel
    have HP := Lib.hid hp
    clear hp
    by_cases hlt : j < xs.length
    · obtain ⟨ga, oa, rfl, hga, hat⟩ := SL.out (by omega)
      obtain ⟨p0, p1, p2, p3, p4, p5, p6, p7⟩ := booksAt_some (hat.below hbel hga) hlt
      have hbc := Lib.hid (HBC.out.below hbel hB)
      have WB := Lib.hid (WF.out _ (List.getElem_mem hlt))
      have CL := Lib.hid (fun W h1 h2 => clos_find xs[j] WB.out cl mk vo B W h1 h2)
      clear hat
      cases hc : (fbP cl mk vo) xs[j]
      · have E2 := Lib.hid (show ∀ (t : Nat) (ht : t < xs.length), t < j + 1 → (fbP cl mk vo) xs[t] = false from fun t ht htj => by
          by_cases e : t = j
          · subst e; exact hc
          · exact HP.out t ht (by omega))
        have hc' := hc
        try simp only at hc'
        rw [hc'] at CL
        clear hc hc'
        go_wp2_with (go_at_call 38; refine (CL.out _ hbc.out (Nat.lt_of_lt_of_le hB hbel.size)).mono ?_; rintro e w2 ⟨rfl, g2⟩)
        go_roundw
        case rel => exact ⟨j + 1, by omega, by go_num, E2.out, bnext hbel g2⟩
        case measure => simp [intOf]; omega
      · have E1 := Lib.hid (fidx_at (p := fbP cl mk vo) hlt hc (fun t ht => HP.out t (by omega) ht))
        have hc' := hc
        try simp only at hc'
        rw [hc'] at CL
        clear hc hc'
        go_wp2_with (go_at_call 38; refine (CL.out _ hbc.out (Nat.lt_of_lt_of_le hB hbel.size)).mono ?_; rintro e w2 ⟨rfl, g2⟩)
        go_ret
        exact ⟨by rw [E1.out]; rfl, bnext hbel g2⟩
    · obtain rfl : j = xs.length := by omega
      have E1 := Lib.hid (fidx_none (p := fbP cl mk vo) (xs := xs) (fun t ht => HP.out t ht ht))
      go_wp2
      go_ret
      exact ⟨by rw [E1.out]; rfl, hbel⟩

set_option maxHeartbeats 1000000 in
theorem first_find (v : Value) (xs : List Bk) (cl : Int) (mk : ByteArray) (vo : Int) (B : Nat) (wf : ∀ b ∈ xs, b.Wf) (w : World) (sl : SliceOf w v xs) (hn : xs.length ≤ 60) (hb : FCap w B cl mk vo) (hB : B + 2 < w.heap.size) :
    Calls Tryd.prog 34 #[v, .func (.func 38) #[] #[.pointer (some ⟨B, 0, none⟩), .pointer (some ⟨B + 1, 0, none⟩), .pointer (some ⟨B + 2, 0, none⟩)]] w fun e w' => e = .returned (.int .i64 (xs.findIdx (fbP cl mk vo) : Int)) ∧ Below w.heap.size w w' := by
  have C := Lib.hid (index_find v xs cl mk vo B wf w sl hn hb hB)
  obtain ⟨A, m, rfl, -⟩ := sl
  have E := Lib.hid (fidx_cases (fbP cl mk vo) xs)
  clear wf hb
  go_enter Tryd.func34, Tryd.ntmps34
  go_wp2_with fail
  refine C.out.mono ?_
  rintro e w1 ⟨rfl, g1⟩
  rcases E.out with ⟨h1, h2⟩ | ⟨h1, h2⟩
  · have H2 := Lib.hid h2
    rw [h1]
    clear h1 h2
    go_wp2
    go_ret
    exact ⟨by rw [H2.out]; rfl, g1⟩
  · have h3 : ¬ ((xs.findIdx (fbP cl mk vo) : Int) < 0) := by omega
    rw [h1]
    clear h1 h2
    go_wp2
    go_ret
    exact ⟨rfl, g1⟩

end Go.Proofs.YtonclaakaaidlacDoor
