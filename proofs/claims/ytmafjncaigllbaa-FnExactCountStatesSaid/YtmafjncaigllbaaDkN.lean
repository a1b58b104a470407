/- How many copies have each state, by the model and by the program: contracts. Condition: no longer than slices can be, numbers within their kinds. -/
import Derived.Test.YtmafjncaigllbaaDkQ
namespace Go.Proofs.Ytmafjncaigllbaa
set_option linter.unusedSimpArgs false
set_option linter.unusedVariables false
set_option maxRecDepth 100000
open Go.RowKit

def stC (i : Nat) (c : Cp) : Bool := decide (c.st = (i : Int))
def st3 (cs : List Cp) (k i : Nat) : Int := ((whTo cs (stC i) k).length : Int)
theorem st3_step {cs : List Cp} {k n : Nat} (hk : k < cs.length) (h : cs[k].st = (n : Int)) : st3 cs (k + 1) = fun i => if i = n then st3 cs k n + 1 else st3 cs k i := by
  funext i
  unfold st3
  by_cases e : i = n
  · subst e
    rw [if_pos rfl, whTo_yes hk (by unfold stC; exact decide_eq_true h)]
    simp
  · rw [if_neg e, whTo_no hk (by unfold stC; exact decide_eq_false (by omega))]
theorem st3_zero (cs : List Cp) : st3 cs 0 = fun _ => 0 := by funext i; rfl
theorem st3_in (cs : List Cp) (k i : Nat) : 0 ≤ st3 cs k i ∧ st3 cs k i ≤ k := by
  have := whTo_len cs (stC i) k
  unfold st3
  omega
theorem cp_st {c : Cp} {day : Int} (h : cpB c day = true) : ∃ n : Nat, c.st = (n : Int) ∧ n < 3 := by
  unfold cpB at h
  by_cases h0 : c.st = 0
  · exact ⟨0, h0, by omega⟩
  · rw [if_neg h0] at h
    by_cases h1 : c.st = 1
    · exact ⟨1, h1, by omega⟩
    · rw [if_neg h1] at h
      by_cases h2 : c.st = 2
      · exact ⟨2, h2, by omega⟩
      · rw [if_neg h2] at h
        cases h
def A3At (w : World) (g : Nat) (f : Nat → Int) : Prop :=
  ∃ cs : Array Value, w.heap[g]? = some (.cells cs 52 (0, 0)) ∧ cs.size = 3 ∧ ∀ h : Nat, h < 3 → cs[h]? = some (.int .i64 (f h))
theorem A3At.start {w : World} {g : Nat} (h : w.heap[g]? = some (.cells #[.int .i64 0, .int .i64 0, .int .i64 0] 52 (0, 0))) : A3At w g (fun _ => 0) := by
  refine ⟨_, h, rfl, fun j hj => ?_⟩
  have : j = 0 ∨ j = 1 ∨ j = 2 := by omega
  rcases this with rfl | rfl | rfl <;> rfl
theorem A3At.cell {w : World} {g : Nat} {f : Nat → Int} (h : A3At w g f) (j : Nat) (hj : j < 3) : w.cell? ⟨g, j, none⟩ = some (.int .i64 (f j)) := by
  obtain ⟨cs, h, _, h3⟩ := h
  rw [cell_of_row w g _ cs _ _ h]
  exact h3 j hj
theorem A3At.frozen {w : World} {g : Nat} {f : Nat → Int} (h : A3At w g f) (o : Nat) : w.frozen? ⟨g, o, none⟩ = false := by
  obtain ⟨cs, h, _⟩ := h
  exact frozen_of_row w g _ cs _ h
theorem A3At.below {w w' : World} {B g : Nat} {f : Nat → Int} (h : A3At w g f) (hb : Below B w w') (hg : g < B) : A3At w' g f := by
  obtain ⟨cs, h, h2⟩ := h
  exact ⟨cs, (hb.block g hg).trans h, h2⟩
theorem A3At.set {w : World} {g : Nat} {f : Nat → Int} (h : A3At w g f) (n : Nat) (hn : n < 3) (x : Int) : A3At (w.setCell ⟨g, n, none⟩ (.int .i64 x)) g (fun h => if h = n then x else f h) := by
  obtain ⟨cs, h1, h2, h3⟩ := h
  refine ⟨_, heap_setCell_same _ _ _ _ _ _ h1, by simpa using h2, fun j hj => ?_⟩
  rw [Array.getElem?_setIfInBounds]
  by_cases e : n = j
  · subst e
    rw [if_pos rfl, if_pos (by omega)]
    simp
  · rw [if_neg e, h3 j hj]
    simp only []
    rw [if_neg (by omega)]
noncomputable def ct3 (d : Dk) (i : Nat) : Int := st3 (cnCs d 0) (cnCs d 0).length i

set_option maxHeartbeats 8000000 in
theorem specCountStates_any (d : Dk) (hv : Value) (wf : d.Wf ∧ ∀ c ∈ d.cs, c.q.length ≤ maxLen) (w : World) (hs : CpsOf w hv d.cs) (hn : d.cs.length ≤ maxLen) :
    Calls Try.prog 45 #[.agg #[.int .i16 d.day, hv]] w fun e w' => e = .returned (.tuple #[.agg #[.int .i64 (ct3 d 0), .int .i64 (ct3 d 1), .int .i64 (ct3 d 2)], .int .i64 (cnC d 0)]) ∧ Below w.heap.size w w' := by
  have HS := Lib.hid hs
  have WF := Lib.hid wf
  have OK := Lib.hid (fun W (h : DkAt W w.heap.size d hv) => l06Ok_any d hv wf w.heap.size W h hn)
  obtain ⟨A, c, rfl, -⟩ := hs
  clear wf
  unfold ct3
  rcases cn_cases d 0 with ⟨h1, h2, -, h4⟩ | ⟨h1, hp, -, -, -⟩ | ⟨h1, -, h2, -, h4⟩
  · rw [h2, h4]
    rw [h1] at OK
    clear h1 h2 h4
    go_enter Try.func45, Try.ntmps45
    go_wp2_with fail
    generalize hW : World.alloc (World.alloc (World.alloc w _) _) _ = W3
    have D0 := Lib.hid (show W3.heap[w.heap.size]? = some (.cells #[.int .i16 d.day, .slice A d.cs.length c] 30 (0, 0)) by rw [← hW]; exact (alloc3d w _ _ _).1)
    have D1 := Lib.hid (show W3.heap[w.heap.size + 1]? = some (.cells #[.int .i64 0, .int .i64 0, .int .i64 0] 52 (0, 0)) by rw [← hW]; exact (alloc3d w _ _ _).2.1)
    have D2 := Lib.hid (show W3.heap[w.heap.size + 2]? = some (.cells #[.int .i64 0, .int .i64 0, .int .i64 0] 52 (0, 0)) by rw [← hW]; exact (alloc3d w _ _ _).2.2)
    have G0 := Lib.hid (show Below w.heap.size w W3 by rw [← hW]; exact (((Below.refl _ _).alloc (Nat.le_refl _) _).alloc (by simp) _).alloc (by simp; omega) _)
    have Z0 := Lib.hid (show w.heap.size + 2 < W3.heap.size by rw [← hW]; simp)
    clear hW
    have HD := Lib.hid (show DkAt W3 w.heap.size d (.slice A d.cs.length c) from ⟨cell_of_row _ _ 0 _ _ _ D0.out, cell_of_row _ _ 1 _ _ _ D0.out, by have := Z0.out; omega, HS.out.below G0.out⟩)
    refine (OK.out _ HD.out).mono ?_
    rintro e w1 ⟨rfl, k1⟩
    have R1 := (k1.block (w.heap.size + 1) (by have := Z0.out; omega)).trans D1.out
    have R2 := (k1.block (w.heap.size + 2) Z0.out).trans D2.out
    have r0 : w1.cell? ⟨w.heap.size + 1, 0, none⟩ = some (.int .i64 0) := cell_of_row w1 _ 0 _ _ _ R1
    have r1 : w1.cell? ⟨w.heap.size + 1, 1, none⟩ = some (.int .i64 0) := cell_of_row w1 _ 1 _ _ _ R1
    have r2 : w1.cell? ⟨w.heap.size + 1, 2, none⟩ = some (.int .i64 0) := cell_of_row w1 _ 2 _ _ _ R1
    have s0 : w1.cell? ⟨w.heap.size + 1 + 1, 0, none⟩ = some (.int .i64 0) := cell_of_row w1 _ 0 _ _ _ R2
    have s1 : w1.cell? ⟨w.heap.size + 1 + 1, 1, none⟩ = some (.int .i64 0) := cell_of_row w1 _ 1 _ _ _ R2
    have s2 : w1.cell? ⟨w.heap.size + 1 + 1, 2, none⟩ = some (.int .i64 0) := cell_of_row w1 _ 2 _ _ _ R2
    have fr := fun j => frozen_of_row w1 (w.heap.size + 1) j _ _ R1
    have G1 := Lib.hid (bnext G0.out k1)
    clear R1 R2 k1
    go_wp2
    refine bodyPost_ret (v := .tuple #[.agg #[.int .i64 0, .int .i64 0, .int .i64 0], .int .i64 1]) (by simp [results, Try.results45, go_sem, r0, r1, r2]) rfl ?_
    refine ⟨rfl, ?_⟩
    repeat (refine Below.setCell ?_ (by first | (simp; done) | (simp; omega) | omega) _)
    exact G1.out
  · exact absurd hp (by decide)
  · rw [h2, h4]
    rw [h1] at OK
    have h60 := dk_60 h1
    have DO := Lib.hid (dk_of h1)
    clear h1 h2 h4
    go_enter Try.func45, Try.ntmps45
    go_wp2_with fail
    generalize hW : World.alloc (World.alloc (World.alloc w _) _) _ = W3
    have D0 := Lib.hid (show W3.heap[w.heap.size]? = some (.cells #[.int .i16 d.day, .slice A d.cs.length c] 30 (0, 0)) by rw [← hW]; exact (alloc3d w _ _ _).1)
    have D1 := Lib.hid (show W3.heap[w.heap.size + 1]? = some (.cells #[.int .i64 0, .int .i64 0, .int .i64 0] 52 (0, 0)) by rw [← hW]; exact (alloc3d w _ _ _).2.1)
    have D2 := Lib.hid (show W3.heap[w.heap.size + 2]? = some (.cells #[.int .i64 0, .int .i64 0, .int .i64 0] 52 (0, 0)) by rw [← hW]; exact (alloc3d w _ _ _).2.2)
    have G0 := Lib.hid (show Below w.heap.size w W3 by rw [← hW]; exact (((Below.refl _ _).alloc (Nat.le_refl _) _).alloc (by simp) _).alloc (by simp; omega) _)
    have Z0 := Lib.hid (show w.heap.size + 2 < W3.heap.size by rw [← hW]; simp)
    clear hW
    have HD := Lib.hid (show DkAt W3 w.heap.size d (.slice A d.cs.length c) from ⟨cell_of_row _ _ 0 _ _ _ D0.out, cell_of_row _ _ 1 _ _ _ D0.out, by have := Z0.out; omega, HS.out.below G0.out⟩)
    refine (OK.out _ HD.out).mono ?_
    rintro e w1 ⟨rfl, k1⟩
    have R0 := Lib.hid ((k1.block w.heap.size (by have := Z0.out; omega)).trans D0.out)
    have R1 := Lib.hid ((k1.block (w.heap.size + 1) (by have := Z0.out; omega)).trans D1.out)
    have R2 := Lib.hid (A3At.start ((k1.block (w.heap.size + 2) Z0.out).trans D2.out))
    have G1 := Lib.hid (bnext G0.out k1)
    have Z1 := Lib.hid (Nat.lt_of_lt_of_le Z0.out k1.size)
    clear k1
    go_wp2
    go_loopw [5] (fun i wr => ∃ k : Nat, k ≤ d.cs.length ∧ i = .int .i64 k ∧ A3At wr (w.heap.size + 2) (st3 d.cs k) ∧ Below (w.heap.size + 2) w1 wr) (fun i _ => d.cs.length - (intOf i).toNat)
    case atStart => exact ⟨0, Nat.zero_le _, rfl, by rw [st3_zero]; exact R2.out, Below.refl _ _⟩
    case round =>
      obtain ⟨k, hk, rfl, ha, hb⟩ := hrel
      have HA := Lib.hid ha
      have HB := Lib.hid hb
      have GW := Lib.hid (G1.out.trans (hb.mono (by omega)))
      have X0 := Lib.hid ((hb.block w.heap.size (by omega)).trans R0.out)
      have a1 : wr.cell? ⟨w.heap.size, 1, none⟩ = some (.slice A d.cs.length c) := cell_of_row wr _ 1 _ _ _ X0.out
      clear ha hb
      by_cases hlt : k < d.cs.length
      · obtain ⟨ga, oa, rfl, hga, p0, -, -, -, -⟩ := (HS.out.below GW.out).in0 hlt
        obtain ⟨n, hs1, hs2⟩ := cp_st (DO.out.cp k hlt)
        have ST := Lib.hid (st3_step hlt hs1)
        rw [hs1] at p0
        have f0 := HA.out.cell n hs2
        have fz := HA.out.frozen
        obtain ⟨u1, u2⟩ := st3_in d.cs k n
        clear hs1
        generalize hcn : st3 d.cs k n = cn at f0 u1 u2
        have HC := Lib.hid hcn
        clear hcn
        go_wp2
        go_roundw
        case rel => exact ⟨k + 1, by omega, by go_num, by rw [ST.out, HC.out]; exact HA.out.set n hs2 _, HB.out.setCell (p := ⟨w.heap.size + 2, n, none⟩) (Nat.le_refl _) _⟩
        case measure => simp [intOf]; omega
      · obtain rfl : k = d.cs.length := by omega
        have s0 : wr.cell? ⟨w.heap.size + 1 + 1, 0, none⟩ = some (.int .i64 (st3 d.cs d.cs.length 0)) := HA.out.cell 0 (by omega)
        have s1 : wr.cell? ⟨w.heap.size + 1 + 1, 1, none⟩ = some (.int .i64 (st3 d.cs d.cs.length 1)) := HA.out.cell 1 (by omega)
        have s2 : wr.cell? ⟨w.heap.size + 1 + 1, 2, none⟩ = some (.int .i64 (st3 d.cs d.cs.length 2)) := HA.out.cell 2 (by omega)
        have RR := Lib.hid ((HB.out.block (w.heap.size + 1) (by omega)).trans R1.out)
        have r0 : wr.cell? ⟨w.heap.size + 1, 0, none⟩ = some (.int .i64 0) := cell_of_row wr _ 0 _ _ _ RR.out
        have r1 : wr.cell? ⟨w.heap.size + 1, 1, none⟩ = some (.int .i64 0) := cell_of_row wr _ 1 _ _ _ RR.out
        have r2 : wr.cell? ⟨w.heap.size + 1, 2, none⟩ = some (.int .i64 0) := cell_of_row wr _ 2 _ _ _ RR.out
        have fr := fun j => frozen_of_row wr (w.heap.size + 1) j _ _ RR.out
        generalize he0 : st3 d.cs d.cs.length 0 = x0 at *
        have E0 := Lib.hid he0
        clear he0
        generalize he1 : st3 d.cs d.cs.length 1 = x1 at *
        have E1 := Lib.hid he1
        clear he1
        generalize he2 : st3 d.cs d.cs.length 2 = x2 at *
        have E2 := Lib.hid he2
        clear he2
        go_wp2
        refine bodyPost_ret (v := .tuple #[.agg #[.int .i64 x0, .int .i64 x1, .int .i64 x2], .int .i64 0]) (by simp [results, Try.results45, go_sem, r0, r1, r2]) rfl ?_
        refine ⟨by rw [E0.out, E1.out, E2.out], ?_⟩
        repeat (refine Below.setCell ?_ (by first | (simp; done) | (simp; omega) | omega) _)
        exact GW.out

set_option maxHeartbeats 8000000 in
theorem implCountStates_any (d : Dk) (wf : d.Wf ∧ ∀ c ∈ d.cs, c.q.length ≤ maxLen) (g : Nat) (w : World) (hs : CRowK w g g d.cs d.cs.length d.cs.length) (hn : d.cs.length ≤ maxLen) :
    Calls Try.prog 46 #[.agg #[.int .i16 d.day, .slice (some ⟨g, 0, none⟩) d.cs.length d.cs.length]] w fun e w' => e = .returned (.tuple #[.agg #[.int .i64 (ct3 d 0), .int .i64 (ct3 d 1), .int .i64 (ct3 d 2)], .int .i64 (cnC d 0)]) ∧ Below w.heap.size w w' := by
  have CO := Lib.hid (fun W (h : Below w.heap.size w W) => counterOf_any d wf 0 g W (hs.below h) hn)
  have XW := Lib.hid (show (cnCs d 0).length ≤ 60 ∧ ∀ (i : Nat) (hi : i < (cnCs d 0).length), ∃ n : Nat, (cnCs d 0)[i].st = (n : Int) ∧ n < 3 by
    rcases cn_cases d 0 with ⟨_, _, _, h⟩ | ⟨_, _, _, _, h⟩ | ⟨h1, _, _, _, h⟩
    · rw [h]; simp
    · rw [h]; simp
    · rw [h]; exact ⟨dk_60 h1, fun i hi => cp_st ((dk_of h1).cp i hi)⟩)
  unfold ct3
  clear wf hs
  generalize cnC d 0 = kc at *
  generalize cnDay d 0 = dy at *
  generalize cnCs d 0 = xs at *
  obtain ⟨h60, -⟩ := XW.out
  go_enter Try.func46, Try.ntmps46
  go_wp2_with fail
  generalize hW : World.alloc (World.alloc w _) _ = W2
  have D1 := Lib.hid (show W2.heap[w.heap.size + 1]? = some (.cells #[.int .i64 0, .int .i64 0, .int .i64 0] 52 (0, 0)) by rw [← hW]; exact (alloc2 w _ _).2)
  have G0 := Lib.hid (show Below w.heap.size w W2 by rw [← hW]; exact ((Below.refl _ _).alloc (Nat.le_refl _) _).alloc (by simp) _)
  have Z0 := Lib.hid (show w.heap.size + 1 < W2.heap.size by rw [← hW]; simp)
  clear hW
  refine (CO.out _ G0.out).mono ?_
  rintro e w1 ⟨v, rfl, hit, k1⟩
  obtain ⟨A3, c3, rfl⟩ := hit.form
  have HIT := Lib.hid hit
  have G1 := Lib.hid (bnext G0.out k1)
  have R1 := Lib.hid ((k1.block (w.heap.size + 1) Z0.out).trans D1.out)
  have Z1 := Lib.hid (Nat.lt_of_lt_of_le Z0.out k1.size)
  clear hit k1
  go_wp2
  generalize hW : World.alloc (World.alloc w1 _) _ = W4
  have T1 := Lib.hid (A3At.start (show W4.heap[w1.heap.size + 1]? = some (.cells #[.int .i64 0, .int .i64 0, .int .i64 0] 52 (0, 0)) by rw [← hW]; exact (alloc2 w1 _ _).2))
  have GA := Lib.hid (show Below w1.heap.size w1 W4 by rw [← hW]; exact ((Below.refl _ _).alloc (Nat.le_refl _) _).alloc (by simp) _)
  have ZA := Lib.hid (show w1.heap.size + 1 < W4.heap.size by rw [← hW]; simp)
  clear hW
  go_loopw [17] (fun i wr => ∃ k : Nat, k ≤ xs.length ∧ i = .int .i64 k ∧ A3At wr (w1.heap.size + 1) (st3 xs k) ∧ Below (w1.heap.size + 1) W4 wr) (fun i _ => xs.length - (intOf i).toNat)
  case atStart => exact ⟨0, Nat.zero_le _, rfl, by rw [st3_zero]; exact T1.out, Below.refl _ _⟩
  case round =>
    obtain ⟨k, hk, rfl, ha, hb⟩ := hrel
    have HA := Lib.hid ha
    have HB := Lib.hid hb
    have zz := hb.size
    have z4 := ZA.out
    have GW := Lib.hid (show Below w1.heap.size w1 wr from GA.out.trans (hb.mono (by omega)))
    clear ha hb
    by_cases hlt : k < xs.length
    · obtain ⟨gi, rfl, hgi, hgl, p0, p1, p2, p3, u, p4, hq⟩ := (HIT.out.below GW.out).at_ hlt
      obtain ⟨A5, c5, rfl⟩ := hq.form
      obtain ⟨n, hs1, hs2⟩ := XW.out.2 k hlt
      have ST := Lib.hid (st3_step hlt hs1)
      rw [hs1] at p0
      obtain ⟨u1, u2⟩ := st3_in xs k n
      clear hq hs1
      generalize hx : xs[k] = x at p1 p2 p3 p4
      clear hx
      generalize hcn : st3 xs k n = cn at u1 u2
      have HC := Lib.hid hcn
      clear hcn
      have A0 := Lib.hid (show Below wr.heap.size wr (wr.alloc (.cells #[.int .i64 (n : Int), .int .i64 x.who, .int .i64 x.due, .int .i64 x.ren, .slice A5 x.q.length c5] 84)) from (Below.refl _ _).alloc (Nat.le_refl _) _)
      have X0 := Lib.hid (heap_alloc_new wr (.cells #[.int .i64 (n : Int), .int .i64 x.who, .int .i64 x.due, .int .i64 x.ren, .slice A5 x.q.length c5] 84))
      go_upto_region 6 with (fail)
      generalize World.alloc wr _ = W6 at A0 X0 ⊢
      have H6 := Lib.hid (HA.out.below A0.out (by omega))
      have f0 := H6.out.cell n hs2
      rw [HC.out] at f0
      have fz := H6.out.frozen
      have b0 : W6.cell? ⟨wr.heap.size, 0, none⟩ = some (.int .i64 (n : Int)) := cell_of_row W6 _ 0 _ _ _ X0.out
      clear p0 p1 p2 p3 p4
      go_wp2
      go_roundw
      case rel => exact ⟨k + 1, by omega, by go_num, by rw [ST.out, HC.out]; exact H6.out.set n hs2 _, (HB.out.trans (A0.out.mono (by omega))).setCell (p := ⟨w1.heap.size + 1, n, none⟩) (Nat.le_refl _) _⟩
      case measure => simp [intOf]; omega
    · obtain rfl : k = xs.length := by omega
      have s0 := HA.out.cell 0 (by omega)
      have s1 := HA.out.cell 1 (by omega)
      have s2 := HA.out.cell 2 (by omega)
      have z1 := Z1.out
      have RR := Lib.hid ((GW.out.block (w.heap.size + 1) Z1.out).trans R1.out)
      have r0 : wr.cell? ⟨w.heap.size + 1, 0, none⟩ = some (.int .i64 0) := cell_of_row wr _ 0 _ _ _ RR.out
      have r1 : wr.cell? ⟨w.heap.size + 1, 1, none⟩ = some (.int .i64 0) := cell_of_row wr _ 1 _ _ _ RR.out
      have r2 : wr.cell? ⟨w.heap.size + 1, 2, none⟩ = some (.int .i64 0) := cell_of_row wr _ 2 _ _ _ RR.out
      have fr := fun j => frozen_of_row wr (w.heap.size + 1) j _ _ RR.out
      generalize he0 : st3 xs xs.length 0 = x0 at *
      have E0 := Lib.hid he0
      clear he0
      generalize he1 : st3 xs xs.length 1 = x1 at *
      have E1 := Lib.hid he1
      clear he1
      generalize he2 : st3 xs xs.length 2 = x2 at *
      have E2 := Lib.hid he2
      clear he2
      go_wp2
      refine bodyPost_ret (v := .tuple #[.agg #[.int .i64 x0, .int .i64 x1, .int .i64 x2], .int .i64 kc]) (by simp [results, Try.results46, go_sem, r0, r1, r2]) rfl ?_
      refine ⟨by rw [E0.out, E1.out, E2.out], ?_⟩
      repeat (refine Below.setCell ?_ (by first | (simp; done) | (simp; omega) | omega) _)
      exact bnext G1.out GW.out

/-! ### the law's comparison -/
set_option maxHeartbeats 1000000 in
theorem eqArr3d_same (x0 x1 x2 : Int) (w : World) :
    Calls Try.prog 47 #[.agg #[.int .i64 x0, .int .i64 x1, .int .i64 x2], .agg #[.int .i64 x0, .int .i64 x1, .int .i64 x2]] w fun e w' => e = .returned (.bool true) ∧ Below w.heap.size w w' := by
  have AL := Lib.hid (alloc2 w (.cells #[.int .i64 x0, .int .i64 x1, .int .i64 x2] 52) (.cells #[.int .i64 x0, .int .i64 x1, .int .i64 x2] 52))
  have G0 := Lib.hid (show Below w.heap.size w ((w.alloc (.cells #[.int .i64 x0, .int .i64 x1, .int .i64 x2] 52)).alloc (.cells #[.int .i64 x0, .int .i64 x1, .int .i64 x2] 52)) from ((Below.refl _ _).alloc (Nat.le_refl _) _).alloc (by simp) _)
  have of3 : ∀ (W : World) (g : Nat), W.heap[g]? = some (.cells #[.int .i64 x0, .int .i64 x1, .int .i64 x2] 52 (0, 0)) → A3At W g (fun h => if h = 0 then x0 else if h = 1 then x1 else x2) := by
    intro W g h
    refine ⟨_, h, rfl, fun j hj => ?_⟩
    have : j = 0 ∨ j = 1 ∨ j = 2 := by omega
    rcases this with rfl | rfl | rfl <;> rfl
  have B0 := Lib.hid (of3 _ _ AL.out.1)
  have B1 := Lib.hid (of3 _ _ AL.out.2)
  have Z := Lib.hid (show w.heap.size + 2 ≤ ((w.alloc (.cells #[.int .i64 x0, .int .i64 x1, .int .i64 x2] 52)).alloc (.cells #[.int .i64 x0, .int .i64 x1, .int .i64 x2] 52)).heap.size by simp)
  clear of3 AL
  go_enter Try.func47, Try.ntmps47
  go_wp2
  generalize (w.alloc _).alloc _ = W at G0 B0 B1 Z ⊢
  generalize (fun h => if h = 0 then x0 else if h = 1 then x1 else x2) = f at B0 B1
  go_loopw [5] (fun i wr => ∃ k : Nat, k ≤ 3 ∧ i = .int .i64 k ∧ Below (w.heap.size + 2) W wr) (fun i _ => 3 - (intOf i).toNat)
  case atStart => exact ⟨0, Nat.zero_le _, rfl, Below.refl _ _⟩
  case round =>
    obtain ⟨k, hk, rfl, hb⟩ := hrel
    by_cases hlt : k < 3
    · have p0 := (B0.out.below hb (by omega)).cell k hlt
      have q0 := (B1.out.below hb (by omega)).cell k hlt
      go_wp2
      go_quiet (fail)
      clear p0 q0
      go_wp2
      go_roundw
      case rel => exact ⟨k + 1, by omega, by go_num, below_drewN hb _⟩
      case measure => simp [intOf]; omega
    · obtain rfl : k = 3 := by omega
      go_wp2
      go_ret
      exact ⟨rfl, G0.out.trans (hb.mono (by omega))⟩
end Go.Proofs.Ytmafjncaigllbaa
