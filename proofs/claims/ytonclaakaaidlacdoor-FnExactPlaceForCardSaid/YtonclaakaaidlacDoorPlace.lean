/- PlaceFor, by the model and by the program: contracts. Condition: the three error variables hold three different errors of errors.New's make; at most 1048576 books. -/
import Derived.Test.YtonclaakaaidlacDoorAsked
import Derived.Test.YtonclaakaaidlacDoorPlaceW
namespace Go.Proofs.YtonclaakaaidlacDoor
set_option linter.unusedSimpArgs false
set_option linter.unusedVariables false
set_option maxRecDepth 100000
open Go.RowKit

def pfAsk (xs : List Bk) (z : Bk) : Int := if bookB z then askS xs else 1
def pfCode (xs : List Bk) (z : Bk) : Int := if pfAsk xs z ≠ 0 then pfAsk xs z else if xs.length = 60 then 3 else 0
def pfR (xs : List Bk) (z : Bk) : Int := if pfCode xs z = 0 then (xs.findIdx (fun b => decide (usual z b < 0)) : Int) else 0
theorem pf_bad {xs : List Bk} {z : Bk} (h : bookB z = false) : pfR xs z = 0 ∧ pfCode xs z = 1 := by
  have e : pfCode xs z = 1 := by unfold pfCode pfAsk; rw [h]; rfl
  exact ⟨by unfold pfR; rw [e]; rfl, e⟩
theorem pf_ask {xs : List Bk} {z : Bk} (hb : bookB z = true) (h : askS xs ≠ 0) : pfR xs z = 0 ∧ pfCode xs z = askS xs := by
  have e : pfCode xs z = askS xs := by unfold pfCode pfAsk; rw [hb, if_pos rfl, if_pos h]
  exact ⟨by unfold pfR; rw [e, if_neg h], e⟩
theorem pf_full {xs : List Bk} {z : Bk} (hb : bookB z = true) (h : askS xs = 0) (hl : xs.length = 60) : pfR xs z = 0 ∧ pfCode xs z = 3 := by
  have e : pfCode xs z = 3 := by unfold pfCode pfAsk; rw [hb, if_pos rfl, if_neg (by omega), if_pos hl]
  exact ⟨by unfold pfR; rw [e]; rfl, e⟩
theorem pf_ok {xs : List Bk} {z : Bk} (hb : bookB z = true) (h : askS xs = 0) (hl : xs.length ≠ 60) : pfR xs z = (xs.findIdx (fun b => decide (usual z b < 0)) : Int) ∧ pfCode xs z = 0 := by
  have e : pfCode xs z = 0 := by unfold pfCode pfAsk; rw [hb, if_pos rfl, if_neg (by omega), if_neg hl]
  exact ⟨by unfold pfR; rw [e]; rfl, e⟩
theorem askS_14 {xs : List Bk} (h : askS xs ≠ 0) : (askS xs = 1 ∧ okB xs = false) ∨ (askS xs = 4 ∧ okB xs = true ∧ 0 ≤ firstOut xs) := by
  unfold askS at h ⊢
  cases hk : okB xs
  · exact .inl ⟨rfl, rfl⟩
  · rw [hk] at h
    by_cases hf : firstOut xs < 0
    · rw [if_pos rfl, if_pos hf] at h; exact absurd rfl h
    · exact .inr ⟨by rw [if_pos rfl, if_neg hf], rfl, by omega⟩
theorem place_is {xs : List Bk} (wf : ∀ b ∈ xs, b.Wf) {z : Bk} (wz : z.Wf) (hno : NoneTo xs xs.length) {i : Nat} (hi : i ≤ xs.length) (h1 : ∀ (t : Nat) (ht : t < xs.length), i ≤ t → usual z xs[t] < 0) (h2 : ∀ (h : 0 < i), ¬ usual z (xs[i - 1]'(by omega)) < 0) : xs.findIdx (fun b => decide (usual z b < 0)) = i := by
  have low : ∀ (t : Nat) (ht : t < xs.length), t < i → decide (usual z xs[t] < 0) = false := by
    intro t ht hti
    refine decide_eq_false ?_
    have a := h2 (by omega)
    rw [usual_lt _ _ wz (wf _ (List.getElem_mem _))] at a ⊢
    have := sorted_le wf hno ht (show i - 1 < xs.length by omega) (by omega)
    omega
  by_cases hx : i < xs.length
  · exact (List.findIdx_eq hx).2 ⟨decide_eq_true (h1 i hx (Nat.le_refl _)), fun t ht => low t (by omega) ht⟩
  · obtain rfl : i = xs.length := by omega
    rw [List.findIdx_eq_length]
    intro x hx2
    obtain ⟨t, ht, rfl⟩ := List.getElem_of_mem hx2
    simpa using low t ht ht

set_option maxHeartbeats 4000000 in
theorem l01Place_any (v : Value) (xs : List Bk) (wf : ∀ b ∈ xs, b.Wf) (z : Bk) (wz : z.Wf) (B : Nat) (w : World) (hs : SliceOf w v xs) (hn : xs.length ≤ 60) (hno : NoneTo xs xs.length) (hb : BkAt w B 0 z) :
    Calls Tryd.prog 31 #[v, .pointer (some ⟨B, 0, none⟩)] w fun e w' => e = .returned (.int .i64 (xs.findIdx (fun b => decide (usual z b < 0)) : Int)) ∧ Below w.heap.size w w' := by
  obtain ⟨A, c, rfl, hs⟩ := hs
  have HS := Lib.hid hs
  have WF := Lib.hid wf
  have HB := Lib.hid hb
  have HNO := Lib.hid hno
  clear hs wf hb hno
  go_enter Tryd.func31, Tryd.ntmps31
  go_wp2
  go_loopw [5] (fun i_ wr => ∃ i : Nat, i ≤ xs.length ∧ i_ = .int .i64 (i : Int) ∧ (∀ (t : Nat) (ht : t < xs.length), i ≤ t → usual z xs[t] < 0) ∧ Below w.heap.size w wr) (fun i_ _ => (intOf i_).toNat)
  case atStart => exact ⟨xs.length, Nat.le_refl _, rfl, fun t ht h => absurd ht (by omega), Below.refl _ _⟩
  case round =>
    obtain ⟨i, hi, rfl, hall, hbel⟩ := hrel
    have HALL := Lib.hid hall
    clear hall
    rcases i with _ | m
    · have E := Lib.hid (place_is WF.out wz HNO.out hi HALL.out (fun h => absurd h (by omega)))
      have e1 : ¬ ((0 : Int) < 0) := by omega
      go_wp2
      go_ret
      exact ⟨by rw [E.out]; rfl, hbel⟩
    · have hmx : m < xs.length := by omega
      obtain ⟨ga, oa, rfl, hga, hat⟩ := HS.out (by omega)
      have A1 := Lib.hid ((hat.below hbel hga).at_ (Nat.lt_of_lt_of_le hga hbel.size) hmx)
      have A0 := Lib.hid (HB.out.below hbel HB.out.1)
      have n1 : IntKind.i64.wrap (((m + 1 : Nat) : Int) - 1) = (m : Int) := by rw [show ((m + 1 : Nat) : Int) - 1 = (m : Int) by omega]; exact IntWalk.i64_in _ (by omega)
      have n2 : ((m + 1 : Nat) : Int) - 1 = (m : Int) := by omega
      have n3 : (m : Int) + 1 - 1 = (m : Int) := by omega
      have n4 : (0 : Int) < (m : Int) + 1 := by omega
      clear hat
      have HU := Lib.hid (fun (W : World) (h0 : BkAt W B 0 z) (h1 : BkAt W ga (oa + m * 8) (xs[m]'hmx)) => l01Usual_any z (xs[m]'hmx) wz (WF.out _ (List.getElem_mem hmx)) B 0 ga (oa + m * 8) W h0 h1)
      have HU2 := Lib.hid (rfl : usual z xs[m] = usual z xs[m])
      generalize hr : usual z xs[m] = r at HU
      go_wp2_with fail
      refine (HU.out _ A0.out A1.out).mono ?_
      rintro e w1 ⟨rfl, h1⟩
      have HR := Lib.hid hr
      by_cases hr0 : r < 0
      · have A2 := Lib.hid (show ∀ (t : Nat) (ht : t < xs.length), m ≤ t → usual z xs[t] < 0 from fun t ht hmt => by
          by_cases e : t = m
          · subst e; rw [HR.out]; exact hr0
          · exact HALL.out t ht (by omega))
        clear hr
        go_wp2
        go_roundw
        case rel => exact ⟨m, by omega, by go_num, A2.out, bnext hbel h1⟩
        case measure => simp [intOf]
      · have E := Lib.hid (place_is WF.out wz HNO.out hi HALL.out (fun _ => by
          have : usual z xs[m] = r := HR.out
          simpa [this] using hr0))
        have hr1 : 0 ≤ r := by omega
        clear hr hr0
        go_wp2
        go_ret
        exact ⟨by rw [E.out]; rfl, bnext hbel h1⟩

def bkC (z : Bk) : Array Value := #[.int .i16 z.c, .int .u8 z.m0, .int .u8 z.m1, .int .u8 z.m2, .int .i16 z.v, .int .i16 z.wi, .int .i16 z.hi, .int .i16 z.we]

set_option maxHeartbeats 4000000 in
theorem specPlaceFor_any (v : Value) (xs : List Bk) (z : Bk) (wz : z.Wf) (wf : ∀ b ∈ xs, b.Wf) (w : World) (hs : SliceOf w v xs) (hm : xs.length ≤ maxLen) :
    Calls Tryd.prog 13 #[v, .agg #[.int .i16 z.c, .int .u8 z.m0, .int .u8 z.m1, .int .u8 z.m2, .int .i16 z.v, .int .i16 z.wi, .int .i16 z.hi, .int .i16 z.we]] w fun e w' => e = .returned (.tuple #[.int .i64 (pfR xs z), .int .i64 (pfCode xs z)]) ∧ Below w.heap.size w w' := by
  have HS := Lib.hid hs
  have WF := Lib.hid wf
  obtain ⟨A, c, rfl, -⟩ := hs
  clear wf
  have HBX := Lib.hid (show Bx (w.alloc (.cells #[.int .i16 z.c, .int .u8 z.m0, .int .u8 z.m1, .int .u8 z.m2, .int .i16 z.v, .int .i16 z.wi, .int .i16 z.hi, .int .i16 z.we] 36)) w.heap.size z from heap_alloc_new w _)
  have G0 := Lib.hid (show Below w.heap.size w (w.alloc (.cells #[.int .i16 z.c, .int .u8 z.m0, .int .u8 z.m1, .int .u8 z.m2, .int .i16 z.v, .int .i16 z.wi, .int .i16 z.hi, .int .i16 z.we] 36)) from (Below.refl _ _).alloc (Nat.le_refl _) _)
  have z0 : w.heap.size < (w.alloc (.cells #[.int .i16 z.c, .int .u8 z.m0, .int .u8 z.m1, .int .u8 z.m2, .int .i16 z.v, .int .i16 z.wi, .int .i16 z.hi, .int .i16 z.we] 36)).heap.size := by simp
  have LB := Lib.hid (show ∀ W, Bx W w.heap.size z → Calls Tryd.prog 30 #[.pointer (some ⟨w.heap.size, 0, none⟩)] W fun e w' => e = .returned (.bool (bookB z)) ∧ Below W.heap.size W w' from fun W h => by
    obtain ⟨q0, q1, q2, q3, q4, q5, q6, q7⟩ := h.cells
    exact l01Book_any z wz w.heap.size 0 W q0 q1 q2 q3 q4 q5 q6 q7 h.lt)
  have LO := Lib.hid (fun W (g : Below w.heap.size w W) => l01Ok_any (.slice A xs.length c) xs WF.out W (HS.out.below g) hm)
  cases hb : bookB z
  · obtain ⟨e1, e2⟩ := pf_bad (xs := xs) hb
    rw [hb] at LB
    have E1 := Lib.hid e1
    have E2 := Lib.hid e2
    clear e1 e2 hb
    go_enter Tryd.func13, Tryd.ntmps13
    go_wp2_with fail
    refine (LB.out _ HBX.out).mono ?_
    rintro e w1 ⟨rfl, h1⟩
    go_wp2
    go_ret2
    exact ⟨by rw [E1.out, E2.out]; rfl, bnext G0.out h1⟩
  · rw [hb] at LB
    by_cases hk : askS xs = 0
    · obtain ⟨hok, hfo⟩ := askS_ok hk
      have h60 : xs.length ≤ 60 := by unfold okB at hok; simp at hok; exact hok.2
      have hno := Lib.hid (sorted_none hfo)
      have hf2 : ¬ 0 ≤ firstOut xs := by omega
      rw [hok] at LO
      by_cases hl : xs.length = 60
      · obtain ⟨e1, e2⟩ := pf_full hb hk hl
        have E1 := Lib.hid e1
        have E2 := Lib.hid e2
        have d0 : ((xs.length : Int) == 60) = true := by simp [hl]
        clear e1 e2 hb hk hok hfo hl
        go_enter Tryd.func13, Tryd.ntmps13
        go_wp2_with fail
        refine (LB.out _ HBX.out).mono ?_
        rintro e w1 ⟨rfl, h1⟩
        go_wp2_with fail
        refine (LO.out _ (bnext G0.out h1)).mono ?_
        rintro e w2 ⟨rfl, h2⟩
        go_wp2_with fail
        refine (l01Out_any _ xs WF.out _ (HS.out.below (bnext (bnext G0.out h1) h2)) hm).mono ?_
        rintro e w3 ⟨rfl, h3⟩
        go_wp2
        go_ret2
        exact ⟨by rw [E1.out, E2.out]; rfl, bnext (bnext (bnext G0.out h1) h2) h3⟩
      · obtain ⟨e1, e2⟩ := pf_ok hb hk hl
        have E1 := Lib.hid e1
        have E2 := Lib.hid e2
        have d0 : ((xs.length : Int) == 60) = false := beq_eq_false_iff_ne.2 (by omega)
        clear e1 e2 hb hk hok hfo hl
        go_enter Tryd.func13, Tryd.ntmps13
        go_wp2_with fail
        refine (LB.out _ HBX.out).mono ?_
        rintro e w1 ⟨rfl, h1⟩
        go_wp2_with fail
        refine (LO.out _ (bnext G0.out h1)).mono ?_
        rintro e w2 ⟨rfl, h2⟩
        go_wp2_with fail
        refine (l01Out_any _ xs WF.out _ (HS.out.below (bnext (bnext G0.out h1) h2)) hm).mono ?_
        rintro e w3 ⟨rfl, h3⟩
        have B3 := Lib.hid (HBX.out.below (bnext (bnext h1 h2) h3) z0)
        have BA := Lib.hid (show BkAt w3 w.heap.size 0 z from ⟨B3.out.lt, B3.out.cells⟩)
        have g3 := Lib.hid (bnext (bnext (bnext G0.out h1) h2) h3)
        go_wp2_with fail
        refine (l01Place_any _ xs WF.out z wz w.heap.size w3 (HS.out.below g3.out) h60 hno.out BA.out).mono ?_
        rintro e w4 ⟨rfl, h4⟩
        go_wp2
        go_ret2
        exact ⟨by rw [E1.out, E2.out]; rfl, bnext g3.out h4⟩
    · obtain ⟨e1, e2⟩ := pf_ask hb hk
      have E1 := Lib.hid e1
      rcases askS_14 hk with ⟨h1, h2⟩ | ⟨h1, h2, h3⟩
      · have E2 := Lib.hid (e2.trans h1)
        rw [h2] at LO
        clear e1 e2 hb hk h1 h2
        go_enter Tryd.func13, Tryd.ntmps13
        go_wp2_with fail
        refine (LB.out _ HBX.out).mono ?_
        rintro e w1 ⟨rfl, h1⟩
        go_wp2_with fail
        refine (LO.out _ (bnext G0.out h1)).mono ?_
        rintro e w2 ⟨rfl, h2⟩
        go_wp2
        go_ret2
        exact ⟨by rw [E1.out, E2.out]; rfl, bnext (bnext G0.out h1) h2⟩
      · have E2 := Lib.hid (e2.trans h1)
        rw [h2] at LO
        clear e1 e2 hb hk h1 h2
        go_enter Tryd.func13, Tryd.ntmps13
        go_wp2_with fail
        refine (LB.out _ HBX.out).mono ?_
        rintro e w1 ⟨rfl, h1⟩
        go_wp2_with fail
        refine (LO.out _ (bnext G0.out h1)).mono ?_
        rintro e w2 ⟨rfl, h2⟩
        go_wp2_with fail
        refine (l01Out_any _ xs WF.out _ (HS.out.below (bnext (bnext G0.out h1) h2)) hm).mono ?_
        rintro e w4 ⟨rfl, h4⟩
        go_wp2
        go_ret2
        exact ⟨by rw [E1.out, E2.out]; rfl, bnext (bnext (bnext G0.out h1) h2) h4⟩

set_option maxHeartbeats 4000000 in
theorem placeFor_any (v : Value) (xs : List Bk) (z : Bk) (wz : z.Wf) (wf : ∀ b ∈ xs, b.Wf) (w : World) (s i y : Addr) (he : Errs w s i y) (hs : SliceOf w v xs) (hn : xs.length ≤ 1048576) (hm : xs.length ≤ maxLen) :
    Calls Tryd.prog 15 #[v, .agg #[.int .i16 z.c, .int .u8 z.m0, .int .u8 z.m1, .int .u8 z.m2, .int .i16 z.v, .int .i16 z.wi, .int .i16 z.hi, .int .i16 z.we]] w fun e w' => e = .returned (.tuple #[.int .i64 (pfR xs z), .int .i64 (pfCode xs z)]) ∧ Below w.heap.size w w' := by
  have HS := Lib.hid hs
  have WF := Lib.hid wf
  have HE := Lib.hid he
  obtain ⟨A, c, rfl, -⟩ := hs
  have isi : Tryd.prog.isIface 51 = true := by kernel_rfl
  have en := fun (X : World) (v : Value) => run_neq_iface_nil (P := Tryd.prog) (w := X) 51 isi 113 v
  have en0 := fun (X : World) => run_neq_nil_nil_at (P := Tryd.prog) (w := X) 51 isi
  have LV := Lib.hid (fun W => validBook_any z W)
  have CK := Lib.hid (fun W g (h0 : Below w.heap.size w W) (hv : W.cell? ⟨g, 0, none⟩ = some (.slice A xs.length c)) (hg : g < W.heap.size) => checkSorted_any (.slice A xs.length c) xs WF.out W g s i y (HE.out.below h0) hv hg (HS.out.below h0) hn hm)
  have HBX := Lib.hid (show Bx (w.alloc (.cells #[.int .i16 z.c, .int .u8 z.m0, .int .u8 z.m1, .int .u8 z.m2, .int .i16 z.v, .int .i16 z.wi, .int .i16 z.hi, .int .i16 z.we] 36)) w.heap.size z from heap_alloc_new w _)
  clear wf he
  cases hb : bookB z
  · obtain ⟨e1, e2⟩ := pf_bad (xs := xs) hb
    rw [hb] at LV
    have E1 := Lib.hid e1
    have E2 := Lib.hid e2
    clear e1 e2 hb
    go_enter Tryd.func15, Tryd.ntmps15
    go_wp2_with fail
    refine (LV.out _).mono ?_
    rintro e w1 ⟨rfl, rfl⟩
    go_wp2
    go_ret2
    exact ⟨by rw [E1.out, E2.out]; rfl, by go_grown⟩
  · rw [hb] at LV
    by_cases hk : askS xs = 0
    · obtain ⟨hok, hfo⟩ := askS_ok hk
      have h60 : xs.length ≤ 60 := by unfold okB at hok; simp at hok; exact hok.2
      have EV : errV xs s i = .nilIface := by unfold errV; rw [hk]; rfl
      by_cases hl : xs.length = 60
      · obtain ⟨e1, e2⟩ := pf_full hb hk hl
        have E1 := Lib.hid e1
        have E2 := Lib.hid e2
        have d0 : ((xs.length : Int) == 60) = true := by simp [hl]
        clear e1 e2 hb hk hok hfo hl
        go_enter Tryd.func15, Tryd.ntmps15
        go_wp2_with fail
        refine (LV.out _).mono ?_
        rintro e w1 ⟨rfl, rfl⟩
        go_wp2_with fail
        generalize hw0 : World.alloc _ _ = W
        have g0 : Below w.heap.size w W := by rw [← hw0]; clear hw0; go_grown
        have q2 : W.cell? ⟨w.heap.size + 2, 0, none⟩ = some (.slice A xs.length c) := by rw [← hw0]; clear hw0; go_simp
        have z2 : w.heap.size + 2 < W.heap.size := by rw [← hw0]; clear hw0; simp
        have HW0 := Lib.hid hw0
        clear hw0
        refine (CK.out W (w.heap.size + 2) g0 q2 z2).mono ?_
        rintro e w2 ⟨rfl, h2⟩
        clear q2
        rw [EV]
        have g2 := bnext g0 h2
        go_wp2
        go_ret2
        exact ⟨by rw [E1.out, E2.out]; rfl, g2⟩
      · obtain ⟨e1, e2⟩ := pf_ok hb hk hl
        have E1 := Lib.hid e1
        have E2 := Lib.hid e2
        have d0 : ((xs.length : Int) == 60) = false := beq_eq_false_iff_ne.2 (by omega)
        clear e1 e2 hb hk hok hfo hl
        go_enter Tryd.func15, Tryd.ntmps15
        go_wp2_with fail
        refine (LV.out _).mono ?_
        rintro e w1 ⟨rfl, rfl⟩
        go_wp2_with fail
        generalize hw0 : World.alloc _ _ = W
        have g0 : Below w.heap.size w W := by rw [← hw0]; clear hw0; go_grown
        have q2 : W.cell? ⟨w.heap.size + 2, 0, none⟩ = some (.slice A xs.length c) := by rw [← hw0]; clear hw0; go_simp
        have z2 : w.heap.size + 2 < W.heap.size := by rw [← hw0]; clear hw0; simp
        have HW0 := Lib.hid hw0
        clear hw0
        refine (CK.out W (w.heap.size + 2) g0 q2 z2).mono ?_
        rintro e w2 ⟨rfl, h2⟩
        clear q2
        rw [EV]
        have g2 := Lib.hid (bnext g0 h2)
        have B2 := Lib.hid (show Bx w2 w.heap.size z from (show Bx W w.heap.size z from HW0.out ▸ (HBX.out.below ((Below.refl (w.alloc (.cells #[.int .i16 z.c, .int .u8 z.m0, .int .u8 z.m1, .int .u8 z.m2, .int .i16 z.v, .int .i16 z.wi, .int .i16 z.hi, .int .i16 z.we] 36)).heap.size (w.alloc (.cells #[.int .i16 z.c, .int .u8 z.m0, .int .u8 z.m1, .int .u8 z.m2, .int .i16 z.v, .int .i16 z.wi, .int .i16 z.hi, .int .i16 z.we] 36))).alloc (Nat.le_refl _) _ |>.alloc (by simp) _) (by simp))).below h2 (by omega))
        clear h2
        go_wp2_with fail
        refine (first_place _ xs z wz w.heap.size WF.out w2 (HS.out.below g2.out) h60 B2.out B2.out.lt).mono ?_
        rintro e w3 ⟨rfl, h3⟩
        go_wp2
        go_ret2
        exact ⟨by rw [E1.out, E2.out]; rfl, bnext g2.out h3⟩
    · obtain ⟨e1, e2⟩ := pf_ask hb hk
      have E1 := Lib.hid e1
      rcases askS_14 hk with ⟨h1, h2⟩ | ⟨h1, h2, h3⟩
      · have EV : errV xs s i = .iface 113 (.pointer (some i)) := by unfold errV; rw [if_pos h1]
        have E2 := Lib.hid (e2.trans h1)
        clear e1 e2 hb hk h1 h2
        go_enter Tryd.func15, Tryd.ntmps15
        go_wp2_with fail
        refine (LV.out _).mono ?_
        rintro e w1 ⟨rfl, rfl⟩
        go_wp2_with fail
        generalize hw0 : World.alloc _ _ = W
        have g0 : Below w.heap.size w W := by rw [← hw0]; clear hw0; go_grown
        have q2 : W.cell? ⟨w.heap.size + 2, 0, none⟩ = some (.slice A xs.length c) := by rw [← hw0]; clear hw0; go_simp
        have z2 : w.heap.size + 2 < W.heap.size := by rw [← hw0]; clear hw0; simp
        have HW0 := Lib.hid hw0
        clear hw0
        refine (CK.out W (w.heap.size + 2) g0 q2 z2).mono ?_
        rintro e w2 ⟨rfl, h2⟩
        clear q2
        rw [EV]
        have g2 := bnext g0 h2
        go_wp2_with fail
        refine (codeOf_invalid _ s i y (HE.out.below g2)).mono ?_
        rintro e w3 ⟨rfl, rfl⟩
        go_wp2
        go_ret2
        exact ⟨by rw [E1.out, E2.out]; rfl, g2⟩
      · have EV : errV xs s i = .iface 113 (.pointer (some s)) := by unfold errV; rw [if_neg (by omega), if_pos h1]
        have E2 := Lib.hid (e2.trans h1)
        clear e1 e2 hb hk h1 h2
        go_enter Tryd.func15, Tryd.ntmps15
        go_wp2_with fail
        refine (LV.out _).mono ?_
        rintro e w1 ⟨rfl, rfl⟩
        go_wp2_with fail
        generalize hw0 : World.alloc _ _ = W
        have g0 : Below w.heap.size w W := by rw [← hw0]; clear hw0; go_grown
        have q2 : W.cell? ⟨w.heap.size + 2, 0, none⟩ = some (.slice A xs.length c) := by rw [← hw0]; clear hw0; go_simp
        have z2 : w.heap.size + 2 < W.heap.size := by rw [← hw0]; clear hw0; simp
        have HW0 := Lib.hid hw0
        clear hw0
        refine (CK.out W (w.heap.size + 2) g0 q2 z2).mono ?_
        rintro e w2 ⟨rfl, h2⟩
        clear q2
        rw [EV]
        have g2 := bnext g0 h2
        go_wp2_with fail
        refine (codeOf_state _ s i y (HE.out.below g2)).mono ?_
        rintro e w3 ⟨rfl, rfl⟩
        go_wp2
        go_ret2
        exact ⟨by rw [E1.out, E2.out]; rfl, g2⟩

end Go.Proofs.YtonclaakaaidlacDoor
