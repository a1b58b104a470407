/- How tall a case is, by the model and by the program: contracts. Condition: numbers within their kinds, slices no longer than can be. -/
import Derived.Test.YtblgoflkcomncaaOkH
namespace Go.Proofs.Ytblgoflkcomncaa
set_option linter.unusedSimpArgs false
set_option linter.unusedVariables false
set_option maxRecDepth 100000
open Go.RowKit

def allB (ss : List Int) (m : Int) : Bool := ss.all (fun s => inB s 0 m)
def cntB (hs ss : List Int) (m : Int) : Bool := allB ss m && decide (ss.length = hs.length)
theorem allB_drop {ss : List Int} {m : Int} {k : Nat} (h : k < ss.length) : allB (ss.drop k) m = (inB ss[k] 0 m && allB (ss.drop (k + 1)) m) := by
  unfold allB
  rw [List.drop_eq_getElem_cons h, List.all_cons]
theorem allB_get {ss : List Int} {m : Int} (h : allB ss m = true) {k : Nat} (hk : k < ss.length) : 0 ≤ ss[k] ∧ ss[k] ≤ m := by
  unfold allB at h
  rw [List.all_eq_true] at h
  have := h _ (List.getElem_mem hk)
  unfold inB at this
  simpa using this
def talTo (p : Pg) (hs ss : List Int) : Nat → Int
  | 0 => p.bo
  | k + 1 => talTo p hs ss k + ss.getD k 0 * (hs.getD k 0 + p.bo)
def tlC (p : Pg) (hs ss : List Int) : Int := if hsB p hs = false then 1 else if cntB hs ss 60 = false then 2 else 0
def tlV (p : Pg) (hs ss : List Int) : Int := if hsB p hs && cntB hs ss 60 then talTo p hs ss hs.length else 0
theorem tl_cases (p : Pg) (hs ss : List Int) : (hsB p hs = false ∧ tlV p hs ss = 0 ∧ tlC p hs ss = 1) ∨ (hsB p hs = true ∧ cntB hs ss 60 = false ∧ tlV p hs ss = 0 ∧ tlC p hs ss = 2) ∨ (hsB p hs = true ∧ cntB hs ss 60 = true ∧ tlV p hs ss = talTo p hs ss hs.length ∧ tlC p hs ss = 0) := by
  unfold tlV tlC
  cases hsB p hs <;> cases cntB hs ss 60 <;> simp

set_option maxHeartbeats 4000000 in
theorem l04Counts_any (v v2 : Value) (hs ss : List Int) (m : Int) (w : World) (s1 : IntsOf .i64 w v hs) (s2 : IntsOf .i64 w v2 ss) (h1 : hs.length ≤ maxLen) (h2 : ss.length ≤ maxLen) :
    Calls Try.prog 71 #[v, v2, .int .i64 m] w fun e w' => e = .returned (.bool (cntB hs ss m)) ∧ Below w.heap.size w w' := by
  obtain ⟨A, c, rfl, -⟩ := s1
  obtain ⟨B, d, rfl, hat⟩ := s2
  have HA := Lib.hid hat
  unfold maxLen at h1 h2
  clear hat
  obtain ⟨R, hR⟩ : ∃ R, allB ss m = R := ⟨_, rfl⟩
  have E := Lib.hid (show cntB hs ss m = (R && decide (ss.length = hs.length)) by unfold cntB; rw [hR])
  have HR := Lib.hid hR
  clear hR
  go_enter Try.func71, Try.ntmps71
  go_wp2
  go_loopw [7] (fun i_ wr => ∃ k : Nat, i_ = .int .i64 (k : Int) ∧ k ≤ ss.length ∧ allB (ss.drop k) m = R ∧ Below w.heap.size w wr) (fun i_ _ => ss.length - (intOf i_).toNat)
  case atStart => exact ⟨0, rfl, Nat.zero_le _, HR.out, Below.refl _ _⟩
  case round =>
    obtain ⟨k, rfl, hk, hF, hb⟩ := hrel
    have HF := Lib.hid hF
    clear hF
    by_cases hlt : k < ss.length
    · obtain ⟨gb, ob, rfl, hgb, hcells⟩ := HA.out (by omega)
      have q0 := (hcells.below hb hgb) k hlt
      have HF1 := Lib.hid ((allB_drop (m := m) hlt).symm.trans HF.out)
      generalize ss[k] = s at q0 HF1
      clear hcells
      cases t1 : inB s 0 m
      · have E2 := Lib.hid (show R = false by rw [← HF1.out, t1]; rfl)
        go_wp2_with (go_at_call 70; refine (l00In_any _ _ _ _).mono ?_; rintro e w' ⟨rfl, rfl⟩)
        go_ret
        exact ⟨by rw [E.out, E2.out]; rfl, hb⟩
      · have E2 := Lib.hid (show allB (ss.drop (k + 1)) m = R by rw [← HF1.out, t1]; rfl)
        go_wp2_with (go_at_call 70; refine (l00In_any _ _ _ _).mono ?_; rintro e w' ⟨rfl, rfl⟩)
        go_roundw
        case rel => exact ⟨k + 1, by go_num, by omega, E2.out, hb⟩
        case measure => simp [intOf]; omega
    · obtain rfl : k = ss.length := by omega
      have E2 := Lib.hid (show R = true by rw [← HF.out, List.drop_length]; rfl)
      by_cases hl : ss.length = hs.length
      · have hd : ((ss.length : Int) == (hs.length : Int)) = true := by simp [hl]
        have E3 := Lib.hid (show cntB hs ss m = true by rw [E.out, E2.out, decide_eq_true hl]; rfl)
        go_wp2
        go_ret
        exact ⟨by rw [E3.out]; simp [hl], hb⟩
      · have hd : ((ss.length : Int) == (hs.length : Int)) = false := by rw [beq_eq_false_iff_ne]; omega
        have E3 := Lib.hid (show cntB hs ss m = false by rw [E.out, E2.out, decide_eq_false hl]; rfl)
        go_wp2
        go_ret
        exact ⟨by rw [E3.out]; simp [hl], hb⟩

set_option maxHeartbeats 1000000 in
theorem areCounts1_any (x m : Int) (bx : Nat) (w : World) (hb : w.cell? ⟨bx, 0, none⟩ = some (.int .i64 m)) :
    Calls Try.prog 129 #[.int .i64 x, .pointer (some ⟨bx, 0, none⟩)] w fun e w' => e = .returned (.bool (!inB x 0 m)) ∧ w = w' := by
  cases h : inB x 0 m
  · go_enter Try.func129, Try.ntmps129
    go_wp2_with (go_at_call 74; refine (w16_any _ _ _ _).mono ?_; rintro e w' ⟨rfl, rfl⟩)
    go_ret
    exact ⟨rfl, rfl⟩
  · go_enter Try.func129, Try.ntmps129
    go_wp2_with (go_at_call 74; refine (w16_any _ _ _ _).mono ?_; rintro e w' ⟨rfl, rfl⟩)
    go_ret
    exact ⟨rfl, rfl⟩

set_option maxHeartbeats 4000000 in
theorem indexCnt_any (v2 : Value) (ss : List Int) (m : Int) (bx : Nat) (w : World) (s2 : IntsOf .i64 w v2 ss) (h2 : ss.length ≤ maxLen) (hb : w.cell? ⟨bx, 0, none⟩ = some (.int .i64 m)) (hB : bx < w.heap.size) :
    Calls Try.prog 168 #[v2, .func (.func 129) #[] #[.pointer (some ⟨bx, 0, none⟩)]] w fun e w' => (∃ r : Int, e = .returned (.int .i64 r) ∧ decide (0 ≤ r) = !allB ss m) ∧ Below w.heap.size w w' := by
  obtain ⟨B, d, rfl, hat⟩ := s2
  have HA := Lib.hid hat
  have HB := Lib.hid hb
  unfold maxLen at h2
  clear hat hb
  obtain ⟨R, hR⟩ : ∃ R, allB ss m = R := ⟨_, rfl⟩
  have HR := Lib.hid hR
  rw [hR]
  clear hR
  go_enter Try.func168, Try.ntmps168
  go_wp2
  go_loopw [8] (fun i_ wr => ∃ k : Nat, i_ = .int .i64 (k : Int) ∧ k ≤ ss.length ∧ allB (ss.drop k) m = R ∧ Below w.heap.size w wr) (fun i_ _ => ss.length - (intOf i_).toNat)
  case atStart => exact ⟨0, rfl, Nat.zero_le _, HR.out, Below.refl _ _⟩
  case round =>
    obtain ⟨k, rfl, hk, hF, hbel⟩ := hrel
    have HF := Lib.hid hF
    clear hF
    by_cases hlt : k < ss.length
    · obtain ⟨gb, ob, rfl, hgb, hcells⟩ := HA.out (by omega)
      have q0 := (hcells.below hbel hgb) k hlt
      have HF1 := Lib.hid ((allB_drop (m := m) hlt).symm.trans HF.out)
      have CC := Lib.hid ((hbel.cell (p := ⟨bx, 0, none⟩) hB).trans HB.out)
      generalize ss[k] = s at q0 HF1
      clear hcells
      cases t1 : inB s 0 m
      · have E2 := Lib.hid (show R = false by rw [← HF1.out, t1]; rfl)
        go_wp2_with (go_at_call 129; refine (areCounts1_any s m bx _ CC.out).mono ?_; rintro e w' ⟨rfl, rfl⟩; rw [t1])
        go_ret
        exact ⟨⟨_, rfl, by rw [E2.out]; simp⟩, hbel⟩
      · have E2 := Lib.hid (show allB (ss.drop (k + 1)) m = R by rw [← HF1.out, t1]; rfl)
        go_wp2_with (go_at_call 129; refine (areCounts1_any s m bx _ CC.out).mono ?_; rintro e w' ⟨rfl, rfl⟩; rw [t1])
        go_roundw
        case rel => exact ⟨k + 1, by go_num, by omega, E2.out, hbel⟩
        case measure => simp [intOf]; omega
    · obtain rfl : k = ss.length := by omega
      have E2 := Lib.hid (show R = true by rw [← HF.out, List.drop_length]; rfl)
      go_wp2
      go_ret
      exact ⟨⟨_, rfl, by rw [E2.out]; rfl⟩, hbel⟩

set_option maxHeartbeats 1000000 in
theorem containsCnt_any (v2 : Value) (ss : List Int) (m : Int) (bx : Nat) (w : World) (s2 : IntsOf .i64 w v2 ss) (h2 : ss.length ≤ maxLen) (hb : w.cell? ⟨bx, 0, none⟩ = some (.int .i64 m)) (hB : bx < w.heap.size) :
    Calls Try.prog 128 #[v2, .func (.func 129) #[] #[.pointer (some ⟨bx, 0, none⟩)]] w fun e w' => e = .returned (.bool (!allB ss m)) ∧ Below w.heap.size w w' := by
  have CC := Lib.hid (indexCnt_any v2 ss m bx w s2 h2 hb hB)
  clear s2 h2 hb
  go_enter Try.func128, Try.ntmps128
  go_wp2_with fail
  refine (CC.out).mono ?_
  rintro e w1 ⟨⟨r, rfl, hr⟩, g1⟩
  have HRR := Lib.hid hr
  clear CC hr
  go_wp2
  go_ret
  exact ⟨by rw [← HRR.out]; rfl, g1⟩

set_option maxHeartbeats 2000000 in
theorem areCounts_any (v v2 : Value) (hs ss : List Int) (m : Int) (w : World) (s1 : IntsOf .i64 w v hs) (s2 : IntsOf .i64 w v2 ss) (h1 : hs.length ≤ maxLen) (h2 : ss.length ≤ maxLen) :
    Calls Try.prog 75 #[v, v2, .int .i64 m] w fun e w' => e = .returned (.bool (cntB hs ss m)) ∧ Below w.heap.size w w' := by
  have G0 := Lib.hid (show Below w.heap.size w (w.alloc (.cells #[.int .i64 m] 2)) by go_grown)
  have S2 := Lib.hid (s2.below G0.out)
  have CB := Lib.hid (cell_of_row _ _ 0 _ _ _ (heap_alloc_new w (.cells #[.int .i64 m] 2)))
  have ZB := Lib.hid (show w.heap.size < (w.alloc (.cells #[.int .i64 m] 2)).heap.size by simp)
  obtain ⟨A, c, rfl, -⟩ := s1
  obtain ⟨B, d, rfl, -⟩ := s2
  have H2 := Lib.hid h2
  unfold maxLen at h1 h2
  by_cases hl : hs.length = ss.length
  · have hd : ((hs.length : Int) == (ss.length : Int)) = true := by simp [hl]
    have E := Lib.hid (show cntB hs ss m = allB ss m by unfold cntB; rw [decide_eq_true hl.symm, Bool.and_true])
    go_enter Try.func75, Try.ntmps75
    go_wp2_with fail
    refine (containsCnt_any _ ss m w.heap.size _ S2.out H2.out CB.out ZB.out).mono ?_
    rintro e w1 ⟨rfl, g1⟩
    generalize allB ss m = R at E ⊢
    cases R
    · go_wp2
      go_ret
      exact ⟨by rw [E.out]; rfl, bnext G0.out g1⟩
    · go_wp2
      go_ret
      exact ⟨by rw [E.out]; rfl, bnext G0.out g1⟩
  · have hd : ((hs.length : Int) == (ss.length : Int)) = false := by rw [beq_eq_false_iff_ne]; omega
    have E := Lib.hid (show cntB hs ss m = false by unfold cntB; rw [decide_eq_false (by omega), Bool.and_false])
    go_enter Try.func75, Try.ntmps75
    go_wp2
    go_ret
    exact ⟨by rw [E.out]; simp [hl], G0.out⟩

end Go.Proofs.Ytblgoflkcomncaa
