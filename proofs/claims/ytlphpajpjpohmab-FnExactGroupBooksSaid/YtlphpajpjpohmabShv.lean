/- Books that are too wide for shelves; the code of counted shelves: by the model and by the program: contracts. Condition: numbers within their kinds, slices no longer than can be. -/
import Derived.Test.YtlphpajpjpohmabWs
import Derived.BigQuiet
namespace Go.Proofs.Ytlphpajpjpohmab
set_option linter.unusedSimpArgs false
set_option linter.unusedVariables false
set_option maxRecDepth 100000
open Go.RowKit

set_option maxHeartbeats 1000000 in
theorem closWide_any (b : Bk) (wb : b.Wf) (cl : Int) (B : Nat) (w : World) (hb : w.cell? ⟨B, 0, none⟩ = some (.int .i64 cl)) (hB : B < w.heap.size) :
    Calls Try.prog 70 #[.agg #[.int .i16 b.c, .int .u8 b.m0, .int .u8 b.m1, .int .u8 b.m2, .int .i16 b.v, .int .i16 b.wi, .int .i16 b.hi, .int .i16 b.we], .pointer (some ⟨B, 0, none⟩)] w fun e w' => e = .returned (.bool (decide (cl < b.wi))) ∧ Below w.heap.size w w' := by
  have HCL := Lib.hid (fun W => wideKeyP_any b wb W)
  go_enter Try.func70, Try.ntmps70
  go_wp2
  generalize hw0 : World.alloc _ _ = W
  have p0 : W.cell? ⟨w.heap.size, 0, none⟩ = some (.int .i16 b.c) := by rw [← hw0]; clear hw0; go_simp
  have p1 : W.cell? ⟨w.heap.size, 1, none⟩ = some (.int .u8 b.m0) := by rw [← hw0]; clear hw0; go_simp
  have p2 : W.cell? ⟨w.heap.size, 2, none⟩ = some (.int .u8 b.m1) := by rw [← hw0]; clear hw0; go_simp
  have p3 : W.cell? ⟨w.heap.size, 3, none⟩ = some (.int .u8 b.m2) := by rw [← hw0]; clear hw0; go_simp
  have p4 : W.cell? ⟨w.heap.size, 4, none⟩ = some (.int .i16 b.v) := by rw [← hw0]; clear hw0; go_simp
  have p5 : W.cell? ⟨w.heap.size, 5, none⟩ = some (.int .i16 b.wi) := by rw [← hw0]; clear hw0; go_simp
  have p6 : W.cell? ⟨w.heap.size, 6, none⟩ = some (.int .i16 b.hi) := by rw [← hw0]; clear hw0; go_simp
  have p7 : W.cell? ⟨w.heap.size, 7, none⟩ = some (.int .i16 b.we) := by rw [← hw0]; clear hw0; go_simp
  have z0 : w.heap.size < W.heap.size := by rw [← hw0]; clear hw0; simp
  have g0 : Below w.heap.size w W := by rw [← hw0]; clear hw0; go_grown
  have q0 : W.cell? ⟨B, 0, none⟩ = some (.int .i64 cl) := (g0.cell (p := ⟨B, 0, none⟩) hB).trans hb
  have z1 : B < W.heap.size := Nat.lt_of_lt_of_le hB g0.size
  clear hw0 hb
  have p0 := belowBy_cell z0 p0
  have p1 := belowBy_cell z0 p1
  have p2 := belowBy_cell z0 p2
  have p3 := belowBy_cell z0 p3
  have p4 := belowBy_cell z0 p4
  have p5 := belowBy_cell z0 p5
  have p6 := belowBy_cell z0 p6
  have p7 := belowBy_cell z0 p7
  have q0 := belowBy_cell z1 q0
  refine wp_region_below (by kernel_rfl) (by kernel_rfl) ?_
  repeat (quiet_step ((go_at_call 55; exact calls_below (HCL.out _))))
  refine wpQuiet_nil ?_
  rintro _ ⟨⟨wq, hq⟩, rfl⟩
  clear p0 p1 p2 p3 p4 p5 p6 p7 q0
  go_wp2
  go_ret
  exact ⟨rfl, bnext g0 hq⟩

def widx (xs : List Bk) (cl : Int) : Int := if xs.any (fun b => decide (cl < b.wi)) then (xs.findIdx (fun b => decide (cl < b.wi)) : Int) else -1
theorem widx_at {xs : List Bk} {cl : Int} {j : Nat} (hj : j < xs.length) (h : (decide (cl < xs[j].wi)) = true) (hp : ∀ (t : Nat) (ht : t < j), (decide (cl < (xs[t]'(by omega)).wi)) = false) : widx xs cl = j := by
  unfold widx
  rw [if_pos (by rw [List.any_eq_true]; exact ⟨xs[j], List.getElem_mem hj, h⟩)]
  congr 1
  exact (List.findIdx_eq hj).2 ⟨h, hp⟩
theorem widx_none {xs : List Bk} {cl : Int} (hp : ∀ (t : Nat) (ht : t < xs.length), (decide (cl < xs[t].wi)) = false) : widx xs cl = -1 := by
  unfold widx
  rw [if_neg]
  rw [List.any_eq_true]
  rintro ⟨b, hb, h⟩
  obtain ⟨t, ht, rfl⟩ := List.getElem_of_mem hb
  rw [hp t ht] at h
  cases h
theorem widx_any (xs : List Bk) (cl : Int) : decide (0 ≤ widx xs cl) = xs.any (fun b => decide (cl < b.wi)) := by
  unfold widx
  cases xs.any (fun b => decide (cl < b.wi)) <;> simp

set_option maxHeartbeats 4000000 in
theorem windexBooks_any (v : Value) (xs : List Bk) (cl : Int) (B : Nat) (wf : ∀ b ∈ xs, b.Wf) (w : World) (sl : SliceOf w v xs) (hn : xs.length ≤ 60) (hb : w.cell? ⟨B, 0, none⟩ = some (.int .i64 cl)) (hB : B < w.heap.size) :
    Calls Try.prog 79 #[v, .func (.func 70) #[] #[.pointer (some ⟨B, 0, none⟩)]] w fun e w' => e = .returned (.int .i64 (widx xs cl)) ∧ Below w.heap.size w w' := by
  obtain ⟨A, m, rfl, sl⟩ := sl
  have SL := Lib.hid sl
  have HBC := Lib.hid hb
  have WF := Lib.hid wf
  clear sl hb wf
  go_enter Try.func79, Try.ntmps79
  go_wp2
  go_loopw [8] (fun s wr => ∃ j : Nat, j ≤ xs.length ∧ s = .int .i64 (j : Int) ∧ (∀ (t : Nat) (ht : t < xs.length), t < j → (decide (cl < xs[t].wi)) = false) ∧ Below w.heap.size w wr) (fun s _ => xs.length - (intOf s).toNat)
  case atStart => exact ⟨0, Nat.zero_le _, rfl, fun _ _ h => absurd h (Nat.not_lt_zero _), Below.refl _ _⟩
  case round =>
    obtain ⟨j, hj, rfl, hp, hbel⟩ := hrel
    have HP := Lib.hid hp
    clear hp
    by_cases hlt : j < xs.length
    · obtain ⟨ga, oa, rfl, hga, hat⟩ := SL.out (by omega)
      obtain ⟨p0, p1, p2, p3, p4, p5, p6, p7⟩ := booksAt_some (hat.below hbel hga) hlt
      have hbc := Lib.hid ((hbel.cell (p := ⟨B, 0, none⟩) hB).trans HBC.out)
      have WB := Lib.hid (WF.out _ (List.getElem_mem hlt))
      clear hat
      cases hc : (decide (cl < xs[j].wi))
      · have E2 := Lib.hid (show ∀ (t : Nat) (ht : t < xs.length), t < j + 1 → (decide (cl < xs[t].wi)) = false from fun t ht htj => by
          by_cases e : t = j
          · subst e; exact hc
          · exact HP.out t ht (by omega))
        go_wp2_with (go_at_call 70; refine (closWide_any xs[j] WB.out cl B _ hbc.out (Nat.lt_of_lt_of_le hB hbel.size)).mono ?_; rintro e w2 ⟨rfl, g2⟩)
        go_roundw
        case rel => exact ⟨j + 1, by omega, by go_num, E2.out, bnext hbel g2⟩
        case measure => simp [intOf]; omega
      · have E1 := Lib.hid (widx_at hlt hc (fun t ht => HP.out t (by omega) ht))
        go_wp2_with (go_at_call 70; refine (closWide_any xs[j] WB.out cl B _ hbc.out (Nat.lt_of_lt_of_le hB hbel.size)).mono ?_; rintro e w2 ⟨rfl, g2⟩)
        go_ret
        exact ⟨by rw [E1.out]; rfl, bnext hbel g2⟩
    · obtain rfl : j = xs.length := by omega
      have E1 := Lib.hid (widx_none (xs := xs) (cl := cl) (fun t ht => HP.out t ht ht))
      go_wp2
      go_ret
      exact ⟨by rw [E1.out]; rfl, hbel⟩

set_option maxHeartbeats 1000000 in
theorem wcontains_any (v : Value) (xs : List Bk) (cl : Int) (B : Nat) (wf : ∀ b ∈ xs, b.Wf) (w : World) (sl : SliceOf w v xs) (hn : xs.length ≤ 60) (hb : w.cell? ⟨B, 0, none⟩ = some (.int .i64 cl)) (hB : B < w.heap.size) :
    Calls Try.prog 69 #[v, .func (.func 70) #[] #[.pointer (some ⟨B, 0, none⟩)]] w fun e w' => e = .returned (.bool (xs.any (fun b => decide (cl < b.wi)))) ∧ Below w.heap.size w w' := by
  have C := Lib.hid (windexBooks_any v xs cl B wf w sl hn hb hB)
  have E := Lib.hid (widx_any xs cl)
  clear wf sl hb
  go_enter Try.func69, Try.ntmps69
  go_wp2_with fail
  refine C.out.mono ?_
  rintro e w1 ⟨rfl, g1⟩
  generalize widx xs cl = r at E ⊢
  go_wp2
  go_ret
  exact ⟨by rw [← E.out]; rfl, g1⟩


def wdB (xs : List Bk) (a : Int) : Bool := !xs.any (fun b => decide (a < b.wi))
theorem any_drop {xs : List Bk} {a : Int} {i : Nat} (h : i < xs.length) : (xs.drop i).any (fun b => decide (a < b.wi)) = (decide (a < xs[i].wi) || (xs.drop (i + 1)).any (fun b => decide (a < b.wi))) := by
  rw [List.drop_eq_getElem_cons h]; rfl
set_option maxHeartbeats 1000000 in
theorem tooWide_any (v : Value) (xs : List Bk) (a : Int) (wf : ∀ b ∈ xs, b.Wf) (w : World) (sl : SliceOf w v xs) (hn : xs.length ≤ 60) :
    Calls Try.prog 54 #[v, .int .i64 a] w fun e w' => e = .returned (.bool (!wdB xs a)) ∧ Below w.heap.size w w' := by
  have G0 := Lib.hid (show Below w.heap.size w (w.alloc (.cells #[.int .i64 a] 2)) from (Below.refl _ _).alloc (Nat.le_refl _) _)
  have C := Lib.hid (wcontains_any v xs a w.heap.size wf (w.alloc (.cells #[.int .i64 a] 2)) (sl.below G0.out) hn (cell_of_row _ _ 0 _ _ _ (heap_alloc_new w _)) (by simp))
  have E := Lib.hid (show (!wdB xs a) = xs.any (fun b => decide (a < b.wi)) by unfold wdB; rw [Bool.not_not])
  clear wf sl
  go_enter Try.func54, Try.ntmps54
  go_wp2_with fail
  refine C.out.mono ?_
  rintro e w1 ⟨rfl, g1⟩
  go_wp2
  go_ret
  exact ⟨by rw [E.out]; rfl, bnext G0.out g1⟩
set_option maxHeartbeats 2000000 in
theorem l04Wide_any (v : Value) (xs : List Bk) (a : Int) (wf : ∀ b ∈ xs, b.Wf) (w : World) (sl : SliceOf w v xs) (hn : xs.length ≤ maxLen) :
    Calls Try.prog 51 #[v, .int .i64 a] w fun e w' => e = .returned (.bool (wdB xs a)) ∧ w = w' := by
  obtain ⟨A, c, rfl, hat0⟩ := sl
  have HA := Lib.hid hat0
  have WF := Lib.hid wf
  obtain ⟨R, hR⟩ : ∃ R, xs.any (fun b => decide (a < b.wi)) = R := ⟨_, rfl⟩
  have HR := Lib.hid (show (xs.drop 0).any (fun b => decide (a < b.wi)) = R by rw [List.drop_zero]; exact hR)
  have EW := Lib.hid (show wdB xs a = !R by unfold wdB; rw [hR])
  unfold maxLen at hn
  clear wf hat0 hR
  go_enter Try.func51, Try.ntmps51
  go_wp2
  go_loopw [5] (fun i_ wr => ∃ i : Nat, i ≤ xs.length ∧ i_ = .int .i64 (i : Int) ∧ (xs.drop i).any (fun b => decide (a < b.wi)) = R ∧ wr = w) (fun i_ _ => xs.length - (intOf i_).toNat)
  case atStart => exact ⟨0, Nat.zero_le _, rfl, HR.out, rfl⟩
  case round =>
    obtain ⟨i, hi, rfl, hd, rfl⟩ := hrel
    have HD := Lib.hid hd
    clear hd
    by_cases hlt : i < xs.length
    · obtain ⟨ga, oa, rfl, hga, hat⟩ := HA.out (by omega)
      have q5 := (booksAt_some hat hlt).2.2.2.2.2.1
      obtain ⟨b1, b2⟩ := (WF.out _ (List.getElem_mem hlt)).wi
      have SD := Lib.hid ((any_drop (a := a) hlt).symm.trans HD.out)
      clear hat
      generalize xs[i].wi = x at *
      by_cases hx : a < x
      · have E2 := Lib.hid (show R = true by rw [← SD.out, decide_eq_true hx]; rfl)
        go_wp2
        go_ret
        exact ⟨by rw [EW.out, E2.out]; rfl, by first | rfl | trivial⟩
      · have E2 := Lib.hid (show (xs.drop (i + 1)).any (fun b => decide (a < b.wi)) = R by rw [← SD.out, decide_eq_false hx, Bool.false_or])
        have hx2 : x ≤ a := by omega
        go_wp2
        go_roundw
        case rel => exact ⟨i + 1, by omega, by go_num, E2.out, by first | rfl | trivial⟩
        case measure => simp [intOf]; omega
    · obtain rfl : i = xs.length := by omega
      have E2 := Lib.hid (show R = false by rw [← HD.out, List.drop_length]; rfl)
      go_wp2
      go_ret
      exact ⟨by rw [EW.out, E2.out]; rfl, by first | rfl | trivial⟩

def shC (p : Pg) (hs : List Int) (xs : List Bk) (a : Int) : Int := if gaB p hs xs then (if inB a 1 2000 then (if allHB hs xs then (if wdB xs a then 0 else 4) else 6) else 2) else 1
theorem sh_cases (p : Pg) (hs : List Int) (xs : List Bk) (a : Int) : (gaB p hs xs = false ∧ shC p hs xs a = 1) ∨ (gaB p hs xs = true ∧ inB a 1 2000 = false ∧ shC p hs xs a = 2) ∨ (gaB p hs xs = true ∧ inB a 1 2000 = true ∧ allHB hs xs = false ∧ shC p hs xs a = 6) ∨
    (gaB p hs xs = true ∧ inB a 1 2000 = true ∧ allHB hs xs = true ∧ wdB xs a = false ∧ shC p hs xs a = 4) ∨ (gaB p hs xs = true ∧ inB a 1 2000 = true ∧ allHB hs xs = true ∧ wdB xs a = true ∧ shC p hs xs a = 0) := by
  unfold shC
  cases gaB p hs xs <;> cases inB a 1 2000 <;> cases allHB hs xs <;> cases wdB xs a <;> simp
set_option maxHeartbeats 4000000 in
theorem l04Shelved_any (p : Pg) (wf : p.Wf) (v v2 : Value) (hs : List Int) (xs : List Bk) (a : Int) (wz : ∀ z ∈ hs, (Lit.int .i64 z).wf = true) (wx : ∀ b ∈ xs, b.Wf) (w : World) (s1 : IntsOf .i64 w v hs) (s2 : SliceOf w v2 xs) (h1 : hs.length ≤ maxLen) (h2 : xs.length ≤ maxLen) :
    Calls Try.prog 34 #[.agg #[.int .i16 p.lo, .int .i16 p.st, .int .i16 p.bo], v, v2, .int .i64 a] w fun e w' => e = .returned (.int .i64 (shC p hs xs a)) ∧ Below w.heap.size w w' := by
  have G0 := Lib.hid (show Below w.heap.size w (w.alloc (.cells #[.int .i16 p.lo, .int .i16 p.st, .int .i16 p.bo] 40)) by go_grown)
  have WF := Lib.hid wf
  have WZ := Lib.hid wz
  have WX := Lib.hid wx
  have S1 := Lib.hid (s1.below G0.out)
  have S2 := Lib.hid (s2.below G0.out)
  clear wf wz wx s1 s2
  rcases sh_cases p hs xs a with ⟨h3, h4⟩ | ⟨h3, h5, h4⟩ | ⟨h3, h5, h6, h4⟩ | ⟨h3, h5, h6, h7, h4⟩ | ⟨h3, h5, h6, h7, h4⟩
  all_goals
    have E := Lib.hid h4
    go_enter Try.func34, Try.ntmps34
    go_wp2_with fail
    refine (l04Asked_any p WF.out v v2 hs xs WZ.out WX.out _ S1.out S2.out h1 h2).mono ?_
    rintro e w1 ⟨rfl, g1⟩
  · rw [show gaC p hs xs = 1 by unfold gaC; rw [h3]; rfl]
    clear h3 h4
    go_wp2
    go_ret
    exact ⟨by rw [E.out]; rfl, bnext G0.out g1⟩
  all_goals
    rw [show gaC p hs xs = 0 by unfold gaC; rw [h3]; rfl]
    clear h3 h4
    go_wp2_with fail
    refine (l00In_any _ _ _ _).mono ?_
    rintro e w' ⟨rfl, rfl⟩
    rw [h5]
    clear h5
  · go_wp2
    go_ret
    exact ⟨by rw [E.out]; rfl, bnext G0.out g1⟩
  all_goals
    go_wp2_with fail
    refine (l04All_any v v2 hs xs WX.out _ (S1.out.below g1) (S2.out.below g1) h1 h2).mono ?_
    rintro e w2 ⟨rfl, g2⟩
    rw [h6]
    clear h6
  · go_wp2
    go_ret
    exact ⟨by rw [E.out]; rfl, bnext (bnext G0.out g1) g2⟩
  all_goals
    go_wp2_with fail
    refine (l04Wide_any v2 xs a WX.out _ (S2.out.below (bnext g1 g2)) h2).mono ?_
    rintro e w' ⟨rfl, rfl⟩
    rw [h7]
    clear h7
    go_wp2
    go_ret
    exact ⟨by rw [E.out]; rfl, bnext (bnext G0.out g1) g2⟩
end Go.Proofs.Ytlphpajpjpohmab
