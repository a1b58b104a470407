/- A row of books on a shelf, by the program: a contract; FitsOn by the model and by the program. Condition: a valid case and list (rowOn alone), the slice's length within its capacity. -/
import Derived.Test.YtpamflkefgpdpaaFits
namespace Go.Proofs.Ytpamflkefgpdpaa
set_option linter.unusedSimpArgs false
set_option linter.unusedVariables false
set_option maxRecDepth 100000
open Go.RowKit

/-- The program's row: the books of a slice from i on, ahead of k. -/
def rowV (A : Option Addr) (i k : Nat) (free : Int) : Value := .agg #[.int .i64 (i : Int), .slice (subA A i k) (k - i) (k - i), .int .i64 free]

theorem tot_ok {xs : List Bk} (h : okB xs = true) : tW xs = totW xs xs.length ∧ tH xs = totH xs xs.length ∧ tE xs = totE xs xs.length ∧ tCode xs = 0 := by
  unfold tW tH tE tCode
  rw [h]
  exact ⟨rfl, rfl, rfl, rfl⟩
theorem fitsB_totH {c : Cs} {s : Nat} (xs : List Bk) (h : 0 ≤ shH c s) : fitsB c s xs = (decide (totW xs xs.length ≤ c.wi) && (decide (totH xs xs.length ≤ shH c s) && decide (totE xs xs.length ≤ c.lo))) := by
  unfold fitsB
  rw [all_hi xs _ h]
theorem totH_in (xs : List Bk) (wf : ∀ b ∈ xs, b.Wf) : ∀ k : Nat, k ≤ xs.length → 0 ≤ totH xs k ∧ totH xs k ≤ 32767
  | 0, _ => by simp [totH]
  | k + 1, h => by
    have ih := totH_in xs wf k (by omega)
    have b := (wf xs[k] (List.getElem_mem (by omega))).hi
    rw [totH, getD_in_books (by omega)]
    split <;> omega

set_option maxHeartbeats 4000000 in
theorem rowOn_any (c : Cs) (hv : Value) (A : Option Addr) (m : Nat) (xs : List Bk) (s i k : Nat) (wf : ∀ b ∈ xs, b.Wf) (w : World) (sc : IntsOf .i16 w hv c.hs) (hs : s < c.hs.length) (hc : caseB c = true) (sl : SliceOf w (.slice A xs.length m) xs) (hm : xs.length ≤ m) (hx : okB xs = true) (hik : i ≤ k) (hk : k ≤ xs.length) :
    Calls Try.prog 104 #[.agg #[.int .i16 c.wi, .int .i32 c.lo, hv], .int .i64 (s : Int), .slice A xs.length m, .int .i64 (i : Int), .int .i64 (k : Int)] w fun e w' =>
      e = .returned (.tuple #[rowV A i k (freeB c (part xs i k)), .bool (fitsB c s (part xs i k))]) ∧ Below w.heap.size w w' := by
  have h60 := okB_len hx
  have hpl := part_length (xs := xs) (i := i) (k := k) hk
  have sh := shH_in hc s hs
  have tw := totW_in (part xs i k) (part_wf i k wf) _ (Nat.le_refl _)
  have te := totE_in (part xs i k) (part_wf i k wf) _ (Nat.le_refl _)
  have th := totH_in (part xs i k) (part_wf i k wf) _ (Nat.le_refl _)
  have wb : 1 ≤ c.wi ∧ c.wi ≤ 2000 := by unfold caseB inB at hc; simp only [Bool.and_eq_true, decide_eq_true_eq] at hc; exact hc.1
  have lb : 1 ≤ c.lo ∧ c.lo ≤ 200000 := by unfold caseB inB at hc; simp only [Bool.and_eq_true, decide_eq_true_eq] at hc; exact hc.2.1
  have cl : (c.hs.length : Int) ≤ 12 := by unfold caseB inB at hc; simp only [Bool.and_eq_true, decide_eq_true_eq] at hc; exact hc.2.2.1.2
  have HSL := Lib.hid (sl.part hik hk (Nat.le_refl k))
  have HT := Lib.hid (tot_ok (okB_part i k hx))
  have HF := Lib.hid (fitsB_totH (c := c) (s := s) (part xs i k) (by omega))
  have HM := Lib.hid (show (part xs i k).length ≤ maxLen by rw [hpl]; unfold maxLen; omega)
  have WFP := Lib.hid (part_wf i k wf)
  have hsl := run_part3 A xs.length m i k hik (by omega)
  have E0 := Lib.hid (show shH c s = c.hs[s] by unfold shH; simp [List.getD, List.getElem?_eq_getElem hs])
  obtain ⟨H, q, rfl, sch⟩ := sc
  obtain ⟨gh, oh, rfl, hgh, hath⟩ := sch (by omega)
  have HAT := Lib.hid hath
  obtain ⟨sh1, sh2⟩ := sh
  rw [E0.out] at sh1 sh2
  obtain ⟨wb1, wb2⟩ := wb
  obtain ⟨lb1, lb2⟩ := lb
  obtain ⟨th1, th2⟩ := th
  rw [hpl] at tw te
  have tw1 : -2000000 ≤ totW (part xs i k) (part xs i k).length := by rw [hpl]; omega
  have tw2 : totW (part xs i k) (part xs i k).length ≤ 2000000 := by rw [hpl]; omega
  have te1 : -2000000 ≤ totE (part xs i k) (part xs i k).length := by rw [hpl]; omega
  have te2 : totE (part xs i k) (part xs i k).length ≤ 2000000 := by rw [hpl]; omega
  have HB := Lib.hid (alloc2 w (.cells #[.int .i16 c.wi, .int .i32 c.lo, .slice (some ⟨gh, oh, none⟩) c.hs.length q] 50) (.cells #[.int .i64 0, .slice none 0 0, .int .i64 0] 118))
  have G0 := Lib.hid (show Below w.heap.size w ((w.alloc (.cells #[.int .i16 c.wi, .int .i32 c.lo, .slice (some ⟨gh, oh, none⟩) c.hs.length q] 50)).alloc (.cells #[.int .i64 0, .slice none 0 0, .int .i64 0] 118)) by go_grown)
  have FR := Lib.hid (show freeB c (part xs i k) = c.wi - totW (part xs i k) (part xs i k).length from rfl)
  have HPL := Lib.hid hpl
  clear hpl hx hc wf sl sch hath tw te hm
  generalize part xs i k = ps at *
  go_enter Try.func104, Try.ntmps104
  go_wp2_with fail
  rw [← HPL.out] at HSL ⊢
  refine (totals_any _ ps WFP.out _ (HSL.out.below G0.out) HM.out).mono ?_
  rintro e w1 ⟨rfl, h1⟩
  rw [HT.out.1, HT.out.2.1, HT.out.2.2.1, HT.out.2.2.2]
  have G1 := Lib.hid (bnext G0.out h1)
  have b0 := (h1.block w.heap.size (by simp; omega)).trans HB.out.1
  have b1 := (h1.block (w.heap.size + 1) (by simp)).trans HB.out.2
  have c0 := cell_of_row w1 _ 0 _ _ _ b0
  have c1 := cell_of_row w1 _ 1 _ _ _ b0
  have c2 := cell_of_row w1 _ 2 _ _ _ b0
  have r0 := cell_of_row w1 _ 0 _ _ _ b1
  have r1 := cell_of_row w1 _ 1 _ _ _ b1
  have r2 := cell_of_row w1 _ 2 _ _ _ b1
  have f1 := fun j => frozen_of_row w1 _ j _ _ b1
  simp only [List.getElem?_toArray, List.getElem?_cons_zero, List.getElem?_cons_succ] at c0 c1 c2 r0 r1 r2
  have q0 := HAT.out.below G1.out hgh s hs
  have z1 : w.heap.size + 1 < w1.heap.size := by have := h1.size; simp at this; omega
  have z0 : w.heap.size < w1.heap.size := by omega
  have s0 : (0 : Int) ≤ (s : Int) := by omega
  have s1 : (s : Int) < (c.hs.length : Int) := by omega
  have z2 : gh < w1.heap.size := by have := G1.out.size; omega
  clear b0 b1 h1 hsl
  generalize totW ps ps.length = tw at *
  generalize totH ps ps.length = th at *
  generalize totE ps ps.length = te at *
  by_cases hw : tw ≤ c.wi
  · by_cases hh : th ≤ c.hs[s]
    · by_cases he : te ≤ c.lo
      · have EF := Lib.hid (show fitsB c s ps = true by rw [HF.out, E0.out, decide_eq_true hw, decide_eq_true hh, decide_eq_true he]; rfl)
        go_wp2
        go_quiet (fail)
        go_wp2
        refine bodyPost_ret (v := .tuple #[.agg #[.int .i64 (i : Int), .slice (subA A i k) ps.length ps.length, .int .i64 (c.wi - tw)], .bool true]) (by simp [results, Try.results104, go_sem, r0, r1, r2, z0, z1]) rfl ⟨by rw [EF.out, FR.out, rowV, ← HPL.out], ?_⟩
        exact ((((below_drewN (G1.out.alloc G1.out.size _) _).setCell (p := ⟨_, _, none⟩) (by simp) _).setCell (p := ⟨_, _, none⟩) (by simp) _).setCell (p := ⟨_, _, none⟩) (by simp) _)
      · have EF := Lib.hid (show fitsB c s ps = false by rw [HF.out, E0.out, decide_eq_false he]; simp)
        have hd : decide (te ≤ c.lo) = false := by simpa using he
        go_wp2
        go_quiet (fail)
        go_wp2
        refine bodyPost_ret (v := .tuple #[.agg #[.int .i64 (i : Int), .slice (subA A i k) ps.length ps.length, .int .i64 (c.wi - tw)], .bool false]) (by simp [results, Try.results104, go_sem, r0, r1, r2, z0, z1]) rfl ⟨by rw [EF.out, FR.out, rowV, ← HPL.out], ?_⟩
        exact ((((below_drewN (G1.out.alloc G1.out.size _) _).setCell (p := ⟨_, _, none⟩) (by simp) _).setCell (p := ⟨_, _, none⟩) (by simp) _).setCell (p := ⟨_, _, none⟩) (by simp) _)
    · have EF := Lib.hid (show fitsB c s ps = false by rw [HF.out, E0.out, decide_eq_false hh]; simp)
      have hd : decide (th ≤ c.hs[s]) = false := by simpa using hh
      go_wp2
      go_quiet (fail)
      go_wp2
      refine bodyPost_ret (v := .tuple #[.agg #[.int .i64 (i : Int), .slice (subA A i k) ps.length ps.length, .int .i64 (c.wi - tw)], .bool false]) (by simp [results, Try.results104, go_sem, r0, r1, r2, z0, z1]) rfl ⟨by rw [EF.out, FR.out, rowV, ← HPL.out], ?_⟩
      exact ((((below_drewN (G1.out.alloc G1.out.size _) _).setCell (p := ⟨_, _, none⟩) (by simp) _).setCell (p := ⟨_, _, none⟩) (by simp) _).setCell (p := ⟨_, _, none⟩) (by simp) _)
  · have EF := Lib.hid (show fitsB c s ps = false by rw [HF.out, decide_eq_false hw]; rfl)
    have hd : decide (tw ≤ c.wi) = false := by simpa using hw
    go_wp2
    go_quiet (fail)
    go_wp2
    refine bodyPost_ret (v := .tuple #[.agg #[.int .i64 (i : Int), .slice (subA A i k) ps.length ps.length, .int .i64 (c.wi - tw)], .bool false]) (by simp [results, Try.results104, go_sem, r0, r1, r2, z0, z1]) rfl ⟨by rw [EF.out, FR.out, rowV, ← HPL.out], ?_⟩
    exact ((((below_drewN (G1.out.alloc G1.out.size _) _).setCell (p := ⟨_, _, none⟩) (by simp) _).setCell (p := ⟨_, _, none⟩) (by simp) _).setCell (p := ⟨_, _, none⟩) (by simp) _)

end Go.Proofs.Ytpamflkefgpdpaa
