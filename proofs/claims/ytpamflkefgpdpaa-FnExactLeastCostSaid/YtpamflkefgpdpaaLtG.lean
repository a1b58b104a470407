/- leastTable: a contract. Condition: a valid case and list. -/
import Derived.Test.YtpamflkefgpdpaaLtF
namespace Go.Proofs.Ytpamflkefgpdpaa
set_option linter.unusedSimpArgs false
set_option linter.unusedVariables false
set_option maxRecDepth 100000
open Go.RowKit

theorem infoRowL : (Try.prog.info? 22).map (fun i => (i.zero, i.size, i.bytes)) = some (some (.slice none 0 0), 1, 24) := by kernel_rfl
def fromR (f : Nat → List Int) (j : Nat) : Nat → Option (List Int) := fun s => if j ≤ s then some (f s) else none
theorem fromR_step {f : Nat → List Int} {j : Nat} : setR (fromR f (j + 1)) j (f j) = fromR f j := by
  funext s
  unfold setR fromR
  by_cases e : s = j
  · subst e; rw [if_pos rfl, if_pos (Nat.le_refl _)]
  · rw [if_neg e]
    by_cases h : j + 1 ≤ s
    · rw [if_pos h, if_pos (by omega)]
    · rw [if_neg h, if_neg (by omega)]
theorem fromR_zero {f : Nat → List Int} : fromR f 0 = fun s => some (f s) := by
  funext s
  unfold fromR
  rw [if_pos (Nat.zero_le _)]
theorem numR_last {c : Cs} {xs : List Bk} {u : Bool} : (List.range (xs.length + 1)).map (endI xs.length) = numR c xs u c.hs.length := by
  unfold numR
  congr 1
  funext i
  rw [numV_last]
  rfl
theorem setc_old {W W' : World} {a : Addr} {v : Value} {g : Nat} (h : W.cell? a = some v) (hg : W.grownBy W' (some g)) (hne : a.block ≠ g) : W'.cell? a = some v := hg.cell h (by intro e; injection e with e; exact hne e)
/-- How great the number in a box is. -/
def boxN (w : World) (p : Value) : Nat := match p with
  | .pointer (some a) => (intOf ((w.cell? a).getD (.int .i64 0)) + 1).toNat
  | _ => 0
theorem boxN_at {w : World} {a : Addr} {z : Int} (h : w.cell? a = some (.int .i64 z)) : boxN w (.pointer (some a)) = (z + 1).toNat := by
  show (intOf ((w.cell? a).getD (.int .i64 0)) + 1).toNat = _
  rw [h]
  rfl

set_option maxHeartbeats 16000000 in
theorem leastTable_any (u : Bool) (c : Cs) (hv : Value) (A : Option Addr) (m : Nat) (xs : List Bk) (wc : c.Wf) (wf : ∀ b ∈ xs, b.Wf) (w : World) (sc : IntsOf .i16 w hv c.hs) (h1 : caseB c = true) (sl : SliceOf w (.slice A xs.length m) xs) (hm : xs.length ≤ m) (h2 : okB xs = true) :
    Calls Try.prog 52 #[.agg #[.int .i16 c.wi, .int .i32 c.lo, hv], .slice A xs.length m, .int .i64 ((uM u : Nat) : Int)] w fun e w' => ∃ g, e = .returned (.slice (some ⟨g, 0, none⟩) (c.hs.length + 1) (c.hs.length + 1)) ∧ w.heap.size ≤ g ∧ TP w' (fun _ => w.heap.size) g (c.hs.length + 1) (xs.length + 1) (fun s => some (numR c xs u s)) ∧ Below w.heap.size w w' := by
  obtain ⟨cl1, cl2⟩ := caseB_lens h1
  have h60 := okB_len h2
  obtain ⟨i0, hi, hz0, hz1, hz2⟩ := info_parts infoRowL
  have hmk := fun W => run_make_rowN (P := Try.prog) 47 22 i0 _ Try.underlying47 hi hz0 .i64 .i64 (c.hs.length + 1) (c.hs.length + 1) (Nat.le_refl _) (by rw [hz2]; omega) (by omega) W
  rw [hz1, Nat.mul_one] at hmk
  have hc1 : (((c.hs.length + 1 : Nat)) : Int) = (c.hs.length : Int) + 1 := by omega
  simp only [hc1] at hmk
  have WC := Lib.hid wc
  have WF := Lib.hid wf
  have K1 := Lib.hid h1
  have K2 := Lib.hid h2
  obtain ⟨W0, hW0⟩ : ∃ W0, ((w.alloc (.cells #[.int .i16 c.wi, .int .i32 c.lo, hv] 50)).alloc (.cells #[.slice A xs.length m] 38)).alloc (.cells #[.int .i64 ((uM u : Nat) : Int)] 82) = W0 := ⟨_, rfl⟩
  have B0 := Lib.hid (show Below w.heap.size w W0 by rw [← hW0]; go_grown)
  have a3 := alloc3 w (.cells #[.int .i16 c.wi, .int .i32 c.lo, hv] 50) (.cells #[.slice A xs.length m] 38) (.cells #[.int .i64 ((uM u : Nat) : Int)] 82)
  rw [hW0] at a3
  have CN := Lib.hid (show CaseAt W0 w.heap.size c hv by
    rw [← hW0]
    exact ((CaseAt.new sc).below ((Below.refl _ _).alloc (Nat.le_refl _) _)).below ((Below.refl _ _).alloc (Nat.le_refl _) _))
  have Q4 := Lib.hid (cell_of_row W0 _ 0 _ _ _ a3.1)
  have Q5 := Lib.hid (cell_of_row W0 _ 0 _ _ _ a3.2)
  have SZ := Lib.hid (show W0.heap.size = w.heap.size + 3 by rw [← hW0]; simp)
  have SL := Lib.hid (sl.below B0.out)
  obtain ⟨H, qh, rfl, -⟩ := sc
  clear hi hz0 hz1 hz2 wc wf h1 h2 sl a3
  go_enter Try.func52, Try.ntmps52
  go_upto_region 1 with (fail)
  clear hW0
  obtain ⟨p3, hp3⟩ : ∃ p, w.heap.size = p := ⟨_, rfl⟩
  rw [hp3] at CN Q4 Q5 SZ ⊢
  obtain ⟨c0, c1, c2, cz, -⟩ := CN.out
  go_upto_region 3 with (fail)
  clear c0 c1 c2
  have T0 := Lib.hid ((TP.made W0 (fun _ => W0.heap.size + 2) (c.hs.length + 1) (xs.length + 1)).below ((Below.refl _ _).alloc (Nat.le_refl _) (.cells #[.slice (some ⟨W0.heap.size, 0, none⟩) (c.hs.length + 1) (c.hs.length + 1)] 47)))
  have a2 := (alloc2 W0 (.cells (madeCells (Value.slice none 0 0).cells (c.hs.length + 1)) 22) (.cells #[.slice (some ⟨W0.heap.size, 0, none⟩) (c.hs.length + 1) (c.hs.length + 1)] 47)).2
  have B2 := Lib.hid (show Below W0.heap.size W0 ((W0.alloc (.cells (madeCells (Value.slice none 0 0).cells (c.hs.length + 1)) 22)).alloc (.cells #[.slice (some ⟨W0.heap.size, 0, none⟩) (c.hs.length + 1) (c.hs.length + 1)] 47)) by go_grown)
  have S2 := Lib.hid (show ((W0.alloc (.cells (madeCells (Value.slice none 0 0).cells (c.hs.length + 1)) 22)).alloc (.cells #[.slice (some ⟨W0.heap.size, 0, none⟩) (c.hs.length + 1) (c.hs.length + 1)] 47)).heap.size = W0.heap.size + 2 by simp)
  rw [show (Value.slice none 0 0).cells = #[Value.slice none 0 0] from rfl] at T0 a2 B2 S2
  generalize World.alloc (World.alloc W0 _) _ = W2 at T0 a2 B2 S2 ⊢
  obtain ⟨g, hg⟩ : ∃ g, W0.heap.size = g := ⟨_, rfl⟩
  have HG := Lib.hid hg
  have q8 := cell_of_row W2 _ 0 _ _ _ a2
  simp only [List.getElem?_toArray, List.getElem?_cons_zero] at q8
  have SZ' := SZ.out
  have wg : w.heap.size + 3 ≤ g := by omega
  rw [hg] at T0 q8 B2 S2 SZ ⊢
  clear hg a2 hmk
  have S2' := S2.out
  have B2w := Lib.hid (show Below w.heap.size w W2 from B0.out.trans (B2.out.mono (by omega)))
  have q4 := (B2.out.cell (p := ⟨p3 + 1, 0, none⟩) (by show p3 + 1 < g; omega)).trans Q4.out
  simp only [List.getElem?_toArray, List.getElem?_cons_zero] at q4
  have F2 := Lib.hid (fun (W : World) (zs : List Int) (hgw : W2.grownBy W (some g)) (_ : TP W (fun _ => g + 2) g (c.hs.length + 1) (xs.length + 1) (setR (fun _ => none) c.hs.length zs)) (i : Nat) (hi : i < xs.length + 1) => lt2_any A xs.length m i (p3 + 1) W (setc_old q4 hgw (by show p3 + 1 ≠ g; omega)) h60 (by omega))
  have Q8 := Lib.hid q8
  have QQ4 := Lib.hid q4
  go_wp2_with fail
  refine (fill2_any (endI xs.length) A xs.length m c.hs.length (c.hs.length + 1) g (g + 2) (p3 + 1) (g + 1) (fun _ => none) W2 QQ4.out Q8.out T0.out (by omega) (by omega) h60 (by omega) F2.out).mono ?_
  rintro e w3 ⟨rfl, ht3, hg3⟩
  rw [numR_last (c := c) (u := u)] at ht3
  have T3 := Lib.hid (ht3.congr (rows' := fromR (numR c xs u) c.hs.length) (fun s hs => by
    unfold setR fromR
    by_cases e : s = c.hs.length
    · subst e; rw [if_pos rfl, if_pos (Nat.le_refl _)]
    · rw [if_neg e, if_neg (by omega)]))
  have q8 := setc_old Q8.out hg3 (by show g + 1 ≠ g; omega)
  have B3 := Lib.hid (show Below g W0 w3 from B2.out.grown hg3 (by omega) (fun k hk => by injection hk with hk; omega))
  have z3 := hg3.size
  clear ht3 hg3 F2 QQ4 q4
  have R8 := Lib.hid q8
  clear q8
  have z4 : w3.heap.size ≠ g := by omega
  have T4 := Lib.hid (T3.out.below ((Below.refl _ _).alloc (Nat.le_refl _) (.cells #[.int .i64 ((c.hs.length : Int) - 1)] 3)))
  have B4 := Lib.hid (B3.out.alloc (by omega) (.cells #[.int .i64 ((c.hs.length : Int) - 1)] 3))
  have X4 := Lib.hid (cell_of_row _ _ 0 _ _ _ (heap_alloc_new w3 (.cells #[.int .i64 ((c.hs.length : Int) - 1)] 3)))
  have R4 := Lib.hid (((Below.refl w3.heap.size w3).alloc (Nat.le_refl _) (.cells #[.int .i64 ((c.hs.length : Int) - 1)] 3)).cell (p := ⟨g + 1, 0, none⟩) (by show g + 1 < w3.heap.size; omega) |>.trans R8.out)
  have S4 := Lib.hid (show g + 2 ≤ (w3.alloc (.cells #[.int .i64 ((c.hs.length : Int) - 1)] 3)).heap.size by simp; omega)
  go_wp2
  go_loopw [10] (fun p_ wr => ∃ j p10 : Nat, j ≤ c.hs.length ∧ p_ = .pointer (some ⟨p10, 0, none⟩) ∧ wr.cell? ⟨p10, 0, none⟩ = some (.int .i64 ((j : Int) - 1)) ∧ p10 ≠ g ∧ wr.cell? ⟨g + 1, 0, none⟩ = some (.slice (some ⟨g, 0, none⟩) (c.hs.length + 1) (c.hs.length + 1)) ∧ TP wr (fun _ => g + 2) g (c.hs.length + 1) (xs.length + 1) (fromR (numR c xs u) j) ∧ Below g W0 wr ∧ g + 2 ≤ wr.heap.size) (fun p_ wr => boxN wr p_)
  case atStart => exact ⟨c.hs.length, w3.heap.size, Nat.le_refl _, rfl, X4.out, z4, R4.out, T4.out, B4.out, S4.out⟩
  case round =>
    obtain ⟨j, p10, hj, rfl, hx, hne, h8, ht, hb, hsz⟩ := hrel
    have TT := Lib.hid ht
    have BB := Lib.hid hb
    have H8 := Lib.hid h8
    have HX := Lib.hid hx
    have l10 := block_lt_of_cell hx
    simp only at l10
    have MEAS := Lib.hid (boxN_at hx)
    clear ht hb h8
    rcases j with _ | j
    · have hx0 : wr.cell? ⟨p10, 0, none⟩ = some (.int .i64 (-1)) := hx
      clear hx
      have h8 := H8.out
      have TF := Lib.hid (show TP wr (fun _ => w.heap.size) g (c.hs.length + 1) (xs.length + 1) (fun s => some (numR c xs u s)) by have := TT.out.mono (lo' := fun _ => w.heap.size) (fun s _ => by omega); rw [fromR_zero] at this; exact this)
      go_wp2
      go_ret
      exact ⟨g, rfl, by omega, TF.out, B0.out.trans (BB.out.mono (by omega))⟩
    · have hx0 : wr.cell? ⟨p10, 0, none⟩ = some (.int .i64 (j : Int)) := by rw [hx]; simp
      clear hx
      have HX0 := Lib.hid hx0
      have hj2 : j < c.hs.length := by omega
      have h4r := (BB.out.cell (p := ⟨p3 + 1, 0, none⟩) (by show p3 + 1 < g; omega)).trans Q4.out
      simp only [List.getElem?_toArray, List.getElem?_cons_zero] at h4r
      have F3 := Lib.hid (fun (W : World) (zs : List Int) (hgw : wr.grownBy W (some g)) (tp : TP W (fun _ => g + 2) g (c.hs.length + 1) (xs.length + 1) (setR (fromR (numR c xs u) (j + 1)) j zs)) (i : Nat) (hi : i < xs.length + 1) => by
        have hbw : Below g W0 W := BB.out.grown hgw (by omega) (fun k hk => by injection hk with hk; omega)
        have hbw2 : Below W0.heap.size W0 W := by rw [HG.out]; exact hbw
        have e5 := (hbw.cell (p := ⟨p3 + 1 + 1, 0, none⟩) (by show p3 + 1 + 1 < g; omega)).trans Q5.out
        simp only [List.getElem?_toArray, List.getElem?_cons_zero] at e5
        exact lt3_any u c _ A m xs j i WC.out WF.out W p3 p10 (p3 + 1) (g + 1) (p3 + 1 + 1) g (fun _ => g + 2) _ (CN.out.below hbw2) K1.out (setc_old HX0.out hgw hne) (setc_old h4r hgw (by show p3 + 1 ≠ g; omega)) (setc_old H8.out hgw (by show g + 1 ≠ g; omega)) e5 (SL.out.below hbw2) hm K2.out tp (by unfold setR fromR; rw [if_neg (by omega), if_pos (Nat.le_refl _)]) hj2 hi)
      have H4R := Lib.hid h4r
      clear h4r
      go_wp2_with fail
      refine (fill3_any (numV c xs u j) A xs.length m j (c.hs.length + 1) g (g + 2) (p3 + 1) (g + 1) p3 p10 (p3 + 1 + 1) (fromR (numR c xs u) (j + 1)) wr H4R.out H8.out TT.out hsz (by omega) h60 (by omega) F3.out).mono ?_
      rintro e w5 ⟨rfl, ht5, hg5⟩
      have T5 := Lib.hid (show TP w5 (fun _ => g + 2) g (c.hs.length + 1) (xs.length + 1) (fromR (numR c xs u) j) from by rw [← fromR_step]; exact ht5)
      have x5 := setc_old HX0.out hg5 hne
      have h8 := Lib.hid (setc_old H8.out hg5 (by show g + 1 ≠ g; omega))
      have B5 := Lib.hid (show Below g W0 w5 from BB.out.grown hg5 (by omega) (fun k hk => by injection hk with hk; omega))
      have z5 := hg5.size
      have z6 : w5.heap.size ≠ g := by omega
      clear ht5 hg5 F3
      have T6 := Lib.hid (T5.out.below ((Below.refl _ _).alloc (Nat.le_refl _) (.cells #[.int .i64 ((j : Int) - 1)] 3)))
      have B6 := Lib.hid (B5.out.alloc (by omega) (.cells #[.int .i64 ((j : Int) - 1)] 3))
      have X6 := Lib.hid (cell_of_row _ _ 0 _ _ _ (heap_alloc_new w5 (.cells #[.int .i64 ((j : Int) - 1)] 3)))
      have R6 := Lib.hid (((Below.refl w5.heap.size w5).alloc (Nat.le_refl _) (.cells #[.int .i64 ((j : Int) - 1)] 3)).cell (p := ⟨g + 1, 0, none⟩) (by show g + 1 < w5.heap.size; omega) |>.trans h8.out)
      have S6 := Lib.hid (show g + 2 ≤ (w5.alloc (.cells #[.int .i64 ((j : Int) - 1)] 3)).heap.size by simp; omega)
      go_wp2
      go_roundw
      case rel => exact ⟨j, w5.heap.size, by omega, rfl, X6.out, z6, R6.out, T6.out, B6.out, S6.out⟩
      case measure => rw [MEAS.out, boxN_at X6.out]; omega
end Go.Proofs.Ytpamflkefgpdpaa
