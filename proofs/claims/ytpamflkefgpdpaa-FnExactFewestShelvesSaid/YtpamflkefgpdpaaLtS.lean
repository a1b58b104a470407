/- l02Table: a contract. Condition: a valid case and list. -/
import Derived.Test.YtpamflkefgpdpaaLtG
namespace Go.Proofs.Ytpamflkefgpdpaa
set_option linter.unusedSimpArgs false
set_option linter.unusedVariables false
set_option maxRecDepth 100000
open Go.RowKit

theorem negR (n : Nat) : (List.range n).map (fun _ => (-1 : Int)) = List.replicate n (-1) := by
  refine List.ext_getElem (by simp) fun i h1 h2 => ?_
  simp
/-- The first s rows are made. -/
def upR (n s : Nat) : Nat → Option (List Int) := fun t => if t < s then some (List.replicate n (-1)) else none
theorem upR_step (n s : Nat) : setR (upR n s) s (List.replicate n (-1)) = upR n (s + 1) := by
  funext t
  unfold setR upR
  by_cases e : t = s
  · subst e; rw [if_pos rfl, if_pos (by omega)]
  · rw [if_neg e]
    by_cases h : t < s
    · rw [if_pos h, if_pos (by omega)]
    · rw [if_neg h, if_neg (by omega)]
/-- The rows from j on are done. -/
def mixR (f : Nat → List Int) (n j : Nat) : Nat → Option (List Int) := fun t => if j ≤ t then some (f t) else some (List.replicate n (-1))
theorem mixR_step {f : Nat → List Int} {n j : Nat} : setR (mixR f n (j + 1)) j (f j) = mixR f n j := by
  funext s
  unfold setR mixR
  by_cases e : s = j
  · subst e; rw [if_pos rfl, if_pos (Nat.le_refl _)]
  · rw [if_neg e]
    by_cases h : j + 1 ≤ s
    · rw [if_pos h, if_pos (by omega)]
    · rw [if_neg h, if_neg (by omega)]
theorem mixR_zero {f : Nat → List Int} {n : Nat} : mixR f n 0 = fun s => some (f s) := by
  funext s
  unfold mixR
  rw [if_pos (Nat.zero_le _)]
theorem mixR_self {f : Nat → List Int} {n j : Nat} : setR (mixR f n (j + 1)) j (List.replicate n (-1)) = mixR f n (j + 1) := by
  funext s
  unfold setR mixR
  by_cases e : s = j
  · subst e; rw [if_pos rfl, if_neg (by omega)]
  · rw [if_neg e]
/-- A row whose first i numbers are done, with x at i. -/
def prow (val : Nat → Int) (n i : Nat) (x : Int) : List Int := (List.range n).map fun j => if j < i then val j else if j = i then x else -1
theorem prow_length (val : Nat → Int) (n i : Nat) (x : Int) : (prow val n i x).length = n := by simp [prow]
theorem prow_zero (val : Nat → Int) (n : Nat) : List.replicate n (-1) = prow val n 0 (-1) := by
  refine List.ext_getElem (by simp [prow]) fun i h1 h2 => ?_
  simp [prow]
theorem prow_get {val : Nat → Int} {n i : Nat} {x : Int} (h : i < n) : (prow val n i x).getD i 0 = x := by
  rw [List.getD_eq_getElem?_getD, List.getElem?_eq_getElem (by rw [prow_length]; exact h)]
  simp [prow]
theorem prow_set {val : Nat → Int} {n i : Nat} {x y : Int} : (prow val n i x).set i y = prow val n i y := by
  refine List.ext_getElem (by simp [prow]) fun j h1 h2 => ?_
  rw [List.getElem_set]
  simp only [prow, List.getElem_map, List.getElem_range]
  by_cases e : i = j
  · subst e; simp
  · rw [if_neg e]
    by_cases h : j < i
    · rw [if_pos h, if_pos h]
    · rw [if_neg h, if_neg h, if_neg (fun h => e h.symm), if_neg (fun h => e h.symm)]
theorem prow_next {val : Nat → Int} {n i : Nat} : prow val n i (val i) = prow val n (i + 1) (-1) := by
  refine List.ext_getElem (by simp [prow]) fun j h1 h2 => ?_
  simp only [prow, List.getElem_map, List.getElem_range]
  by_cases h : j < i
  · rw [if_pos h, if_pos (by omega)]
  · rw [if_neg h]
    by_cases e : j = i
    · subst e; rw [if_pos rfl, if_pos (by omega)]
    · rw [if_neg e, if_neg (by omega)]
      split <;> rfl
theorem prow_all {val : Nat → Int} {n : Nat} {x : Int} : prow val n n x = (List.range n).map val := by
  refine List.ext_getElem (by simp [prow]) fun j h1 h2 => ?_
  simp only [prow, List.getElem_map, List.getElem_range]
  rw [if_pos (by simpa using h2)]
theorem last_row {c : Cs} {xs : List Bk} {u : Bool} : (List.replicate (xs.length + 1) (-1)).set xs.length 0 = numR c xs u c.hs.length := by
  refine List.ext_getElem (by simp [numR]) fun j h1 h2 => ?_
  rw [List.getElem_set]
  simp only [numR, List.getElem_map, List.getElem_range, List.getElem_replicate, numV_last]
  by_cases e : xs.length = j
  · rw [if_pos e, if_pos e.symm]
  · rw [if_neg e, if_neg (fun h => e h.symm)]

set_option maxHeartbeats 16000000 in
theorem l02Table_any (u : Bool) (c : Cs) (hv : Value) (A : Option Addr) (m : Nat) (xs : List Bk) (wc : c.Wf) (wf : ∀ b ∈ xs, b.Wf) (gc : Nat) (w : World) (hc : CaseAt w gc c hv) (h1 : caseB c = true) (sl : SliceOf w (.slice A xs.length m) xs) (hm : xs.length ≤ m) (h2 : okB xs = true) :
    Calls Try.prog 49 #[.pointer (some ⟨gc, 0, none⟩), .slice A xs.length m, .bool u] w fun e w' => ∃ g, e = .returned (.slice (some ⟨g, 0, none⟩) (c.hs.length + 1) (c.hs.length + 1)) ∧ w.heap.size ≤ g ∧ TP w' (fun _ => w.heap.size) g (c.hs.length + 1) (xs.length + 1) (fun s => some (numR c xs u s)) ∧ Below w.heap.size w w' := by
  obtain ⟨cl1, cl2⟩ := caseB_lens h1
  have h60 := okB_len h2
  have mc := Lib.hid (show c.hs.length ≤ maxLen by unfold maxLen; omega)
  obtain ⟨i0, hi, hz0, hz1, hz2⟩ := info_parts infoRowL
  have hmk := fun W => run_make_rowN (P := Try.prog) 47 22 i0 _ Try.underlying47 hi hz0 .i64 .i64 (c.hs.length + 1) (c.hs.length + 1) (Nat.le_refl _) (by rw [hz2]; omega) (by omega) W
  rw [hz1, Nat.mul_one] at hmk
  have hc1 : (((c.hs.length + 1 : Nat)) : Int) = (c.hs.length : Int) + 1 := by omega
  simp only [hc1] at hmk
  obtain ⟨i1, hi1, hy0, hy1, hy2⟩ := info_parts infoInt64L
  have hmk2 := fun W => run_make_rowN (P := Try.prog) 22 2 i1 _ Try.underlying22 hi1 hy0 .i64 .i64 (xs.length + 1) (xs.length + 1) (Nat.le_refl _) (by rw [hy2]; omega) (by omega) W
  rw [hy1, Nat.mul_one] at hmk2
  have hc2 : (((xs.length + 1 : Nat)) : Int) = (xs.length : Int) + 1 := by omega
  simp only [hc2] at hmk2
  have WC := Lib.hid wc
  have WF := Lib.hid wf
  have K1 := Lib.hid h1
  have HC := Lib.hid hc
  have SL := Lib.hid sl
  have FITS := Lib.hid (fun s i (hi : i ≤ xs.length) => price_fit_bd (u := u) (s := s) (i := i) wc wf h1 h60 hi)
  have NB := Lib.hid (fun s k (h : k ≤ xs.length) => numV_bd (c := c) (xs := xs) (u := u) (s := s) (i := k) wc wf h1 h60 (by omega) h)
  have BBD := Lib.hid (fun s i (hin : i ≤ xs.length) => best_bd (c := c) (xs := xs) (u := u) (s := s) wc wf h1 h60 (by omega) hin)
  obtain ⟨H, qh, rfl, -⟩ := hc.hs
  obtain ⟨c0, c1, c2, cz, -⟩ := hc
  clear hi hz0 hz1 hz2 hi1 hy0 hy1 hy2 wc wf h1 h2 sl
  go_enter Try.func49, Try.ntmps49
  go_upto_region 4 with (fail)
  have T0 := Lib.hid (TP.made w (fun _ => w.heap.size) (c.hs.length + 1) (xs.length + 1))
  have B0 := Lib.hid ((Below.refl w.heap.size w).alloc (Nat.le_refl _) (.cells (madeCells (Value.slice none 0 0).cells (c.hs.length + 1)) 22))
  have S0 := Lib.hid (show w.heap.size + 1 ≤ (w.alloc (.cells (madeCells (Value.slice none 0 0).cells (c.hs.length + 1)) 22)).heap.size by simp)
  rw [show (Value.slice none 0 0).cells = #[Value.slice none 0 0] from rfl] at T0 B0 S0
  rw [show (fun _ => none : Nat → Option (List Int)) = upR (xs.length + 1) 0 from by funext t; unfold upR; rw [if_neg (by omega)]] at T0
  clear c0 c1 c2 hmk
  generalize World.alloc w _ = W0 at T0 B0 S0 ⊢
  obtain ⟨g, hg⟩ : ∃ g, w.heap.size = g := ⟨_, rfl⟩
  have HG := Lib.hid hg
  have zc : gc < g := by rw [← hg]; exact cz
  rw [hg] at T0 B0 S0 ⊢
  clear hg cz
  go_wp2
  go_loopw [10] (fun s_ wr => ∃ s : Nat, s ≤ c.hs.length + 1 ∧ s_ = .int .i64 (s : Int) ∧ TP wr (fun _ => g) g (c.hs.length + 1) (xs.length + 1) (upR (xs.length + 1) s) ∧ Below g w wr ∧ g + 1 ≤ wr.heap.size) (fun s_ _ => c.hs.length + 1 - (intOf s_).toNat)
  case atStart => exact ⟨0, by omega, rfl, T0.out, B0.out, S0.out⟩
  case round =>
    obtain ⟨s, hs, rfl, ht, hb, hsz⟩ := hrel
    have TT := Lib.hid ht
    have BB := Lib.hid hb
    by_cases hlt : s < c.hs.length + 1
    · have hle : (s : Int) ≤ (c.hs.length : Int) := by omega
      obtain ⟨us, sl0⟩ := ht.slot hlt
      have fz0 := ht.frozen s
      have lg := ht.lt
      have sl1 := ((Below.alloc (Below.refl wr.heap.size wr) (Nat.le_refl _) (.cells (madeCells (Value.int .i64 0).cells (xs.length + 1)) 2)).cell (p := ⟨g, s, none⟩) lg).trans sl0
      have fz1 := (ht.below (Below.alloc (Below.refl wr.heap.size wr) (Nat.le_refl _) (.cells (madeCells (Value.int .i64 0).cells (xs.length + 1)) 2))).frozen s
      have T1 := Lib.hid (((World.setCell_alloc_past (.cells (madeCells (Value.int .i64 0).cells (xs.length + 1)) 2) g s (.slice (some ⟨wr.heap.size, 0, none⟩) (xs.length + 1) (xs.length + 1)) lg) ▸ ht.row hlt : TP ((wr.setCell ⟨g, s, none⟩ (.slice (some ⟨wr.heap.size, 0, none⟩) (xs.length + 1) (xs.length + 1))).alloc (.cells (madeCells (Value.int .i64 0).cells (xs.length + 1)) 2)) (fun j => if j = s then wr.heap.size else g) g (c.hs.length + 1) (xs.length + 1) _).mono (lo' := fun _ => g) (fun j _ => by show g ≤ (if j = s then wr.heap.size else g); split <;> omega))
      have B1 := Lib.hid ((hb.setCell (p := ⟨g, s, none⟩) (Nat.le_refl _) (.slice (some ⟨wr.heap.size, 0, none⟩) (xs.length + 1) (xs.length + 1))).alloc (by simp [World.setCell]; omega) (.cells (madeCells (Value.int .i64 0).cells (xs.length + 1)) 2))
      have S1 := Lib.hid (show g + 1 ≤ ((wr.setCell ⟨g, s, none⟩ (.slice (some ⟨wr.heap.size, 0, none⟩) (xs.length + 1) (xs.length + 1))).alloc (.cells (madeCells (Value.int .i64 0).cells (xs.length + 1)) 2)).heap.size by simp [World.setCell]; omega)
      rw [fillTo_zero (fun _ => -1) (xs.length + 1)] at T1
      rw [show (Value.int IntKind.i64 0).cells = #[Value.int .i64 0] from rfl] at T1 B1 S1
      clear ht hb hsz
      go_upto_region 8 with (fail)
      generalize World.alloc (World.setCell wr _ _) _ = W1 at T1 B1 S1 ⊢
      clear sl0 sl1 fz0 fz1
      go_wp2
      go_loopw [11] (fun k_ wq => ∃ k : Nat, k ≤ xs.length + 1 ∧ k_ = .int .i64 (k : Int) ∧ TP wq (fun _ => g) g (c.hs.length + 1) (xs.length + 1) (setR (upR (xs.length + 1) s) s (fillTo (fun _ => -1) (xs.length + 1) k)) ∧ Below g w wq ∧ g + 1 ≤ wq.heap.size) (fun k_ _ => xs.length + 1 - (intOf k_).toNat)
      case atStart => exact ⟨0, by omega, rfl, T1.out, B1.out, S1.out⟩
      case round =>
        obtain ⟨k, hk, rfl, ht, hb, hsz⟩ := hrel
        have TK := Lib.hid ht
        have BK := Lib.hid hb
        by_cases hlk : k < xs.length + 1
        · have hlk' : (k : Int) ≤ (xs.length : Int) := by omega
          obtain ⟨b, t0, tlo, bg0, tb, tl, tn⟩ := ht.at_ hlt setR_same
          obtain ⟨y0, y1, y2⟩ := tn k hlk
          have uf := y2 _ (Below.refl _ _) (-1)
          rw [setR_twice, fillTo_succ (fun _ => -1)] at uf
          have UF := Lib.hid uf
          have BF := Lib.hid (hb.setCell (p := ⟨b, k, none⟩) tlo (.int .i64 (-1)))
          have SF := Lib.hid (show g + 1 ≤ (wr.setCell ⟨b, k, none⟩ (.int .i64 (-1))).heap.size by simp [World.setCell]; omega)
          clear ht hb hsz tn y2 uf
          go_wp2
          go_roundw
          case rel => exact ⟨k + 1, by omega, by go_num, UF.out, BF.out, SF.out⟩
          case measure => simp [intOf]; omega
        · obtain rfl : k = xs.length + 1 := by omega
          have FE := Lib.hid (show TP wr (fun _ => g) g (c.hs.length + 1) (xs.length + 1) (upR (xs.length + 1) (s + 1)) by rw [← upR_step, ← negR, ← fillTo_all]; exact ht)
          have hlk' : ¬ ((xs.length : Int) + 1 ≤ (xs.length : Int)) := by omega
          clear ht hb
          go_wp2
          go_roundw
          case rel => exact ⟨s + 1, by omega, by go_num, FE.out, BK.out, hsz⟩
          case measure => simp [intOf]; omega
    · obtain rfl : s = c.hs.length + 1 := by omega
      have hle : ¬ ((c.hs.length : Int) + 1 ≤ (c.hs.length : Int)) := by omega
      obtain ⟨b, t0, tlo, bg0, tb, tl, tn⟩ := ht.at_ (s := c.hs.length) (zs := List.replicate (xs.length + 1) (-1)) (by omega) (by unfold upR; rw [if_pos (by omega)])
      obtain ⟨y0, y1, y2⟩ := tn xs.length (by omega)
      have uf := y2 _ (Below.refl _ _) 0
      rw [last_row (c := c) (u := u)] at uf
      have UF := Lib.hid (uf.congr (rows' := mixR (numR c xs u) (xs.length + 1) c.hs.length) (fun t hlt => by
        unfold setR mixR upR
        by_cases e : t = c.hs.length
        · subst e; rw [if_pos rfl, if_pos (Nat.le_refl _)]
        · rw [if_neg e, if_pos (by omega), if_neg (by omega)]))
      have BF := Lib.hid (hb.setCell (p := ⟨b, xs.length, none⟩) tlo (.int .i64 0))
      have SF := Lib.hid (show g + 1 ≤ (wr.setCell ⟨b, xs.length, none⟩ (.int .i64 0)).heap.size by simp [World.setCell]; omega)
      clear ht hb hsz tn y2 uf
      go_upto_region 13 with (fail)
      generalize World.setCell wr _ _ = W3 at UF BF SF ⊢
      clear t0 y0 y1 tlo bg0 tb tl
      go_wp2
      go_loopw [12] (fun s_ wr => ∃ s : Nat, s ≤ c.hs.length ∧ s_ = .int .i64 ((s : Int) - 1) ∧ TP wr (fun _ => g) g (c.hs.length + 1) (xs.length + 1) (mixR (numR c xs u) (xs.length + 1) s) ∧ Below g w wr ∧ g + 1 ≤ wr.heap.size) (fun s_ _ => (intOf s_ + 1).toNat)
      case atStart => exact ⟨c.hs.length, by omega, rfl, UF.out, BF.out, SF.out⟩
      case round =>
        obtain ⟨s, hs, rfl, ht, hb, hsz⟩ := hrel
        have TT := Lib.hid ht
        have BB := Lib.hid hb
        clear ht hb
        rcases s with _ | s
        · have TF := Lib.hid (show TP wr (fun _ => g) g (c.hs.length + 1) (xs.length + 1) (fun s => some (numR c xs u s)) by have := TT.out; rw [mixR_zero] at this; exact this)
          go_wp2
          go_ret
          exact ⟨g, rfl, by rw [HG.out]; exact Nat.le_refl _, by rw [HG.out]; exact TF.out, by rw [HG.out]; exact BB.out⟩
        · have hsi : ((s + 1 : Nat) : Int) - 1 = (s : Int) := by omega
          rw [hsi]
          have hs2 : s < c.hs.length := by omega
          have T1 := Lib.hid (show TP wr (fun _ => g) g (c.hs.length + 1) (xs.length + 1) (setR (mixR (numR c xs u) (xs.length + 1) (s + 1)) s (prow (numV c xs u s) (xs.length + 1) 0 (-1))) by rw [← prow_zero, mixR_self]; exact TT.out)
          have RN := Lib.hid (show ∀ zs, setR (mixR (numR c xs u) (xs.length + 1) (s + 1)) s zs (s + 1) = some (numR c xs u (s + 1)) from fun zs => by unfold setR mixR; rw [if_neg (by omega), if_pos (Nat.le_refl _)])
          have FE := Lib.hid (show ∀ x, setR (mixR (numR c xs u) (xs.length + 1) (s + 1)) s (prow (numV c xs u s) (xs.length + 1) (xs.length + 1) x) = mixR (numR c xs u) (xs.length + 1) s from fun x => by rw [prow_all]; exact mixR_step)
          have TW := Lib.hid (show ∀ a b, setR (setR (mixR (numR c xs u) (xs.length + 1) (s + 1)) s a) s b = setR (mixR (numR c xs u) (xs.length + 1) (s + 1)) s b from fun a b => setR_twice)
          have SM := Lib.hid (show ∀ a, setR (mixR (numR c xs u) (xs.length + 1) (s + 1)) s a s = some a from fun a => setR_same)
          generalize setR (mixR (numR c xs u) (xs.length + 1) (s + 1)) s = RR at T1 RN FE TW SM
          have HW := Lib.hid (fun W (h : Below g w W) => (show Below w.heap.size w W by rw [HG.out]; exact h))
          go_wp2
          clear hsi
          go_loopw [13] (fun i_ wr => ∃ i : Nat, i ≤ xs.length + 1 ∧ i_ = .int .i64 (i : Int) ∧ TP wr (fun _ => g) g (c.hs.length + 1) (xs.length + 1) (RR (prow (numV c xs u s) (xs.length + 1) i (-1))) ∧ Below g w wr ∧ g + 1 ≤ wr.heap.size) (fun i_ _ => xs.length + 1 - (intOf i_).toNat)
          case atStart => exact ⟨0, by omega, rfl, T1.out, BB.out, hsz⟩
          case round =>
            clear hsz
            obtain ⟨i, hi, rfl, ht, hb, hsz⟩ := hrel
            have TI := Lib.hid ht
            have BI := Lib.hid hb
            clear ht hb
            by_cases hli : i < xs.length + 1
            · have hle : (i : Int) ≤ (xs.length : Int) := by omega
              have hin : i ≤ xs.length := by omega
              have STEP := Lib.hid (numV_step (c := c) (xs := xs) (u := u) (s := s) (i := i) hs2)
              have BD := Lib.hid (BBD.out s i hin)
              have FT := Lib.hid (FITS.out s i hin)
              go_wp2
              go_loopw [14] (fun k_ wr => ∃ d k : Nat, k = i + d ∧ k ≤ xs.length + 1 ∧ k_ = .int .i64 (k : Int) ∧ FitD c s xs i d ∧ TP wr (fun _ => g) g (c.hs.length + 1) (xs.length + 1) (RR (prow (numV c xs u s) (xs.length + 1) i (bestF (fun k => priceS c s (part xs i k) u) (numV c xs u (s + 1)) i d))) ∧ Below g w wr ∧ g + 1 ≤ wr.heap.size) (fun k_ _ => xs.length + 1 - (intOf k_).toNat)
              case atStart => exact ⟨0, i, rfl, by omega, rfl, .inl rfl, TI.out, BI.out, hsz⟩
              case round =>
                clear hsz
                obtain ⟨d, k, hk, hkn, rfl, hfd, ht, hb, hsz⟩ := hrel
                have FD := Lib.hid hfd
                have HK := Lib.hid hk
                have TT := Lib.hid ht
                have BB := Lib.hid hb
                have hik : i ≤ k := by omega
                clear hfd hk ht hb
                by_cases hkl : k ≤ xs.length
                · have hkl' : (k : Int) ≤ (xs.length : Int) := by omega
                  have hsl := run_part2 A xs.length m i k hik (by omega)
                  have BW := Lib.hid (HW.out _ BB.out)
                  go_wp2_with fail
                  refine (l02Price_any c _ _ (part xs i k) s u WC.out (part_wf i k WF.out) gc _ (HC.out.below BW.out) mc.out hs2 ((SL.out.below BW.out).part hik hkl (show k ≤ m by omega)) (by rw [part_length hkl]; omega)).mono ?_
                  rintro e w1 ⟨rfl, g1⟩
                  clear hsl
                  have T1 := Lib.hid (TT.out.below g1)
                  have B1 := Lib.hid (show Below g w w1 from BB.out.trans (g1.mono (by omega)))
                  have z1 : g + 1 ≤ w1.heap.size := Nat.le_trans hsz g1.size
                  cases hfit : fitsB c s (part xs i k)
                  · have hp := priceS_not (b := u) hfit
                    have E := Lib.hid (FD.out.no K1.out (by have := HK.out; omega) (by rw [← HK.out]; exact hfit))
                    have TE := Lib.hid (show TP w1 (fun _ => g) g (c.hs.length + 1) (xs.length + 1) (RR (prow (numV c xs u s) (xs.length + 1) (i + 1) (-1))) by rw [← prow_next, STEP.out, E.out.1]; exact T1.out)
                    clear hfit g1
                    generalize priceS c s (part xs i k) u = pr at *
                    go_wp2
                    go_roundw
                    case rel => exact ⟨i + 1, by omega, by go_num, TE.out, B1.out, z1⟩
                    case measure => simp [intOf]; omega
                  · have hp := priceS_fit (b := u) hfit
                    have FD2 := Lib.hid (FD.out.yes (by have := HK.out; omega) (by rw [← HK.out]; exact hfit))
                    have hdl := FD2.out.le
                    obtain ⟨pb1, pb2⟩ := FT.out d (by omega)
                    obtain ⟨bb1, bb2⟩ := BD.out d (by omega)
                    obtain ⟨nb1, nb2⟩ := NB.out (s + 1) k hkl
                    have SB := Lib.hid (show bestF (fun k => priceS c s (part xs i k) u) (numV c xs u (s + 1)) i (d + 1) = if numV c xs u (s + 1) (i + d) ≠ -1 ∧ (bestF (fun k => priceS c s (part xs i k) u) (numV c xs u (s + 1)) i d = -1 ∨ numV c xs u (s + 1) (i + d) + priceS c s (part xs i (i + d)) u < bestF (fun k => priceS c s (part xs i k) u) (numV c xs u (s + 1)) i d) then numV c xs u (s + 1) (i + d) + priceS c s (part xs i (i + d)) u else bestF (fun k => priceS c s (part xs i k) u) (numV c xs u (s + 1)) i d from rfl)
                    rw [← HK.out] at SB pb1 pb2
                    obtain ⟨b, t0, tlo, bg0, tb, tl, tn⟩ := T1.out.at_ (s := s) (by omega) (SM.out _)
                    obtain ⟨y0, y1, y2⟩ := tn i hli
                    rw [prow_get hli] at y0
                    obtain ⟨b2, r0, -, -, -, -, rn⟩ := T1.out.at_ (s := s + 1) (by omega) (RN.out _)
                    have q0 := (rn k (by omega)).1
                    rw [numR_getD (show k < xs.length + 1 by omega)] at q0
                    have PUT := Lib.hid (fun (x : Int) => (show TP (w1.setCell ⟨b, i, none⟩ (.int .i64 x)) (fun _ => g) g (c.hs.length + 1) (xs.length + 1) (RR (prow (numV c xs u s) (xs.length + 1) i x)) by have h := y2 w1 (Below.refl _ _) x; rw [TW.out, prow_set] at h; exact h))
                    have PB := Lib.hid (fun (x : Int) => B1.out.setCell (p := ⟨b, i, none⟩) tlo (.int .i64 x))
                    have PZ := Lib.hid (fun (x : Int) => (show g + 1 ≤ (w1.setCell ⟨b, i, none⟩ (.int .i64 x)).heap.size by simp [World.setCell]; omega))
                    have hs1 : s + 1 < c.hs.length + 1 := by omega
                    have hs0 : s < c.hs.length + 1 := by omega
                    clear hfit g1 tn y2 rn tl tb bg0 tlo
                    have SB2 := Lib.hid SB.out
                    clear SB
                    generalize priceS c s (part xs i k) u = pr at *
                    generalize numV c xs u (s + 1) k = r at *
                    generalize bestF (fun k => priceS c s (part xs i k) u) (numV c xs u (s + 1)) i d = x at *
                    have hw1 : IntKind.i64.wrap (pr + r) = pr + r := IntWalk.i64_in _ (by omega)
                    by_cases hr : r = -1
                    · have n1 : ¬ (0 ≤ r) := by omega
                      have TE := Lib.hid (show TP w1 (fun _ => g) g (c.hs.length + 1) (xs.length + 1) (RR (prow (numV c xs u s) (xs.length + 1) i (bestF (fun k => priceS c s (part xs i k) u) (numV c xs u (s + 1)) i (d + 1)))) by rw [SB2.out, if_neg (fun h => h.1 hr)]; exact T1.out)
                      clear hr
                      go_wp2
                      go_roundw
                      case rel => exact ⟨d + 1, k + 1, by have := HK.out; omega, by omega, by go_num, FD2.out, TE.out, B1.out, z1⟩
                      case measure => simp [intOf]; omega
                    · have n1 : 0 ≤ r := by omega
                      by_cases hz0 : x = -1
                      · have n2 : x < 0 := by omega
                        have TE := Lib.hid (show TP (w1.setCell ⟨b, i, none⟩ (.int .i64 (pr + r))) (fun _ => g) g (c.hs.length + 1) (xs.length + 1) (RR (prow (numV c xs u s) (xs.length + 1) i (bestF (fun k => priceS c s (part xs i k) u) (numV c xs u (s + 1)) i (d + 1)))) by rw [SB2.out, if_pos ⟨hr, .inl hz0⟩, Int.add_comm r pr]; exact PUT.out _)
                        clear hr hz0
                        go_wp2
                        go_roundw
                        case rel => exact ⟨d + 1, k + 1, by have := HK.out; omega, by omega, by go_num, FD2.out, TE.out, PB.out _, PZ.out _⟩
                        case measure => simp [intOf]; omega
                      · have n2 : ¬ (x < 0) := by omega
                        by_cases hgt : pr + r < x
                        · have TE := Lib.hid (show TP (w1.setCell ⟨b, i, none⟩ (.int .i64 (pr + r))) (fun _ => g) g (c.hs.length + 1) (xs.length + 1) (RR (prow (numV c xs u s) (xs.length + 1) i (bestF (fun k => priceS c s (part xs i k) u) (numV c xs u (s + 1)) i (d + 1)))) by rw [SB2.out, if_pos ⟨hr, .inr (by omega)⟩, Int.add_comm r pr]; exact PUT.out _)
                          clear hr hz0
                          go_wp2
                          go_roundw
                          case rel => exact ⟨d + 1, k + 1, by have := HK.out; omega, by omega, by go_num, FD2.out, TE.out, PB.out _, PZ.out _⟩
                          case measure => simp [intOf]; omega
                        · have TE := Lib.hid (show TP w1 (fun _ => g) g (c.hs.length + 1) (xs.length + 1) (RR (prow (numV c xs u s) (xs.length + 1) i (bestF (fun k => priceS c s (part xs i k) u) (numV c xs u (s + 1)) i (d + 1)))) by rw [SB2.out, if_neg (fun h => h.2.elim hz0 (by omega))]; exact T1.out)
                          clear hr hz0
                          go_wp2
                          go_roundw
                          case rel => exact ⟨d + 1, k + 1, by have := HK.out; omega, by omega, by go_num, FD2.out, TE.out, B1.out, z1⟩
                          case measure => simp [intOf]; omega
                · have hkl' : ¬ ((k : Int) ≤ (xs.length : Int)) := by omega
                  have E := Lib.hid (FD.out.end_ hin (by have := HK.out; omega))
                  have TE := Lib.hid (show TP wr (fun _ => g) g (c.hs.length + 1) (xs.length + 1) (RR (prow (numV c xs u s) (xs.length + 1) (i + 1) (-1))) by rw [← prow_next, STEP.out, E.out.1]; exact TT.out)
                  go_wp2
                  go_roundw
                  case rel => exact ⟨i + 1, by omega, by go_num, TE.out, BB.out, hsz⟩
                  case measure => simp [intOf]; omega
            · have hle : ¬ ((i : Int) ≤ (xs.length : Int)) := by omega
              obtain rfl : i = xs.length + 1 := by omega
              have TE := Lib.hid (show TP wr (fun _ => g) g (c.hs.length + 1) (xs.length + 1) (mixR (numR c xs u) (xs.length + 1) s) by rw [← FE.out (-1)]; exact TI.out)
              go_wp2
              go_roundw
              case rel => exact ⟨s, by omega, by go_num, TE.out, BI.out, hsz⟩
              case measure => simp [intOf] <;> omega
end Go.Proofs.Ytpamflkefgpdpaa
