/- The rows of a layout, by the program: a contract. Condition: a valid case and list; numbers no longer than the law tests. -/
import Derived.Test.YtdkdchhkfachmaaBad
import Derived.Deep.RegionHeld3
namespace Go.Proofs.Ytdkdchhkfachmaa
set_option linter.unusedSimpArgs false
set_option linter.unusedVariables false
set_option maxRecDepth 100000
open Go.RowKit

theorem infoRow : (Try.prog.info? 79).map (fun i => (i.zero, i.size, i.bytes)) = some (some (.agg #[.int .i64 0, .slice none 0 0, .int .i64 0]), 3, 40) := by kernel_rfl

def rowCs (c : Cs) (A : Option Addr) (xs : List Bk) (i k : Nat) : List Value := [.int .i64 (i : Int), .slice (subA A i k) (k - i) (k - i), .int .i64 (freeB c (part xs i k))]
def rowsCs (c : Cs) (A : Option Addr) (xs : List Bk) (es : List Int) : Nat → List Value
  | 0 => []
  | j + 1 => rowsCs c A xs es j ++ rowCs c A xs (fromE es j).toNat (es.getD j 0).toNat
theorem cell_three_new (w : World) (x y z : Value) (t : TypeId) : ∀ j u, [x, y, z][j]? = some u → (w.alloc (.cells #[x, y, z] t)).cell? ((⟨w.heap.size, 0, none⟩ : Addr).add j) = some u := by
  intro j u hj
  rw [Addr.add_lit, cell_of_row _ _ _ _ _ _ (heap_alloc_new w _)]
  simpa using hj
theorem okAt_out {c : Cs} {xs : List Bk} {es : List Int} {j i : Nat} (hj : j < es.length) (hi : fromE es j = i) (h : inB es[j] (i : Int) (xs.length : Int) = false) : okAt c xs es j = false := by
  unfold inB at h
  simp only [decide_eq_false_iff_not] at h
  by_cases h1 : es[j] < fromE es j
  · exact okAt_less hj h1
  · exact okAt_more hj (by omega)
theorem layB_bad {c : Cs} {xs : List Bk} {es : List Int} {j : Nat} (h : goodN c xs es = j) (hj : j < c.hs.length) : layB c xs es = false := by
  unfold layB
  rw [decide_eq_false (by omega)]
  rfl
theorem rowsCs_length (c : Cs) (A : Option Addr) (xs : List Bk) (es : List Int) : ∀ j, (rowsCs c A xs es j).length = j * 3
  | 0 => rfl
  | j + 1 => by rw [rowsCs, List.length_append, rowsCs_length c A xs es j]; simp [rowCs]; omega
theorem rowsCs_succ {c : Cs} {A : Option Addr} {xs : List Bk} {es : List Int} {j i k : Nat} (hj : j < es.length) (hi : fromE es j = i) (hk : es[j] = k) : rowsCs c A xs es (j + 1) = rowsCs c A xs es j ++ rowCs c A xs i k := by
  rw [rowsCs, getD_ints hj, hi, hk]
  simp

set_option maxHeartbeats 400000 in
theorem behind_any (X : Option Addr) (i k : Nat) (f : Int) (w : World) (hik : i ≤ k) (hk : k ≤ 60) :
    Calls Try.prog 69 #[.agg #[.int .i64 (i : Int), .slice X (k - i) (k - i), .int .i64 f]] w fun e w' => e = .returned (.int .i64 (k : Int)) ∧ Below w.heap.size w w' := by
  have h1 : ((k - i : Nat) : Int) ≤ 60 := by omega
  have h2 : (i : Int) ≤ 60 := by omega
  have E := Lib.hid (show (i : Int) + ((k - i : Nat) : Int) = k by omega)
  go_enter Try.func69, Try.ntmps69
  go_wp2
  go_ret
  exact ⟨congrArg (fun z => Ending.returned (Value.int .i64 z)) E.out, by go_grown⟩

set_option maxHeartbeats 8000000 in
theorem rowsOf_any (c : Cs) (hv : Value) (A : Option Addr) (m : Nat) (v : Value) (xs : List Bk) (es : List Int) (wf : ∀ b ∈ xs, b.Wf) (w : World) (sc : IntsOf .i16 w hv c.hs) (h1 : caseB c = true) (sl : SliceOf w (.slice A xs.length m) xs) (hm : xs.length ≤ m) (h2 : okB xs = true) (se : IntsOf .i64 w v es) (me : es.length ≤ maxLen) :
    Calls Try.prog 73 #[.agg #[.int .i16 c.wi, .int .i32 c.lo, hv], .slice A xs.length m, v] w fun e w' =>
      ∃ u, e = .returned (.tuple #[u, .bool (layB c xs es)]) ∧ w'.ownsRow w.heap.size 79 3 u (goodN c xs es) (rowsCs c A xs es (goodN c xs es)) ∧ Below w.heap.size w w' := by
  obtain ⟨cl1, cl2⟩ := caseB_lens h1
  have h60 := okB_len h2
  have HC := Lib.hid (CaseAt.new (t := 28) sc)
  have G0 := Lib.hid (show Below w.heap.size w (w.alloc (.cells #[.int .i16 c.wi, .int .i32 c.lo, hv] 28)) by go_grown)
  have SL := Lib.hid (sl.below G0.out)
  have WF := Lib.hid wf
  have mc : Hid (c.hs.length ≤ maxLen) := Lib.hid (by unfold maxLen; omega)
  have SE0 := se.below G0.out
  obtain ⟨E, q, rfl, -⟩ := se
  have K1 := Lib.hid h1
  have K2 := Lib.hid h2
  have Z0 := Lib.hid (show w.heap.size < (w.alloc (.cells #[.int .i16 c.wi, .int .i32 c.lo, hv] 28)).heap.size by simp)
  obtain ⟨H, qh, rfl, -⟩ := sc
  obtain ⟨i0, hi, hz0, hz1, hz2⟩ := info_parts infoRow
  unfold maxLen at me
  clear sl wf h1 h2
  go_enter Try.func73, Try.ntmps73
  go_wp2
  generalize World.alloc _ _ = W0 at HC G0 SL SE0 Z0 ⊢
  obtain ⟨E', q', e', se⟩ := SE0
  obtain ⟨rfl, -, rfl⟩ : E = E' ∧ es.length = es.length ∧ q = q' := by injection e' with a b d; exact ⟨a, b, d⟩
  have SE := Lib.hid se
  clear se e'
  go_loopw [8, 9, 16] (fun rows from_ s wr => ∃ j i : Nat, fromE es j = i ∧ j ≤ c.hs.length ∧ from_ = .int .i64 (i : Int) ∧ s = .int .i64 (j : Int) ∧ OkTo c xs es j ∧ wr.ownsRow W0.heap.size 79 3 rows j (rowsCs c A xs es j) ∧ Below W0.heap.size W0 wr) (fun _ _ s _ => c.hs.length - (intOf s).toNat)
  case atStart => exact ⟨0, 0, rfl, Nat.zero_le _, rfl, rfl, fun _ h => absurd h (Nat.not_lt_zero _), ⟨rfl, .inl ⟨rfl, rfl⟩⟩, Below.refl _ _⟩
  case round =>
    obtain ⟨j, i, hi', hj, rfl, rfl, hok, hown, hb⟩ := hrel
    have HI := Lib.hid hi'
    have OK := Lib.hid hok
    have OW := Lib.hid hown
    have ci := Lib.hid (HC.out.below hb)
    have fi := hok.from_in
    rw [hi'] at fi
    obtain ⟨fi1, fi2, fi3⟩ := fi
    have hin : i ≤ xs.length := by omega
    have hje' : j ≤ es.length := by omega
    clear hi' hok fi1 fi2 hown
    by_cases hlt : j < c.hs.length
    · by_cases hje : j < es.length
      · obtain ⟨ge, oe, rfl, hge, hate⟩ := SE.out (by omega)
        have p0 := hate.below hb hge j hje
        clear hate
        have hjd : ((j : Int) == (es.length : Int)) = false := by simp; omega
        cases hin2 : inB es[j] (i : Int) (xs.length : Int)
        · have E := Lib.hid (goodN_bad OK.out hlt (okAt_out hje HI.out hin2))
          go_wp2_with (go_at_call 65; refine (within64_any _ _ _ _).mono ?_; rintro e w' ⟨rfl, rfl⟩)
          go_ret2
          exact ⟨_, by rw [layB_bad E.out hlt]; rfl, by rw [E.out]; exact ownMono OW.out (by have := G0.out.size; omega), bnext G0.out hb⟩
        · obtain ⟨k, hk⟩ : ∃ k : Nat, es[j] = k := ⟨es[j].toNat, by unfold inB at hin2; simp at hin2; omega⟩
          have hikn : i ≤ k ∧ k ≤ xs.length := by unfold inB at hin2; simp at hin2; omega
          obtain ⟨hik, hkn⟩ := hikn
          rw [hk] at p0 hin2
          have EK := Lib.hid hk
          have RS := Lib.hid (rowsCs_succ (c := c) (A := A) (xs := xs) hje HI.out hk)
          have EO := Lib.hid (okAt_eq (c := c) hje HI.out hk hik hkn)
          clear hk
          have b0 : Below wr.heap.size wr wr.drew := (Below.refl _ _).drew
          have zc := ci.out.lt
          have ze := Nat.lt_of_lt_of_le hge hb.size
          have HK := Lib.hid (show ∀ W1, Below wr.heap.size wr W1 → (fun W1 => Below wr.heap.size wr W1 ∧ W1.cell? ⟨w.heap.size, 0, none⟩ = some (.int .i16 c.wi) ∧ W1.cell? ⟨w.heap.size, 1, none⟩ = some (.int .i32 c.lo) ∧ W1.cell? ⟨w.heap.size, 2, none⟩ = some (.slice H c.hs.length qh) ∧ W1.cell? ⟨ge, oe + j, none⟩ = some (.int .i64 (k : Int))) W1 from
            fun W1 hB => ⟨hB, (ci.out.below hB).c0, (ci.out.below hB).c1, (ci.out.below hB).c2, (hB.cell (p := ⟨ge, oe + j, none⟩) ze).trans p0⟩)
          go_wp2_with (go_at_call 65; refine (within64_any _ _ _ _).mono ?_; rintro e w' ⟨rfl, rfl⟩)
          clear p0
          go_region_held3 (fun W1 => Below wr.heap.size wr W1 ∧ W1.cell? ⟨w.heap.size, 0, none⟩ = some (.int .i16 c.wi) ∧ W1.cell? ⟨w.heap.size, 1, none⟩ = some (.int .i32 c.lo) ∧ W1.cell? ⟨w.heap.size, 2, none⟩ = some (.slice H c.hs.length qh) ∧ W1.cell? ⟨ge, oe + j, none⟩ = some (.int .i64 (k : Int))) (first | exact HK.out _ b0 | (refine HK.out _ (bnext ?_ hq); exact And.left (by assumption)) | (refine HK.out _ ?_; first | exact Below.alloc H9.out H9.out.size _ | exact ((Below.refl _ _).alloc (Nat.le_refl _) _).drew | exact ((H9.out.setCell (p := ⟨_, _, none⟩) (Nat.le_refl _) _).setCell (p := ⟨_, _, none⟩) (Nat.le_refl _) _).setCell (p := ⟨_, _, none⟩) (Nat.le_refl _) _))
            ((go_at_call 66; refine (rowOn_any c _ A m xs j i k WF.out _ (ci.out.hs.below (And.left (by assumption))) hlt K1.out (SL.out.below (bnext hb (And.left (by assumption)))) hm K2.out hik hkn).mono ?_; rintro e w9 ⟨rfl, hq⟩; have H9 := Lib.hid (bnext (show Below wr.heap.size wr _ from And.left (by assumption)) hq); unfold rowV; try (have X9 := (hq.block wr.heap.size (by simp)).trans (heap_alloc_new wr _); have y0 := cell_of_row _ _ 0 _ _ _ X9; have y1 := cell_of_row _ _ 1 _ _ _ X9; have y2 := cell_of_row _ _ 2 _ _ _ X9; have yf := fun j => frozen_of_row _ _ j _ _ X9; simp only [List.getElem?_toArray, List.getElem?_cons_zero, List.getElem?_cons_succ] at y0 y1 y2; have HX9 := Lib.hid X9; clear X9)))
          · have X8 := heap_alloc_new w9 (.cells #[.int .i64 (i : Int), .slice (subA A i k) (k - i) (k - i), .int .i64 (freeB c (part xs i k))] 79)
            have B8 := Below.alloc H9.out H9.out.size (.cells #[.int .i64 (i : Int), .slice (subA A i k) (k - i) (k - i), .int .i64 (freeB c (part xs i k))] 79)
            have HLB := Lib.hid H9.out.size
            rename_i hheld
            clear hheld hq H9
            generalize World.alloc w9 _ = W8 at X8 B8 ⊢
            generalize w9.heap.size = B at X8 HLB ⊢
            have OW8 := Lib.hid (ownBelow OW.out B8)
            have bB8 := Lib.hid (bnext hb B8)
            have x0 := cell_of_row W8 B 0 _ _ _ X8
            have x1 := cell_of_row W8 B 1 _ _ _ X8
            have x2 := cell_of_row W8 B 2 _ _ _ X8
            simp only [List.getElem?_toArray, List.getElem?_cons_zero, List.getElem?_cons_succ] at x0 x1 x2
            have HX8 := Lib.hid X8
            have HB8 := Lib.hid B8
            clear X8 B8
            generalize hfr : freeB c (part xs i k) = fr at *
            have HFR := Lib.hid hfr
            clear hfr
            cases hfit : fitsB c j (part xs i k)
            · have E := Lib.hid (goodN_bad OK.out hlt (by rw [EO.out, hfit]))
              clear hfit
              go_wp2
              go_ret2
              exact ⟨_, by rw [layB_bad E.out hlt]; rfl, by rw [E.out]; exact ownMono OW8.out (by have := G0.out.size; omega), bnext G0.out bB8.out⟩
            · have EF := Lib.hid (show okAt c xs es j = true by rw [EO.out, hfit])
              have FS := Lib.hid (show fromE es (j + 1) = (k : Int) by rw [fromE_succ, getD_ints hje, EK.out])
              clear hfit
              have hbh := bB8.out.size
              go_wp2_with (at_builtin; refine wpList_append_own _ rfl (.tmp 50) (.tmp 52) _ rfl W0.heap.size 79 i0 (.agg #[.int .i64 0, .slice none 0 0, .int .i64 0]) 3 40 Try.underlying87 hi hz0 hz1 hz2 rfl (by decide) _ _ _ rfl (OW8.out.alloc _) ⟨W8.heap.size, 0, none⟩ 1 1 [.int .i64 (i : Int), .slice (subA A i k) (k - i) (k - i), .int .i64 fr] rfl rfl ?c1a ?c2a ?c3a ?c4a ?c5a ?_)
              case c1a => exact cell_three_new _ _ _ _ _
              case c2a => (intro u hu; simp at hu; rcases hu with rfl | rfl | rfl <;> rfl)
              case c3a => (unfold maxLen; omega)
              case c4a => omega
              case c5a => (simp; omega)
              intro v' w2 hown' hgrow' _
              have OW' := Lib.hid hown'
              have g2 : Below W0.heap.size W0 w2 := (bB8.out.alloc hbh _).grown hgrow' (by simp; omega) (fun g hg => (OW8.out.lt g hg).1)
              have X2 := (hgrow'.block B (by have := (Array.getElem?_eq_some_iff.1 HX8.out).1; simp; omega) (fun e => by have := (OW.out.lt B e.symm).2; have := HLB.out; omega)).trans ((Below.heap_alloc _ _ _ (Array.getElem?_eq_some_iff.1 HX8.out).1).trans HX8.out)
              have x0 := cell_of_row w2 B 0 _ _ _ X2
              have x1 := cell_of_row w2 B 1 _ _ _ X2
              have x2 := cell_of_row w2 B 2 _ _ _ X2
              simp only [List.getElem?_toArray, List.getElem?_cons_zero, List.getElem?_cons_succ] at x0 x1 x2
              clear hown' hgrow' X2
              go_wp2_with fail
              refine (behind_any _ i k fr _ hik (by omega)).mono ?_
              rintro e w3 ⟨rfl, g3⟩
              clear x0 x1 x2
              go_wp2
              go_roundw
              case rel => exact ⟨j + 1, k, FS.out, by omega, rfl, by go_num, OK.out.succ EF.out, by rw [RS.out]; have h := ownBelow OW'.out g3; unfold rowCs; rw [HFR.out]; exact h, bnext g2 g3⟩
              case measure => simp [intOf]; omega
          · have X8 := heap_setCell_same _ _ 2 _ _ (.int .i64 (freeB c (part xs i k))) (heap_setCell_same _ _ 1 _ _ (.slice (subA A i k) (k - i) (k - i)) (heap_setCell_same _ _ 0 _ _ (.int .i64 (i : Int)) HX9.out))
            have B8 := (((H9.out.setCell (p := ⟨wr.heap.size, 0, none⟩) (Nat.le_refl _) (.int .i64 (i : Int))).setCell (p := ⟨wr.heap.size, 1, none⟩) (Nat.le_refl _) (.slice (subA A i k) (k - i) (k - i))).setCell (p := ⟨wr.heap.size, 2, none⟩) (Nat.le_refl _) (.int .i64 (freeB c (part xs i k))))
            rename_i hheld
            clear hheld hq H9 HX9 y0 y1 y2 yf
            generalize World.setCell _ _ _ = W8 at X8 B8 ⊢
            simp only [List.setIfInBounds_toArray, List.set_cons_zero, List.set_cons_succ] at X8
            generalize hBB : wr.heap.size = B at X8 ⊢
            have HBB := Lib.hid hBB
            clear hBB
            have HLB := Lib.hid (show wr.heap.size ≤ B by have := HBB.out; omega)
            have OW8 := Lib.hid (ownBelow OW.out B8)
            have bB8 := Lib.hid (bnext hb B8)
            have x0 := cell_of_row W8 B 0 _ _ _ X8
            have x1 := cell_of_row W8 B 1 _ _ _ X8
            have x2 := cell_of_row W8 B 2 _ _ _ X8
            simp only [List.getElem?_toArray, List.getElem?_cons_zero, List.getElem?_cons_succ] at x0 x1 x2
            have HX8 := Lib.hid X8
            have HB8 := Lib.hid B8
            clear X8 B8
            generalize hfr : freeB c (part xs i k) = fr at *
            have HFR := Lib.hid hfr
            clear hfr
            cases hfit : fitsB c j (part xs i k)
            · have E := Lib.hid (goodN_bad OK.out hlt (by rw [EO.out, hfit]))
              clear hfit
              go_wp2
              go_ret2
              exact ⟨_, by rw [layB_bad E.out hlt]; rfl, by rw [E.out]; exact ownMono OW8.out (by have := G0.out.size; omega), bnext G0.out bB8.out⟩
            · have EF := Lib.hid (show okAt c xs es j = true by rw [EO.out, hfit])
              have FS := Lib.hid (show fromE es (j + 1) = (k : Int) by rw [fromE_succ, getD_ints hje, EK.out])
              clear hfit
              have hbh := bB8.out.size
              go_wp2_with (at_builtin; refine wpList_append_own _ rfl (.tmp 50) (.tmp 52) _ rfl W0.heap.size 79 i0 (.agg #[.int .i64 0, .slice none 0 0, .int .i64 0]) 3 40 Try.underlying87 hi hz0 hz1 hz2 rfl (by decide) _ _ _ rfl (OW8.out.alloc _) ⟨W8.heap.size, 0, none⟩ 1 1 [.int .i64 (i : Int), .slice (subA A i k) (k - i) (k - i), .int .i64 fr] rfl rfl ?c1b ?c2b ?c3b ?c4b ?c5b ?_)
              case c1b => exact cell_three_new _ _ _ _ _
              case c2b => (intro u hu; simp at hu; rcases hu with rfl | rfl | rfl <;> rfl)
              case c3b => (unfold maxLen; omega)
              case c4b => omega
              case c5b => (simp; omega)
              intro v' w2 hown' hgrow' _
              have OW' := Lib.hid hown'
              have g2 : Below W0.heap.size W0 w2 := (bB8.out.alloc hbh _).grown hgrow' (by simp; omega) (fun g hg => (OW8.out.lt g hg).1)
              have X2 := (hgrow'.block B (by have := (Array.getElem?_eq_some_iff.1 HX8.out).1; simp; omega) (fun e => by have := (OW.out.lt B e.symm).2; have := HLB.out; omega)).trans ((Below.heap_alloc _ _ _ (Array.getElem?_eq_some_iff.1 HX8.out).1).trans HX8.out)
              have x0 := cell_of_row w2 B 0 _ _ _ X2
              have x1 := cell_of_row w2 B 1 _ _ _ X2
              have x2 := cell_of_row w2 B 2 _ _ _ X2
              simp only [List.getElem?_toArray, List.getElem?_cons_zero, List.getElem?_cons_succ] at x0 x1 x2
              clear hown' hgrow' X2
              go_wp2_with fail
              refine (behind_any _ i k fr _ hik (by omega)).mono ?_
              rintro e w3 ⟨rfl, g3⟩
              clear x0 x1 x2
              go_wp2
              go_roundw
              case rel => exact ⟨j + 1, k, FS.out, by omega, rfl, by go_num, OK.out.succ EF.out, by rw [RS.out]; have h := ownBelow OW'.out g3; unfold rowCs; rw [HFR.out]; exact h, bnext g2 g3⟩
              case measure => simp [intOf]; omega
      · have hjd : ((j : Int) == (es.length : Int)) = true := by simp; omega
        have E := Lib.hid (goodN_bad OK.out hlt (okAt_short (c := c) (xs := xs) (es := es) (j := j) (by omega)))
        go_wp2
        go_ret2
        exact ⟨_, by rw [layB_bad E.out hlt]; rfl, by rw [E.out]; exact ownMono OW.out (by have := G0.out.size; omega), bnext G0.out hb⟩
    · obtain rfl : j = c.hs.length := by omega
      have EG := Lib.hid (goodN_all OK.out)
      have ol : ∃ X cap, u8 = .slice X c.hs.length cap := by
        rcases OW.out.2 with ⟨h, h0⟩ | ⟨g, cap, cur, h, _⟩
        · omega
        · exact ⟨_, _, h⟩
      obtain ⟨X, cap, rfl⟩ := ol
      clear hlt
      by_cases hl : es.length = c.hs.length
      · have hl' : ((es.length : Int) == (c.hs.length : Int)) = true := by rw [hl]; simp
        by_cases hn : i = xs.length
        · have hn' : ((i : Int) == (xs.length : Int)) = true := by rw [hn]; simp
          have E := Lib.hid (show layB c xs es = true by unfold layB; rw [EG.out, HI.out, hn, decide_eq_true hl]; simp)
          clear hl hn
          go_wp2
          go_ret2
          exact ⟨_, by rw [E.out]; rfl, by rw [EG.out]; exact ownMono OW.out (by have := G0.out.size; omega), bnext G0.out hb⟩
        · have hn' : ((i : Int) == (xs.length : Int)) = false := by simp; omega
          have E := Lib.hid (show layB c xs es = false by unfold layB; rw [HI.out, decide_eq_false (show ¬ ((i : Int) = xs.length) by omega)]; simp)
          clear hl hn
          go_wp2
          go_ret2
          exact ⟨_, by rw [E.out]; rfl, by rw [EG.out]; exact ownMono OW.out (by have := G0.out.size; omega), bnext G0.out hb⟩
      · have hl' : ((es.length : Int) == (c.hs.length : Int)) = false := by simp; omega
        have E := Lib.hid (show layB c xs es = false by unfold layB; rw [decide_eq_false hl]; simp)
        clear hl
        go_wp2
        go_ret2
        exact ⟨_, by rw [E.out]; rfl, by rw [EG.out]; exact ownMono OW.out (by have := G0.out.size; omega), bnext G0.out hb⟩
end Go.Proofs.Ytdkdchhkfachmaa
