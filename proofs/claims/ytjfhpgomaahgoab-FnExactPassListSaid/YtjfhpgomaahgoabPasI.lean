/- How many passes a list needs, by the model and by the program: contracts. Condition: lists no longer than can be, whose numbers lie within their kinds. -/
import Derived.Test.YtjfhpgomaahgoabTak
import Derived.Test.YtjfhpgomaahgoabBooksOk
import Derived.Test.YtjfhpgomaahgoabBreaks
namespace Go.Proofs.Ytjfhpgomaahgoab
set_option linter.unusedSimpArgs false
set_option linter.unusedVariables false
set_option maxRecDepth 100000
open Go.RowKit Go.Shelf Stab
attribute [local go_sem] Oper.semAt_some

def pcC (xs : List Bk) : Int := if okB xs then 0 else 1
def pcV (xs : List Bk) : Int := if okB xs then lastP (psP xs) else 0
def pcL (xs : List Bk) : List Int := if okB xs then psL xs else []

set_option maxHeartbeats 4000000 in
theorem specPassesOf_any (v0 : Value) (xs : List Bk) (wf : ∀ b ∈ xs, b.Wf) (w : World) (hs : SliceOf w v0 xs) (hm : xs.length ≤ maxLen) :
    Calls Try.prog 34 #[v0] w fun e w' => e = .returned (.tuple #[.int .i64 (pcV xs), .int .i64 (pcC xs)]) ∧ Below w.heap.size w w' := by
  have HS := Lib.hid hs
  have WF := Lib.hid wf
  clear hs wf
  cases h1 : okB xs
  · have E := Lib.hid (show pcC xs = 1 by unfold pcC; rw [h1]; rfl)
    have E2 := Lib.hid (show pcV xs = 0 by unfold pcV; rw [h1]; rfl)
    go_enter Try.func34, Try.ntmps34
    go_wp2_with fail
    refine (l01Ok_any v0 xs WF.out _ HS.out hm).mono ?_
    rintro e w1 ⟨rfl, g1⟩
    rw [h1]
    go_wp2
    go_ret2
    exact ⟨by rw [E.out, E2.out]; rfl, g1⟩
  · have E := Lib.hid (show pcC xs = 0 by unfold pcC; rw [h1]; rfl)
    have E2 := Lib.hid (show pcV xs = lastP (psP xs) by unfold pcV; rw [h1]; rfl)
    have MX := Lib.hid (psL_max WF.out)
    have h60 := ok60 h1
    go_enter Try.func34, Try.ntmps34
    go_wp2_with fail
    refine (l01Ok_any v0 xs WF.out _ HS.out hm).mono ?_
    rintro e w1 ⟨rfl, g1⟩
    rw [h1]
    go_wp2_with fail
    refine (l03Passes_any v0 xs WF.out _ (HS.out.below g1) h60).mono ?_
    rintro e w2 ⟨g, rfl, hg, hz, g2⟩
    have HZ := Lib.hid hz
    have G2 := Lib.hid (bnext g1 g2)
    have LN := Lib.hid (psL_length xs)
    have M0 := Lib.hid (show mxG ((psL xs).drop 0) 0 = mxG (psL xs) 0 by rw [List.drop_zero])
    clear hz g1 g2 h1
    go_wp2
    go_loopw [4, 6] (fun m_ i_ wr => ∃ (i : Nat) (m : Int), i ≤ xs.length ∧ i_ = .int .i64 (i : Int) ∧ m_ = .int .i64 m ∧ mxG ((psL xs).drop i) m = mxG (psL xs) 0 ∧ wr = w2) (fun _ i_ _ => xs.length - (intOf i_).toNat)
    case atStart => exact ⟨0, 0, Nat.zero_le _, rfl, rfl, M0.out, rfl⟩
    case round =>
      obtain ⟨i, m, hi, rfl, rfl, hmx, rfl⟩ := hrel
      have HMX := Lib.hid hmx
      clear hmx
      by_cases hlt : i < xs.length
      · have hil : i < (psL xs).length := by rw [LN.out]; exact hlt
        have q0 := HZ.out.cell i hil
        rw [getD_get hil] at q0
        have SC := Lib.hid (mxG_drop (m := m) hil)
        generalize (psL xs)[i] = a at q0 SC
        generalize hM : (if m < a then a else m) = M at SC
        have HM := Lib.hid hM
        have HMX2 := Lib.hid (show mxG ((psL xs).drop (i + 1)) M = mxG (psL xs) 0 by rw [← HMX.out, SC.out])
        clear hM hil
        go_wp2_with fail
        refine (l00Max_any m a M HM.out _).mono ?_
        rintro e w' ⟨rfl, rfl⟩
        go_wp2
        go_roundw
        case rel => exact ⟨i + 1, M, by omega, by go_num, rfl, HMX2.out, by first | rfl | trivial⟩
        case measure => simp [intOf]; omega
      · obtain rfl : i = xs.length := by omega
        have EE := Lib.hid (show pcV xs = m by rw [E2.out, ← MX.out, ← HMX.out, mxG_end (by rw [LN.out]; exact Nat.le_refl _)])
        go_wp2
        go_ret2
        exact ⟨by rw [EE.out, E.out]; rfl, G2.out⟩

set_option maxHeartbeats 8000000 in
theorem passesOf_any (v0 : Value) (xs : List Bk) (wf : ∀ b ∈ xs, b.Wf) (w : World) (hs : SliceOf w v0 xs) (hm : xs.length ≤ maxLen) :
    Calls Try.prog 35 #[v0] w fun e w' => e = .returned (.tuple #[.int .i64 (pcV xs), .int .i64 (pcC xs)]) ∧ Below w.heap.size w w' := by
  have HS := Lib.hid hs
  have WF := Lib.hid wf
  cases h1 : okB xs
  · have E := Lib.hid (show pcC xs = 1 by unfold pcC; rw [h1]; rfl)
    have E2 := Lib.hid (show pcV xs = 0 by unfold pcV; rw [h1]; rfl)
    clear hs wf
    go_enter Try.func35, Try.ntmps35
    go_wp2_with fail
    refine (validBooks_any v0 xs _ HS.out hm).mono ?_
    rintro e w1 ⟨rfl, g1⟩
    rw [h1]
    go_wp2
    go_ret2
    exact ⟨by rw [E.out, E2.out]; rfl, g1⟩
  · have E := Lib.hid (show pcC xs = 0 by unfold pcC; rw [h1]; rfl)
    have E2 := Lib.hid (show pcV xs = lastP (psP xs) by unfold pcV; rw [h1]; rfl)
    have h60 := ok60 h1
    obtain ⟨A0, k0, rfl, -⟩ := hs
    clear wf
    refine (callsIn_wide (n := 3)).1 ?_
    refine callsIn_of_wp_marks Try.func35 rfl trivial ?_ rfl
    simp only [Try.ntmps35, List.size_toArray, List.length_cons, List.length_nil, Nat.reduceAdd, Nat.reduceSub, Array.replicate_succ, Array.replicate_zero, List.push_toArray, List.append_toArray, List.nil_append, List.cons_append]
    gi_wp2_with fail
    refine ⟨trivial, (callsIn_wide.2 (validBooks_any _ xs _ HS.out hm)).mono ?_⟩
    rintro e w1 ⟨rfl, g1⟩
    rw [h1]
    gi_wp2_with fail
    refine ⟨trivial, (callsIn_wide.2 (taken_any _ _ _ _)).mono ?_⟩
    rintro e w2 ⟨rfl, rfl⟩
    gi_wp2
    have b0 : ((w1.alloc (.cells #[.int .i64 0] 2)).alloc (.cells #[.slice A0 xs.length k0] 27)).heap[w1.heap.size]? = some (.cells #[.int .i64 0] 2 (0, 0)) := later_alloc (World.alloc_heap_new w1 _) _
    have b1 : ((w1.alloc (.cells #[.int .i64 0] 2)).alloc (.cells #[.slice A0 xs.length k0] 27)).heap[w1.heap.size + 1]? = some (.cells #[.slice A0 xs.length k0] 27 (0, 0)) := by
      have := World.alloc_heap_new (w1.alloc (.cells #[.int .i64 0] 2)) (.cells #[.slice A0 xs.length k0] 27)
      rwa [World.size_alloc] at this
    have b2 : Below w1.heap.size w1 ((w1.alloc (.cells #[.int .i64 0] 2)).alloc (.cells #[.slice A0 xs.length k0] 27)) := by go_grown
    have b3 : ((w1.alloc (.cells #[.int .i64 0] 2)).alloc (.cells #[.slice A0 xs.length k0] 27)).heap.size = w1.heap.size + 2 := by simp
    generalize hW0 : World.alloc _ _ = W0 at b0 b1 b2 b3 ⊢
    clear hW0
    have HG := Lib.hid (bnext g1 b2)
    have HSW := Lib.hid (HS.out.below HG.out)
    have hwz := g1.size
    refine wpIn_rangeFunc_ownH rfl (by omega : 1 ≤ 3) (gf := 110) (lb := #[.pointer (some ⟨w1.heap.size + 1, 0, none⟩)]) rfl trivial (enters_of Try.func110 (by kernel_rfl) rfl)
      (tk_stops 2 (by omega) (w1.heap.size + 1) _ xs WF.out h60 W0 b1 HSW.out) kpI_t kpI_b (Below.refl _ _) (fun _ => rfl)
      (fun pre W => W.heap[w1.heap.size]? = some (.cells #[.int .i64 (lastP (pre.map Subtype.val))] 2 (0, 0)) ∧ Below w.heap.size w W)
      (fun _ _ _ => False)
      ?hI ?hIx ⟨b0, HG.out⟩
      (fun x a' _ => a' = { tmps := #[.slice A0 xs.length k0, undef, .int .i64 0, .int .i64 0, .pointer (some ⟨w1.heap.size, 0, none⟩), undef, .int .i64 x.1.2, .slice A0 xs.length k0, .bool true, .bool false, .slice A0 xs.length k0, .func (.func 110) #[] #[.pointer (some ⟨w1.heap.size + 1, 0, none⟩)], .int .i64 x.1.1, .int .i64 x.1.2, undef, undef], defers := [] })
      ?hAx ?assign ?body ?done ?stop
    case hI =>
      rintro s X Y row ⟨e1, e2⟩ hg hr
      exact ⟨(hg.block _ (Array.getElem?_eq_some_iff.1 e1).1 (fun e => by have := (hr _ e.symm).1; omega)).trans e1, e2.grown hg e2.size (fun k e => by have := (hr k e).1; omega)⟩
    case hIx => rintro c s X Y row h _ _; exact h
    case hAx => rintro x a' _ X Y row h _ _; exact h
    case assign =>
      rintro l pre x W K ⟨e1, e2⟩ hK
      gi_wp2
      exact hK _ _ (KeepsOthers.refl _ |>.from _) (kpI_below (Below.refl _ _)) ⟨e1, e2⟩ rfl
    case body =>
      rintro l pre x a' W hl _ ⟨e1, e2⟩ rfl hlt
      obtain ⟨⟨x1, x2⟩, hx⟩ := x
      have HI := Lib.hid e1
      have HB := Lib.hid e2
      have t0 : W.cell? ⟨w1.heap.size, 0, none⟩ = some (.int .i64 (lastP (pre.map Subtype.val))) := cell_of_row W _ 0 _ _ _ e1
      have f0 : W.frozen? ⟨w1.heap.size, 0, none⟩ = false := frozen_of_row W _ 0 _ _ e1
      clear e1 e2
      gi_wp2
      refine ⟨(KeepsOthers.setCell _ _ _).from _, kpI_grown (grownBy_setCell' W w1.heap.size _) (fun k e => by cases e; exact ⟨_, HI.out, fun a e => by cases e⟩), ?_, HB.out.setCell (p := ⟨_, _, none⟩) (by simp; omega) _⟩
      rw [List.map_append, List.map_cons, List.map_nil, lastP_snoc]
      exact heap_setCell_same _ _ _ _ _ _ HI.out
    case done =>
      rintro D ys W hD hys ⟨e1, e2⟩ hK
      have E4 := Lib.hid (show pcV xs = lastP (ys.map Subtype.val) by rw [E2.out, hys])
      have t0 : W.cell? ⟨w1.heap.size, 0, none⟩ = some (.int .i64 (lastP (ys.map Subtype.val))) := cell_of_row W _ 0 _ _ _ e1
      have HB := Lib.hid e2
      clear e1 e2 hys
      gi_wp2
      refine ⟨by simp, .inl ⟨_, _, rfl, run_takeDeferred hK, ?_⟩⟩
      have g6 : Below w.heap.size w (W.putObj D (.deferred none)) := HB.out.grown (grownBy_putObj' W D (.deferred none)) HB.out.size (fun k e => by cases e; omega)
      generalize W.putObj D (.deferred none) = W6 at g6 ⊢
      refine ⟨_, ?_, rfl, g6⟩
      rw [E4.out, E.out]
      simp [results, Try.f35, go_sem]
    case stop =>
      rintro D c pre W hD hpre h hK
      exact h.elim

end Go.Proofs.Ytjfhpgomaahgoab
