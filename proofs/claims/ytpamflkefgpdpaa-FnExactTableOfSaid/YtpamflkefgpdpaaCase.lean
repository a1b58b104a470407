/- Cases of shelves: how they read when they come in; the law's copies and comparisons; which are valid, by the model and by the program: contracts. Condition: heights no longer than a slice can be (the copies: than the law tests). -/
import Derived.Test.YtpamflkefgpdpaaNums
namespace Go.Proofs.Ytpamflkefgpdpaa
set_option linter.unusedSimpArgs false
set_option linter.unusedVariables false
set_option maxRecDepth 100000
open Go.ChangeShapes Go.WideShapes Go.ChangeAt Go.RowKit

structure Cs where
  wi : Int
  lo : Int
  hs : List Int
structure Cs.Wf (c : Cs) : Prop where
  wi : -32768 ≤ c.wi ∧ c.wi ≤ 32767
  lo : -2147483648 ≤ c.lo ∧ c.lo ≤ 2147483647
  hs : ∀ h ∈ c.hs, -32768 ≤ h ∧ h ≤ 32767

theorem cellsCase : Try.prog.cellsOf 45 = 3 := by kernel_rfl
theorem cells32 : Try.prog.cellsOf 21 = 1 := by kernel_rfl
theorem cellsS16 : Try.prog.cellsOf 43 = 1 := by kernel_rfl

section
variable {H : Type} {enc : TypeId × Value → H} {w : World} {base : Nat} {spare : Nat → Bool} {held : Bool}
theorem case_of_trod {fuel : Nat} {cs : List Value} {x : DataW H × List MemPlace} (h : DataW.trod enc Try.prog w base spare held fuel 45 cs = some x) :
    ∃ (c : Cs) (hv : Value), c.Wf ∧ cs = [.int .i16 c.wi, .int .i32 c.lo, hv] ∧ IntsOf .i16 w hv c.hs ∧ c.hs.length ≤ maxLen := by
  obtain ⟨xs, n, _, _, hlen, hxl, hf⟩ := DataW.trod_struct Try.underlying45 h
  rw [cellsCase] at hlen
  match cs, hlen with
  | [c0, c1, c2], _ =>
    match xs, hxl with
    | [y0, y1, y2], _ =>
      have h0 : DataW.trod enc Try.prog w base spare held n 29 ((List.drop 0 [c0, c1, c2]).take (Try.prog.cellsOf 29)) = some y0 := hf 0 _ rfl
      have h1 : DataW.trod enc Try.prog w base spare held n 21 ((List.drop 1 [c0, c1, c2]).take (Try.prog.cellsOf 21)) = some y1 := hf 1 _ rfl
      have h2 : DataW.trod enc Try.prog w base spare held n 43 ((List.drop 2 [c0, c1, c2]).take (Try.prog.cellsOf 43)) = some y2 := hf 2 _ rfl
      simp only [cells16, cells32, cellsS16, List.drop_zero, List.drop_succ_cons, List.take_succ_cons, List.take_zero] at h0 h1 h2
      obtain ⟨a0, e0, _, w0⟩ := DataW.trod_int Try.underlying29 h0
      obtain ⟨a1, e1, _, w1⟩ := DataW.trod_int Try.underlying21 h1
      obtain ⟨hv, zs, e2, w2, s2, l2⟩ := ints_of_trod Try.underlying43 Try.underlying29 cells16 h2
      simp only [List.cons.injEq, and_true] at e0 e1 e2
      subst e0 e1 e2
      exact ⟨⟨a0, a1, zs⟩, _, ⟨bounds_i16 w0, bounds_i32 w1, fun z hz => bounds_i16 (w2 z hz)⟩, rfl, s2, l2⟩

/-- A case that came in. -/
theorem case_of_arg {r : Reach} {b0 : Nat} {v : Value} {d : DataW H} {p : List MemPlace} (hv : Value.okWide Try.prog w r b0 45 v) (h : DataW.Trod enc Try.prog w base spare held 45 v d p) :
    ∃ (c : Cs) (hv : Value), c.Wf ∧ v = .agg #[.int .i16 c.wi, .int .i32 c.lo, hv] ∧ IntsOf .i16 w hv c.hs ∧ c.hs.length ≤ maxLen := by
  obtain ⟨cs, rfl, _⟩ := okWide_struct Try.underlying45 hv
  obtain ⟨fuel, hf⟩ := h
  obtain ⟨c, hv, wf, e, s, l⟩ := case_of_trod hf
  refine ⟨c, hv, wf, ?_, s, l⟩
  have e' : cs.toList = [.int .i16 c.wi, .int .i32 c.lo, hv] := by simpa [Value.cells] using e
  have : cs = #[.int .i16 c.wi, .int .i32 c.lo, hv] := by rw [← Array.toList_inj]; exact e'
  rw [this]
end

/-! ### the law's functions -/
set_option maxHeartbeats 1000000 in
theorem szCase_left (c : Cs) (A : Option Addr) (k : Nat) (L : Int) (w : World) (hn : c.hs.length ≤ 9223372036854775807) (h0 : 0 ≤ L) (h1 : L ≤ 1048576) :
    Calls Try.prog 21 #[.agg #[.int .i16 c.wi, .int .i32 c.lo, .slice A c.hs.length k], .int .i64 L] w fun e w' => e = .returned (.int .i64 (if (c.hs.length : Int) ≤ L then L - (c.hs.length : Int) else -1)) ∧ Below w.heap.size w w' := by
  by_cases h : (c.hs.length : Int) ≤ L
  · have h' : ¬ (L - (c.hs.length : Int) < 0) := by omega
    rw [if_pos h]
    go_enter Try.func21, Try.ntmps21
    go_wp2_with fail
    refine (szInt16S_left _ _ _ _ _ hn h0 h1).mono ?_
    rintro e w' ⟨rfl, rfl⟩
    rw [if_pos h]
    go_wp2
    go_ret
    exact ⟨rfl, by go_grown⟩
  · rw [if_neg h]
    go_enter Try.func21, Try.ntmps21
    go_wp2_with fail
    refine (szInt16S_left _ _ _ _ _ hn h0 h1).mono ?_
    rintro e w' ⟨rfl, rfl⟩
    rw [if_neg (by omega)]
    go_wp2
    go_ret
    exact ⟨rfl, by go_grown⟩
theorem IRowK.far {k : IntKind} {t : TypeId} {w : World} {g j n : Nat} {zs : List Int} (h : IRowK k t w g zs j n) {p : Addr} (hne : g ≠ p.block) {u : Value} : IRowK k t (w.setCell p u) g zs j n := by
  obtain ⟨cs, h, h2⟩ := h
  exact ⟨cs, (Below.heap_setCell w p u g hne).trans h, h2⟩
theorem alloc2 (w : World) (a b : Obj) : ((w.alloc a).alloc b).heap[w.heap.size]? = some a ∧ ((w.alloc a).alloc b).heap[w.heap.size + 1]? = some b := by
  constructor
  · rw [Below.heap_alloc _ _ _ (by simp)]
    exact heap_alloc_new w a
  · have := heap_alloc_new (w.alloc a) b
    simpa using this
theorem alloc3 (w : World) (a b c : Obj) : (((w.alloc a).alloc b).alloc c).heap[w.heap.size + 1]? = some b ∧ (((w.alloc a).alloc b).alloc c).heap[w.heap.size + 1 + 1]? = some c := by
  constructor
  · rw [Below.heap_alloc _ _ _ (by simp)]
    have := heap_alloc_new (w.alloc a) b
    simpa using this
  · have := heap_alloc_new ((w.alloc a).alloc b) c
    simpa using this

set_option maxHeartbeats 2000000 in
theorem toCase_any (c : Cs) (hv : Value) (w : World) (hs : IntsOf .i16 w hv c.hs) (hn : c.hs.length ≤ 1048576) :
    Calls Try.prog 23 #[.agg #[.int .i16 c.wi, .int .i32 c.lo, hv]] w fun e w' => ∃ g, e = .returned (.agg #[.int .i16 c.wi, .int .i32 c.lo, .slice (some ⟨g, 0, none⟩) c.hs.length c.hs.length]) ∧ w.heap.size ≤ g ∧ IRow .i16 29 w' g c.hs ∧ Below w.heap.size w w' := by
  have HS := Lib.hid hs
  obtain ⟨A, k, rfl, -⟩ := hs
  go_enter Try.func23, Try.ntmps23
  have HB := Lib.hid (alloc3 w (.cells #[.int .i16 c.wi, .int .i32 c.lo, .slice A c.hs.length k] 45) (.cells #[.int .i16 0, .int .i32 0, .slice none 0 0] 50) (.cells #[.int .i16 c.wi, .int .i32 c.lo, .slice none 0 0] 50))
  go_wp2_with fail
  refine (toInt16S_any _ _ _ (HS.out.below (by go_grown)) hn).mono ?_
  rintro e w1 ⟨g, rfl, hg, hr, h1⟩
  have G1 := Lib.hid (bnext (show Below w.heap.size w _ by go_grown) h1)
  have b1 := (h1.block (w.heap.size + 1) (by simp)).trans HB.out.1
  have b2 := (h1.block (w.heap.size + 1 + 1) (by simp)).trans HB.out.2
  have HR := Lib.hid hr
  have HG := Lib.hid (show w.heap.size + 1 + 1 + 1 ≤ g by simpa using hg)
  clear hg hr h1
  have o0 := cell_of_row w1 _ 0 _ _ _ b2
  have o1 := cell_of_row w1 _ 1 _ _ _ b2
  have o2 := cell_of_row w1 _ 2 _ _ _ b2
  have r0 := cell_of_row w1 _ 0 _ _ _ b1
  have r1 := cell_of_row w1 _ 1 _ _ _ b1
  have r2 := cell_of_row w1 _ 2 _ _ _ b1
  have f2 := fun j => frozen_of_row w1 _ j _ _ b2
  have f1 := fun j => frozen_of_row w1 _ j _ _ b1
  simp only [List.getElem?_toArray, List.getElem?_cons_zero, List.getElem?_cons_succ] at o0 o1 o2 r0 r1 r2
  clear b1 b2
  go_wp2
  refine bodyPost_ret (v := .agg #[.int .i16 c.wi, .int .i32 c.lo, .slice (some ⟨g, 0, none⟩) c.hs.length c.hs.length]) (by simp [results, Try.results23, go_sem, r0, r1, r2]) rfl ?_
  refine ⟨g, rfl, by have := HG.out; omega, ?_, ?_⟩
  · exact (((HR.out.far (by have := HG.out; simp; omega)).far (by have := HG.out; simp; omega)).far (by have := HG.out; simp; omega)).far (by have := HG.out; simp; omega)
  · exact (((G1.out.setCell (p := ⟨_, _, none⟩) (by simp; omega) _).setCell (p := ⟨_, _, none⟩) (by simp) _).setCell (p := ⟨_, _, none⟩) (by simp) _).setCell (p := ⟨_, _, none⟩) (by simp) _

set_option maxHeartbeats 2000000 in
theorem eqCase_same (c : Cs) (h1 h2 : Value) (w : World) (s1 : IntsOf .i16 w h1 c.hs) (s2 : IntsOf .i16 w h2 c.hs) (hn : c.hs.length ≤ maxLen) :
    Calls Try.prog 26 #[.agg #[.int .i16 c.wi, .int .i32 c.lo, h1], .agg #[.int .i16 c.wi, .int .i32 c.lo, h2]] w fun e w' => e = .returned (.bool true) ∧ Below w.heap.size w w' := by
  have H1 := Lib.hid s1
  have H2 := Lib.hid s2
  obtain ⟨A1, k1, rfl, -⟩ := s1
  obtain ⟨A2, k2, rfl, -⟩ := s2
  go_enter Try.func26, Try.ntmps26
  go_wp2_with fail
  refine (eqInt16S_same' _ _ _ _ (H1.out.below (by go_grown)) (H2.out.below (by go_grown)) hn).mono ?_
  rintro e w1 ⟨rfl, hb⟩
  go_wp2
  go_ret
  exact ⟨rfl, bnext (show Below w.heap.size w _ by go_grown) hb⟩
end Go.Proofs.Ytpamflkefgpdpaa
