/- EmptyDesk, by the model and by the program; the law's marks in what it hands back: contracts. No condition. -/
import Derived.Test.YtmafjncaigllbaaDkW
import Derived.Test.YtmafjncaigllbaaDkM
namespace Go.Proofs.Ytmafjncaigllbaa
set_option linter.unusedSimpArgs false
set_option linter.unusedVariables false
set_option maxRecDepth 100000
open Go.RowKit

/-- Block g is a row of N copies without queues, whose four numbers are told by f. -/
def ERow (w : World) (g N : Nat) (f : Nat → Nat → Value) : Prop :=
  ∃ cs : Array Value, w.heap[g]? = some (.cells cs 65 (0, 0)) ∧ cs.size = N * 5 ∧ ∀ i, i < N → cs[i * 5 + 4]? = some (.slice none 0 0) ∧ ∀ j, j < 4 → cs[i * 5 + j]? = some (f i j)
def ez (_i j : Nat) : Value := if j = 2 then .int .i16 0 else .int .i8 0
def em (i j : Nat) : Value := if j = 2 then .int .i16 (1 + 4 * (i : Int) + 1 + 1) else if j = 0 then .int .i8 (IntKind.i8.wrap (1 + 4 * (i : Int))) else if j = 1 then .int .i8 (IntKind.i8.wrap (1 + 4 * (i : Int) + 1)) else .int .i8 (IntKind.i8.wrap (1 + 4 * (i : Int) + 1 + 1 + 1))
def et (k i j : Nat) : Value := if i < k then em i j else ez i j
theorem ERow.lt {w : World} {g N : Nat} {f : Nat → Nat → Value} (h : ERow w g N f) : g < w.heap.size := by
  obtain ⟨cs, h, _⟩ := h
  exact (Array.getElem?_eq_some_iff.1 h).1
theorem ERow.same {w w' : World} {g N : Nat} {f : Nat → Nat → Value} (h : ERow w g N f) (e : w'.heap[g]? = w.heap[g]?) : ERow w' g N f := by
  obtain ⟨cs, h1, h2⟩ := h
  exact ⟨cs, e.trans h1, h2⟩
theorem ERow.cell {w : World} {g N : Nat} {f : Nat → Nat → Value} (h : ERow w g N f) {i : Nat} (hi : i < N) :
    w.cell? ⟨g, i * 5, none⟩ = some (f i 0) ∧ w.cell? ⟨g, i * 5 + 1, none⟩ = some (f i 1) ∧ w.cell? ⟨g, i * 5 + 2, none⟩ = some (f i 2) ∧ w.cell? ⟨g, i * 5 + 3, none⟩ = some (f i 3) ∧ w.cell? ⟨g, i * 5 + 4, none⟩ = some (.slice none 0 0) := by
  obtain ⟨cs, h1, h2, h3⟩ := h
  obtain ⟨h4, h5⟩ := h3 i hi
  have e : ∀ j, w.cell? ⟨g, i * 5 + j, none⟩ = cs[i * 5 + j]? := fun j => cell_of_row w g _ cs _ _ h1
  exact ⟨(e 0).trans (h5 0 (by omega)), (e 1).trans (h5 1 (by omega)), (e 2).trans (h5 2 (by omega)), (e 3).trans (h5 3 (by omega)), (e 4).trans h4⟩
theorem ERow.frozen {w : World} {g N : Nat} {f : Nat → Nat → Value} (h : ERow w g N f) (o : Nat) : w.frozen? ⟨g, o, none⟩ = false := by
  obtain ⟨cs, h, _⟩ := h
  exact frozen_of_row w g _ cs _ h
theorem ERow.put4 {w : World} {g N k : Nat} (h : ERow w g N (et k)) (hk : k < N) (v0 v1 v2 v3 : Value) (e0 : em k 0 = v0) (e1 : em k 1 = v1) (e2 : em k 2 = v2) (e3 : em k 3 = v3) :
    ERow ((((w.setCell ⟨g, k * 5, none⟩ v0).setCell ⟨g, k * 5 + 1, none⟩ v1).setCell ⟨g, k * 5 + 2, none⟩ v2).setCell ⟨g, k * 5 + 3, none⟩ v3) g N (et (k + 1)) := by
  subst e0 e1 e2 e3
  obtain ⟨cs, h1, h2, h3⟩ := h
  refine ⟨_, heap_setCell_same _ _ _ _ _ _ (heap_setCell_same _ _ _ _ _ _ (heap_setCell_same _ _ _ _ _ _ (heap_setCell_same _ _ _ _ _ _ h1))), by simpa using h2, fun i hi => ?_⟩
  obtain ⟨h4, h5⟩ := h3 i hi
  refine ⟨?_, fun j hj => ?_⟩
  · simp only [Array.getElem?_setIfInBounds]
    iterate 4 (rw [if_neg (by omega)])
    exact h4
  · have hj5 := h5 j hj
    by_cases e : i = k
    · subst e
      have he : et (i + 1) i j = em i j := by unfold et; rw [if_pos (by omega)]
      rw [he]
      have : j = 0 ∨ j = 1 ∨ j = 2 ∨ j = 3 := by omega
      rcases this with rfl | rfl | rfl | rfl
      all_goals
        simp only [Array.getElem?_setIfInBounds, Array.size_setIfInBounds]
        simp
        omega
    · have he : et (k + 1) i j = et k i j := by
        unfold et
        by_cases h6 : i < k
        · rw [if_pos (by omega), if_pos h6]
        · rw [if_neg (by omega), if_neg h6]
      rw [he, ← hj5]
      simp only [Array.getElem?_setIfInBounds]
      iterate 4 (rw [if_neg (by omega)])
theorem ERow.made (w : World) (N : Nat) : ERow (w.alloc (.cells (madeCells (Value.agg #[.int .i8 0, .int .i8 0, .int .i16 0, .int .i8 0, .slice none 0 0]).cells (N * 5)) 65)) w.heap.size N ez := by
  refine ⟨_, heap_alloc_new w _, size_madeCells _ _, fun i hi => ?_⟩
  have e : ∀ j, j < 5 → (madeCells (Value.agg #[.int .i8 0, .int .i8 0, .int .i16 0, .int .i8 0, .slice none 0 0]).cells (N * 5))[i * 5 + j]? = (#[Value.int .i8 0, .int .i8 0, .int .i16 0, .int .i8 0, .slice none 0 0])[j]? := by
    intro j hj
    have hlt : i * 5 + j < (madeCells (Value.agg #[.int .i8 0, .int .i8 0, .int .i16 0, .int .i8 0, .slice none 0 0]).cells (N * 5)).size := by rw [size_madeCells]; omega
    rw [Array.getElem?_eq_getElem hlt]
    have hm : (i * 5 + j) % 5 = j := by omega
    have : j = 0 ∨ j = 1 ∨ j = 2 ∨ j = 3 ∨ j = 4 := by omega
    simp only [madeCells, Value.cells, Array.getElem_map, Array.getElem_range]
    rcases this with rfl | rfl | rfl | rfl | rfl
    all_goals
      simp only [List.size_toArray, List.length_cons, List.length_nil, Nat.reduceAdd, hm]
      rfl
  refine ⟨e 4 (by omega), fun j hj => ?_⟩
  rw [e j (by omega)]
  have : j = 0 ∨ j = 1 ∨ j = 2 ∨ j = 3 := by omega
  rcases this with rfl | rfl | rfl | rfl <;> rfl
theorem ERow.cps {w : World} {g N : Nat} (h : ERow w g N ez) : CpsOf w (.slice (some ⟨g, 0, none⟩) N N) (List.replicate N cp0) := by
  refine ⟨_, N, by rw [List.length_replicate], fun _ => ⟨g, 0, rfl, h.lt, fun i hi => ?_⟩⟩
  have hi' : i < N := by simpa using hi
  obtain ⟨h0, h1, h2, h3, h4⟩ := h.cell hi'
  rw [List.getElem_replicate, Nat.zero_add]
  exact ⟨h0, h1, h2, h3, _, h4, ⟨none, 0, rfl, fun hh => absurd hh (Nat.lt_irrefl _)⟩⟩
def ERes (w : World) (base : Nat) (v : Value) (N : Nat) (f : Nat → Nat → Value) : Prop := (v = .slice none 0 0 ∧ N = 0) ∨ ∃ g, v = .slice (some ⟨g, 0, none⟩) N N ∧ base ≤ g ∧ ERow w g N f
theorem ERes.form {w : World} {base : Nat} {v : Value} {N : Nat} {f : Nat → Nat → Value} (h : ERes w base v N f) : ∃ A c, v = .slice A N c := by
  rcases h with ⟨rfl, rfl⟩ | ⟨g, rfl, _⟩ <;> exact ⟨_, _, rfl⟩
theorem ERes.below {w w' : World} {base : Nat} {v : Value} {N : Nat} {f : Nat → Nat → Value} (h : ERes w base v N f) (hb : Below w.heap.size w w') : ERes w' base v N f := by
  rcases h with h | ⟨g, e, h1, h2⟩
  · exact .inl h
  · exact .inr ⟨g, e, h1, h2.same (hb.block g h2.lt)⟩
theorem ERes.other {w w' : World} {base : Nat} {v : Value} {N : Nat} {f : Nat → Nat → Value} {row : Option Nat} (h : ERes w base v N f) (hg : w.grownBy w' row) (hne : ∀ k, v.ownBlock = some k → some k ≠ row) : ERes w' base v N f := by
  rcases h with h | ⟨g, rfl, h1, h2⟩
  · exact .inl h
  · exact .inr ⟨g, rfl, h1, h2.same (hg.block g h2.lt (hne g rfl))⟩
theorem ERes.lt {w : World} {base : Nat} {v : Value} {N : Nat} {f : Nat → Nat → Value} (h : ERes w base v N f) : ∀ k, v.ownBlock = some k → base ≤ k ∧ k < w.heap.size := by
  intro k hk
  rcases h with ⟨rfl, _⟩ | ⟨g, rfl, h1, h2⟩
  · cases hk
  · have : g = k := by injection hk
    subst this
    exact ⟨h1, h2.lt⟩
theorem ERes.cps {w : World} {base : Nat} {v : Value} {N : Nat} (h : ERes w base v N ez) : CpsOf w v (List.replicate N cp0) := by
  rcases h with ⟨rfl, rfl⟩ | ⟨g, rfl, _, h2⟩
  · exact ⟨none, 0, rfl, fun hh => absurd hh (Nat.lt_irrefl _)⟩
  · exact h2.cps

def edN (a : Int) : Nat := if inB a 0 60 then a.toNat else 0
def edC (a : Int) : Int := if inB a 0 60 then 0 else 2
theorem ed_cases (a : Int) : (inB a 0 60 = false ∧ edN a = 0 ∧ edC a = 2) ∨ (inB a 0 60 = true ∧ edC a = 0 ∧ ∃ N : Nat, N ≤ 60 ∧ a = (N : Int) ∧ edN a = N) := by
  unfold edN edC
  cases h : inB a 0 60
  · exact .inl ⟨rfl, rfl, rfl⟩
  · unfold inB at h
    have := of_decide_eq_true h
    exact .inr ⟨rfl, rfl, a.toNat, by omega, by omega, rfl⟩

set_option maxHeartbeats 4000000 in
theorem specEmptyDesk_any (a : Int) (w : World) :
    Calls Try.prog 22 #[.int .i64 a] w fun e w' => ∃ v, e = .returned (.tuple #[.agg #[.int .i16 0, v], .int .i64 (edC a)]) ∧ ERes w' w.heap.size v (edN a) ez ∧ Below w.heap.size w w' := by
  have X0 := Lib.hid (heap_alloc_new w (.cells #[.int .i16 0, .slice none 0 0] 30))
  have G0 := Lib.hid (show Below w.heap.size w (w.alloc (.cells #[.int .i16 0, .slice none 0 0] 30)) from (Below.refl _ _).alloc (Nat.le_refl _) _)
  have Z0 := Lib.hid (show (w.alloc (.cells #[.int .i16 0, .slice none 0 0] 30)).heap.size = w.heap.size + 1 by simp)
  rcases ed_cases a with ⟨h1, h2, h3⟩ | ⟨h1, h3, N, hN, rfl, h2⟩
  · rw [h2, h3]
    clear h2 h3
    go_enter Try.func22, Try.ntmps22
    go_wp2_with fail
    generalize World.alloc w _ = W at X0 G0 Z0 ⊢
    refine (l00In_any _ _ _ _).mono ?_
    rintro e w' ⟨rfl, rfl⟩
    rw [h1]
    have r0 : W.cell? ⟨w.heap.size, 0, none⟩ = some (.int .i16 0) := cell_of_row _ _ 0 _ _ _ X0.out
    have r1 : W.cell? ⟨w.heap.size, 1, none⟩ = some (.slice none 0 0) := cell_of_row _ _ 1 _ _ _ X0.out
    have fr := fun j => frozen_of_row W w.heap.size j _ _ X0.out
    go_wp2
    refine bodyPost_ret (v := .tuple #[.agg #[.int .i16 0, .slice none 0 0], .int .i64 2]) (by simp [results, Try.results22, go_sem, r0, r1]) rfl ?_
    refine ⟨_, rfl, .inl ⟨rfl, rfl⟩, ?_⟩
    repeat (refine Below.setCell ?_ (by first | (simp; done) | (simp; omega) | omega) _)
    exact G0.out
  · rw [h2, h3]
    clear h2 h3
    obtain ⟨i0, hi, hz0, hz1, hz2⟩ := info_parts infoCopy
    have hmk := fun W => run_make_rowN (P := Try.prog) 28 65 i0 _ Try.underlying28 hi hz0 .i64 .i64 N N (Nat.le_refl _) (by rw [hz2]; omega) (by omega) W
    rw [hz1] at hmk
    clear hi hz0 hz1 hz2
    go_enter Try.func22, Try.ntmps22
    go_wp2_with fail
    generalize World.alloc w _ = W at X0 G0 Z0 ⊢
    refine (l00In_any _ _ _ _).mono ?_
    rintro e w' ⟨rfl, rfl⟩
    rw [h1]
    obtain ⟨W', hW'⟩ : ∃ W', W' = W.alloc (.cells (madeCells (Value.agg #[.int .i8 0, .int .i8 0, .int .i16 0, .int .i8 0, .slice none 0 0]).cells (N * 5)) 65) := ⟨_, rfl⟩
    have hm1 := hmk W
    rw [← hW'] at hm1
    have EM := Lib.hid (show ERow W' W.heap.size N ez by rw [hW']; exact ERow.made W N)
    have A1 := Lib.hid (show Below W.heap.size W W' by rw [hW']; exact (Below.refl _ _).alloc (Nat.le_refl _) _)
    clear hmk hW'
    have X1 := Lib.hid ((A1.out.block w.heap.size (by have := Z0.out; omega)).trans X0.out)
    have r0 := cell_of_row _ w.heap.size 0 _ _ _ X1.out
    have r1 := cell_of_row _ w.heap.size 1 _ _ _ X1.out
    have fr := fun j => frozen_of_row _ w.heap.size j _ _ X1.out
    have zz := Z0.out
    simp only [List.getElem?_toArray, List.getElem?_cons_zero, List.getElem?_cons_succ] at r0 r1
    go_wp2
    refine bodyPost_ret (v := .tuple #[.agg #[.int .i16 0, .slice (some ⟨W.heap.size, 0, none⟩) N N], .int .i64 0]) (by simp [results, Try.results22, go_sem, r0, r1]) rfl ?_
    refine ⟨_, rfl, .inr ⟨W.heap.size, rfl, by omega, ?_⟩, ?_⟩
    · repeat (refine ERow.same ?_ (Below.heap_setCell _ _ _ _ (by simp; omega)))
      exact EM.out
    · repeat (refine Below.setCell ?_ (by first | (simp; done) | (simp; omega) | omega) _)
      exact bnext G0.out A1.out

set_option maxHeartbeats 4000000 in
theorem implEmptyDesk_any (a : Int) (w : World) :
    Calls Try.prog 23 #[.int .i64 a] w fun e w' => ∃ v, e = .returned (.tuple #[.agg #[.int .i16 0, v], .int .i64 (edC a)]) ∧ ERes w' w.heap.size v (edN a) ez ∧ Below w.heap.size w w' := by
  have X0 := Lib.hid (heap_alloc_new w (.cells #[.int .i16 0, .slice none 0 0] 30))
  have G0 := Lib.hid (show Below w.heap.size w (w.alloc (.cells #[.int .i16 0, .slice none 0 0] 30)) from (Below.refl _ _).alloc (Nat.le_refl _) _)
  have Z0 := Lib.hid (show (w.alloc (.cells #[.int .i16 0, .slice none 0 0] 30)).heap.size = w.heap.size + 1 by simp)
  rcases ed_cases a with ⟨h1, h2, h3⟩ | ⟨h1, h3, N, hN, rfl, h2⟩
  · rw [h2, h3]
    clear h2 h3
    go_enter Try.func23, Try.ntmps23
    go_wp2_with fail
    generalize World.alloc w _ = W at X0 G0 Z0 ⊢
    refine (w64_any _ _ _ _).mono ?_
    rintro e w' ⟨rfl, rfl⟩
    rw [h1]
    have r0 : W.cell? ⟨w.heap.size, 0, none⟩ = some (.int .i16 0) := cell_of_row _ _ 0 _ _ _ X0.out
    have r1 : W.cell? ⟨w.heap.size, 1, none⟩ = some (.slice none 0 0) := cell_of_row _ _ 1 _ _ _ X0.out
    have fr := fun j => frozen_of_row W w.heap.size j _ _ X0.out
    go_wp2
    refine bodyPost_ret (v := .tuple #[.agg #[.int .i16 0, .slice none 0 0], .int .i64 2]) (by simp [results, Try.results23, go_sem, r0, r1]) rfl ?_
    refine ⟨_, rfl, .inl ⟨rfl, rfl⟩, ?_⟩
    repeat (refine Below.setCell ?_ (by first | (simp; done) | (simp; omega) | omega) _)
    exact G0.out
  · rw [h2, h3]
    clear h2 h3
    obtain ⟨i0, hi, hz0, hz1, hz2⟩ := info_parts infoCopy
    have hmk := fun W => run_make_rowN (P := Try.prog) 28 65 i0 _ Try.underlying28 hi hz0 .i64 .i64 N N (Nat.le_refl _) (by rw [hz2]; omega) (by omega) W
    rw [hz1] at hmk
    clear hi hz0 hz1 hz2
    go_enter Try.func23, Try.ntmps23
    go_wp2_with fail
    generalize World.alloc w _ = W at X0 G0 Z0 ⊢
    refine (w64_any _ _ _ _).mono ?_
    rintro e w' ⟨rfl, rfl⟩
    rw [h1]
    obtain ⟨W', hW'⟩ : ∃ W', W' = W.alloc (.cells (madeCells (Value.agg #[.int .i8 0, .int .i8 0, .int .i16 0, .int .i8 0, .slice none 0 0]).cells (N * 5)) 65) := ⟨_, rfl⟩
    have hm1 := hmk W
    rw [← hW'] at hm1
    have EM := Lib.hid (show ERow W' W.heap.size N ez by rw [hW']; exact ERow.made W N)
    have A1 := Lib.hid (show Below W.heap.size W W' by rw [hW']; exact (Below.refl _ _).alloc (Nat.le_refl _) _)
    clear hmk hW'
    have X1 := Lib.hid ((A1.out.block w.heap.size (by have := Z0.out; omega)).trans X0.out)
    have r0 := cell_of_row _ w.heap.size 0 _ _ _ X1.out
    have r1 := cell_of_row _ w.heap.size 1 _ _ _ X1.out
    have fr := fun j => frozen_of_row _ w.heap.size j _ _ X1.out
    have zz := Z0.out
    simp only [List.getElem?_toArray, List.getElem?_cons_zero, List.getElem?_cons_succ] at r0 r1
    go_wp2
    refine bodyPost_ret (v := .tuple #[.agg #[.int .i16 0, .slice (some ⟨W.heap.size, 0, none⟩) N N], .int .i64 0]) (by simp [results, Try.results23, go_sem, r0, r1]) rfl ?_
    refine ⟨_, rfl, .inr ⟨W.heap.size, rfl, by omega, ?_⟩, ?_⟩
    · repeat (refine ERow.same ?_ (Below.heap_setCell _ _ _ _ (by simp; omega)))
      exact EM.out
    · repeat (refine Below.setCell ?_ (by first | (simp; done) | (simp; omega) | omega) _)
      exact bnext G0.out A1.out

/-! ### the law's marks -/
set_option maxHeartbeats 1000000 in
theorem markI8_nil (k : Int) (w : World) : Calls Try.prog 93 #[.slice none 0 0, .int .i64 k] w fun e w' => e = .returned (.int .i64 k) ∧ w = w' := by
  go_enter Try.func93, Try.ntmps93
  go_wp2
  refine wp_loop_rounds 1 ?_
  rw [rounds_succ]; go_wp2
  go_ret
  exact ⟨rfl, rfl⟩
set_option maxHeartbeats 1000000 in
theorem heldI8_nil (k : Int) (w : World) : Calls Try.prog 94 #[.slice none 0 0, .int .i64 k] w fun e w' => e = .returned (.int .i64 k) ∧ w = w' := by
  go_enter Try.func94, Try.ntmps94
  go_wp2
  refine wp_loop_rounds 1 ?_
  rw [rounds_succ]; go_wp2
  go_ret
  exact ⟨rfl, rfl⟩
theorem et_zero : et 0 = ez := by funext i j; unfold et; rw [if_neg (by omega)]
theorem ERow.mono {w : World} {g N : Nat} {f h : Nat → Nat → Value} (a : ERow w g N f) (e : ∀ i, i < N → ∀ j, f i j = h i j) : ERow w g N h := by
  obtain ⟨cs, h1, h2, h3⟩ := a
  refine ⟨cs, h1, h2, fun i hi => ⟨(h3 i hi).1, fun j hj => ?_⟩⟩
  rw [← e i hi j]
  exact (h3 i hi).2 j hj
set_option maxHeartbeats 8000000 in
theorem markCopyS_e (g N : Nat) (w : World) (h : ERow w g N ez) (hn : N ≤ 60) :
    Calls Try.prog 59 #[.slice (some ⟨g, 0, none⟩) N N, .int .i64 1] w fun e w' => e = .returned (.int .i64 (1 + 4 * (N : Int))) ∧ ERow w' g N em ∧ w.grownBy w' (some g) := by
  have HR := Lib.hid h
  clear h
  go_enter Try.func59, Try.ntmps59
  go_wp2
  go_loopw [1, 5] (fun x i wr => ∃ (j : Nat) (y : Int), y = 1 + 4 * (j : Int) ∧ j ≤ N ∧ i = .int .i64 j ∧ x = .int .i64 y ∧ ERow wr g N (et j) ∧ w.grownBy wr (some g)) (fun _ i _ => N - (intOf i).toNat)
  case atStart => exact ⟨0, 1, rfl, Nat.zero_le _, rfl, rfl, by rw [et_zero]; exact HR.out, World.grownBy.refl w _⟩
  case round =>
    obtain ⟨j, y, hy, hj, rfl, rfl, hm, hgr⟩ := hrel
    have HG := Lib.hid hgr
    have HW := Lib.hid hm
    have hy0 : 1 ≤ y := by omega
    have hy1 : y ≤ 300 := by omega
    have HY := Lib.hid hy
    clear hgr hm hy
    by_cases hlt : j < N
    · obtain ⟨c0, c1, c2, c3, c4⟩ := HW.out.cell hlt
      have fz := HW.out.frozen
      have E0 := Lib.hid (show em j 0 = .int .i8 (IntKind.i8.wrap y) by rw [HY.out]; rfl)
      have E1 := Lib.hid (show em j 1 = .int .i8 (IntKind.i8.wrap (y + 1)) by rw [HY.out]; rfl)
      have E2 := Lib.hid (show em j 2 = .int .i16 (y + 1 + 1) by rw [HY.out]; rfl)
      have E3 := Lib.hid (show em j 3 = .int .i8 (IntKind.i8.wrap (y + 1 + 1 + 1)) by rw [HY.out]; rfl)
      go_wp2_with fail
      refine (markI8_nil _ _).mono ?_
      rintro e w' ⟨rfl, rfl⟩
      go_wp2
      go_roundw
      case rel => exact ⟨j + 1, y + 1 + 1 + 1 + 1, by have := HY.out; omega, by omega, by go_num, rfl, HW.out.put4 hlt _ _ _ _ E0.out E1.out E2.out E3.out, only_set2 (only_set2 (only_set2 (only_set2 HG.out _ _) _ _) _ _) _ _⟩
      case measure => simp [intOf]; omega
    · obtain rfl : j = N := by omega
      go_wp2
      go_ret
      exact ⟨by rw [← HY.out]; rfl, HW.out.mono (fun i hi k => by unfold et; rw [if_pos hi]), HG.out⟩
set_option maxHeartbeats 8000000 in
theorem heldCopyS_e (g N : Nat) (w : World) (h : ERow w g N em) (hn : N ≤ 60) :
    Calls Try.prog 60 #[.slice (some ⟨g, 0, none⟩) N N, .int .i64 1] w fun e w' => e = .returned (.int .i64 (1 + 4 * (N : Int))) ∧ w = w' := by
  have HR := Lib.hid h
  clear h
  go_enter Try.func60, Try.ntmps60
  go_wp2
  go_loopw [1, 5] (fun x i wr => ∃ (j : Nat) (y : Int), y = 1 + 4 * (j : Int) ∧ j ≤ N ∧ i = .int .i64 j ∧ x = .int .i64 y ∧ wr = w) (fun _ i _ => N - (intOf i).toNat)
  case atStart => exact ⟨0, 1, rfl, Nat.zero_le _, rfl, rfl, rfl⟩
  case round =>
    obtain ⟨j, y, hy, hj, rfl, rfl, rfl⟩ := hrel
    have hy0 : 1 ≤ y := by omega
    have hy1 : y ≤ 300 := by omega
    have HY := Lib.hid hy
    clear hy
    by_cases hlt : j < N
    · obtain ⟨c0, c1, c2, c3, c4⟩ := HR.out.cell hlt
      rw [show em j 0 = .int .i8 (IntKind.i8.wrap y) by rw [HY.out]; rfl] at c0
      rw [show em j 1 = .int .i8 (IntKind.i8.wrap (y + 1)) by rw [HY.out]; rfl] at c1
      rw [show em j 2 = .int .i16 (y + 1 + 1) by rw [HY.out]; rfl] at c2
      rw [show em j 3 = .int .i8 (IntKind.i8.wrap (y + 1 + 1 + 1)) by rw [HY.out]; rfl] at c3
      go_wp2_with fail
      refine (heldI8_nil _ _).mono ?_
      rintro e w' ⟨rfl, rfl⟩
      go_wp2
      go_roundw
      case rel => exact ⟨j + 1, y + 1 + 1 + 1 + 1, by have := HY.out; omega, by omega, by go_num, rfl, by first | rfl | trivial⟩
      case measure => simp [intOf]; omega
    · obtain rfl : j = N := by omega
      go_wp2
      go_ret
      exact ⟨by rw [← HY.out]; rfl, rfl⟩
set_option maxHeartbeats 2000000 in
theorem markDesk_e (v : Value) (N base : Nat) (w : World) (h : ERes w base v N ez) (hn : N ≤ 60) :
    Calls Try.prog 24 #[.agg #[.int .i16 0, v], .int .i64 1] w fun e w' => e = .returned (.int .i64 (1 + 4 * (N : Int))) ∧ ERes w' base v N em ∧ w.grownBy w' v.ownBlock := by
  rcases h with ⟨rfl, rfl⟩ | ⟨g, rfl, hb, hr⟩
  · go_enter Try.func24, Try.ntmps24
    go_wp2_with fail
    have C : ∀ W, Calls Try.prog 59 #[.slice none 0 0, .int .i64 1] W fun e w' => e = .returned (.int .i64 1) ∧ W = w' := by
      intro W
      go_enter Try.func59, Try.ntmps59
      go_wp2
      refine wp_loop_rounds 1 ?_
      rw [rounds_succ]; go_wp2
      go_ret
      exact ⟨rfl, rfl⟩
    refine (C _).mono ?_
    rintro e w' ⟨rfl, rfl⟩
    go_wp2
    go_ret
    exact ⟨by simp, .inl ⟨rfl, rfl⟩, World.grownBy_alloc w _ none⟩
  · have HA := Lib.hid (hr.same (Below.heap_alloc w (.cells #[.int .i16 0, .slice (some ⟨g, 0, none⟩) N N] 30) g hr.lt))
    clear hr
    go_enter Try.func24, Try.ntmps24
    go_wp2_with fail
    refine (markCopyS_e g N _ HA.out hn).mono ?_
    rintro e w1 ⟨rfl, hm, k1⟩
    have HM := Lib.hid hm
    clear hm
    go_wp2
    go_ret
    exact ⟨rfl, .inr ⟨g, rfl, hb, HM.out⟩, ⟨k1.os, k1.tape, k1.output, Nat.le_trans (by simp) k1.size, fun k hk hne => (k1.block k (by simp; omega) hne).trans (Below.heap_alloc w _ k hk)⟩⟩
set_option maxHeartbeats 2000000 in
theorem heldDesk_e (v : Value) (N base : Nat) (w : World) (h : ERes w base v N em) (hn : N ≤ 60) :
    Calls Try.prog 25 #[.agg #[.int .i16 0, v], .int .i64 1] w fun e w' => e = .returned (.int .i64 (1 + 4 * (N : Int))) ∧ Below w.heap.size w w' := by
  rcases h with ⟨rfl, rfl⟩ | ⟨g, rfl, hb, hr⟩
  · go_enter Try.func25, Try.ntmps25
    go_wp2_with fail
    have C : ∀ W, Calls Try.prog 60 #[.slice none 0 0, .int .i64 1] W fun e w' => e = .returned (.int .i64 1) ∧ W = w' := by
      intro W
      go_enter Try.func60, Try.ntmps60
      go_wp2
      refine wp_loop_rounds 1 ?_
      rw [rounds_succ]; go_wp2
      go_ret
      exact ⟨rfl, rfl⟩
    refine (C _).mono ?_
    rintro e w' ⟨rfl, rfl⟩
    go_wp2
    go_ret
    exact ⟨by simp, by go_grown⟩
  · have HA := Lib.hid (hr.same (Below.heap_alloc w (.cells #[.int .i16 0, .slice (some ⟨g, 0, none⟩) N N] 30) g hr.lt))
    have hpos : ¬ (1 + 4 * (N : Int) < 0) := by omega
    clear hr
    go_enter Try.func25, Try.ntmps25
    go_wp2_with fail
    refine (heldCopyS_e g N _ HA.out hn).mono ?_
    rintro e w1 ⟨rfl, rfl⟩
    go_wp2
    go_ret
    exact ⟨rfl, by go_grown⟩
end Go.Proofs.Ytmafjncaigllbaa
