/- The label of a book, by the program: contracts. Condition: its numbers lie within their kinds. -/
import Derived.Test.YtimojjkblofhnaaLabI
import Derived.Deep.RegionLaw
import Derived.Deep.AppendLies
namespace Go.Proofs.Ytimojjkblofhnaa
set_option linter.unusedSimpArgs false
set_option linter.unusedVariables false
set_option maxRecDepth 100000
open Go.RowKit

/-- A label's bytes. -/
def labL (b : Bk) : List Int := lab8 b ++ [chk (lab8 b)]
def bytesOf (l : List Int) : List UInt8 := l.map fun z => UInt8.ofNat z.toNat
def labS (b : Bk) : ByteArray := ⟨(bytesOf (labL b)).toArray⟩
def labR (b : Bk) : ByteArray := if bookB b then labS b else ⟨#[]⟩
theorem bytesOf_len (l : List Int) : (bytesOf l).length = l.length := by simp [bytesOf]
theorem bytesOf_at {l : List Int} (hl : ∀ z ∈ l, 0 ≤ z ∧ z ≤ 255) (j : Nat) (hj : j < l.length) : (((bytesOf l)[j]'(by rw [bytesOf_len]; exact hj)).toNat : Int) = l[j] := by
  have hz := hl _ (List.getElem_mem hj)
  simp only [bytesOf, List.getElem_map, UInt8.toNat_ofNat']
  omega
theorem lab8_bd {b : Bk} (wb : b.Wf) : ∀ z ∈ lab8 b, 0 ≤ z ∧ z ≤ 255 := by
  intro z hz
  have d := fun n => dgI_bd n
  obtain ⟨_, m0, m1, m2, _, _, _, _⟩ := wb
  unfold lab8 at hz
  simp only [List.mem_cons, List.not_mem_nil, or_false] at hz
  rcases hz with rfl | rfl | rfl | rfl | rfl | rfl | rfl | rfl
  all_goals first | (have := dgI_bd (b.c / 100); omega) | (have := dgI_bd (b.c / 10); omega) | (have := dgI_bd b.c; omega) | (have := dgI_bd (b.v / 10); omega) | (have := dgI_bd b.v; omega) | omega
theorem labL_bd {b : Bk} (wb : b.Wf) : ∀ z ∈ labL b, 0 ≤ z ∧ z ≤ 255 := by
  intro z hz
  unfold labL at hz
  rcases List.mem_append.1 hz with h | h
  · exact lab8_bd wb z h
  · have := chk_bd (lab8 b)
    rw [List.mem_singleton] at h
    omega
theorem run_string {w : World} {base g cap : Nat} {l : List Int} {t : TypeId} (h : w.ownsRow base t 1 (.slice (some ⟨g, 0, none⟩) l.length cap) l.length (l.map (Value.int .u8))) (hl : ∀ z ∈ l, 0 ≤ z ∧ z ≤ 255) :
    (convert 22 9 (.slice (some ⟨g, 0, none⟩) l.length cap)).run Try.prog w = .ok (.string ⟨(bytesOf l).toArray⟩) w := by
  have := run_convert_bytes_back (P := Try.prog) w 22 9 5 ⟨g, 0, none⟩ cap (bytesOf l) Try.underlying22 Try.underlying5 Try.underlying9 (fun j hj => by
    have hj' : j < l.length := by rw [bytesOf_len] at hj; exact hj
    rw [Addr.add_lit, Nat.zero_add, h.cellAt j (by omega), bytesOf_at hl j hj']
    simp [List.getElem?_eq_getElem hj'])
  rwa [bytesOf_len] at this
theorem infoU8 : (Try.prog.info? 5).map (fun i => (i.zero, i.size, i.bytes)) = some (some (.int .u8 0), 1, 1) := by kernel_rfl

theorem tdiv16 (a c : Int) (ha : 0 ≤ a ∧ a ≤ 32767) (hc : c = 100 ∨ c = 10) : IntKind.i16.wrap (a.tdiv c) = a / c := by
  rw [Int.tdiv_eq_ediv_of_nonneg ha.1]
  rcases hc with rfl | rfl
  all_goals exact IntWalk.i16_in _ (by omega)
theorem cellL_new (w : World) (cs : Array Value) (t : TypeId) : ∀ (j : Nat) (u : Value), cs.toList[j]? = some u → (w.alloc (.cells cs t)).cell? (Addr.add ⟨w.heap.size, 0, none⟩ j) = some u := by
  intro j u hu
  rw [Addr.add_lit, Nat.zero_add, cell_of_row _ _ j _ _ _ (heap_alloc_new w _)]
  simpa using hu
theorem own_form {w : World} {base n : Nat} {t : TypeId} {v : Value} {l : List Value} (h : w.ownsRow base t 1 v n l) (hn : 0 < n) : ∃ g cap, v = .slice (some ⟨g, 0, none⟩) n cap := by
  rcases h.2 with ⟨_, h0⟩ | ⟨g, cap, cur, rfl, _⟩
  · omega
  · exact ⟨g, cap, rfl⟩
theorem bookBox {w w' : World} {g : Nat} {cs : Array Value} {t : TypeId} {row : Option Nat} (h : w.heap[g]? = some (.cells cs t (0, 0))) (hg : w.grownBy w' row) (hne : some g ≠ row) : w'.heap[g]? = some (.cells cs t (0, 0)) :=
  (hg.block g (Array.getElem?_eq_some_iff.1 h).1 hne).trans h
set_option maxHeartbeats 8000000 in
theorem labelText_any (b : Bk) (wb : b.Wf) (hc : 0 ≤ b.c ∧ b.c ≤ 999) (hv : 0 ≤ b.v ∧ b.v ≤ 99) (w : World) :
    Calls Try.prog 19 #[.agg #[.int .i16 b.c, .int .u8 b.m0, .int .u8 b.m1, .int .u8 b.m2, .int .i16 b.v, .int .i16 b.wi, .int .i16 b.hi, .int .i16 b.we], .func (.func 20) #[.agg #[.int .i64 1, .int .i64 3, .int .i64 7, .int .i64 9, .int .i64 1, .int .i64 3, .int .i64 7, .int .i64 9]] #[]] w fun e w' => e = .returned (.string (labS b)) ∧ Below w.heap.size w w' := by
  obtain ⟨i0, hi0, hz0, hz1, hz2⟩ := info_parts infoU8
  have GX := Lib.hid (show Below w.heap.size w (w.alloc (.cells #[.int .i16 b.c, .int .u8 b.m0, .int .u8 b.m1, .int .u8 b.m2, .int .i16 b.v, .int .i16 b.wi, .int .i16 b.hi, .int .i16 b.we] 27)) from (Below.refl _ _).alloc (Nat.le_refl _) _)
  have BX := Lib.hid (heap_alloc_new w (.cells #[.int .i16 b.c, .int .u8 b.m0, .int .u8 b.m1, .int .u8 b.m2, .int .i16 b.v, .int .i16 b.wi, .int .i16 b.hi, .int .i16 b.we] 27))
  have YX := Lib.hid (show w.heap.size < (w.alloc (.cells #[.int .i16 b.c, .int .u8 b.m0, .int .u8 b.m1, .int .u8 b.m2, .int .i16 b.v, .int .i16 b.wi, .int .i16 b.hi, .int .i16 b.we] 27)).heap.size by simp)
  have L8 := Lib.hid (lab8_bd wb)
  have L9 := Lib.hid (labL_bd wb)
  have d0 := dgI_bd (b.c / 100)
  have d1 := dgI_bd (b.c / 10)
  have d2 := dgI_bd b.c
  have K0 := Lib.hid (fun W => lastDigit16_any (b.c / 100) (by omega) W)
  have K1 := Lib.hid (fun W => lastDigit16_any (b.c / 10) (by omega) W)
  have K2 := Lib.hid (fun W => lastDigit16_any b.c (by omega) W)
  have K3 := Lib.hid (fun W => lastDigit16_any (b.v / 10) (by omega) W)
  have K4 := Lib.hid (fun W => lastDigit16_any b.v (by omega) W)
  have Q0 : IntKind.i16.wrap (b.c.tdiv 100) = b.c / 100 := tdiv16 b.c 100 (by omega) (.inl rfl)
  have Q1 : IntKind.i16.wrap (b.c.tdiv 10) = b.c / 10 := tdiv16 b.c 10 (by omega) (.inr rfl)
  have Q2 : IntKind.i16.wrap (b.v.tdiv 10) = b.v / 10 := tdiv16 b.v 10 (by omega) (.inr rfl)
  go_enter Try.func19, Try.ntmps19
  go_upto_region 1 with (fail)
  generalize World.alloc w _ = W1 at GX BX YX ⊢
  have q0 : W1.cell? ⟨w.heap.size, 0, none⟩ = some (.int .i16 b.c) := cell_of_row W1 _ 0 _ _ _ BX.out
  have q1 : W1.cell? ⟨w.heap.size, 1, none⟩ = some (.int .u8 b.m0) := cell_of_row W1 _ 1 _ _ _ BX.out
  have q2 : W1.cell? ⟨w.heap.size, 2, none⟩ = some (.int .u8 b.m1) := cell_of_row W1 _ 2 _ _ _ BX.out
  have q3 : W1.cell? ⟨w.heap.size, 3, none⟩ = some (.int .u8 b.m2) := cell_of_row W1 _ 3 _ _ _ BX.out
  have q4 : W1.cell? ⟨w.heap.size, 4, none⟩ = some (.int .i16 b.v) := cell_of_row W1 _ 4 _ _ _ BX.out
  have q5 : W1.cell? ⟨w.heap.size, 5, none⟩ = some (.int .i16 b.wi) := cell_of_row W1 _ 5 _ _ _ BX.out
  have q6 : W1.cell? ⟨w.heap.size, 6, none⟩ = some (.int .i16 b.hi) := cell_of_row W1 _ 6 _ _ _ BX.out
  have q7 : W1.cell? ⟨w.heap.size, 7, none⟩ = some (.int .i16 b.we) := cell_of_row W1 _ 7 _ _ _ BX.out
  refine wp_region_still_tail 11 (by kernel_rfl) (by kernel_rfl) ?_
  simp only [List.take_succ_cons, List.take_zero, List.drop_succ_cons, List.drop_zero]
  iterate 3 still_step
  still_call (K0.out _)
  iterate 3 still_step
  still_call (K1.out _)
  iterate 2 still_step
  still_call (K2.out _)
  refine wpStill_nil ?_
  change wpList _ _ _ _ _ W1.drew
  go_upto_region 2 with (fail)
  have yx := YX.out
  have z1 := GX.out.size
  have G2 := Lib.hid (show Below w.heap.size w (W1.alloc (.cells #[.int .u8 (dgI (b.c / 100)), .int .u8 (dgI (b.c / 10)), .int .u8 (dgI b.c)] 5)).drew from (GX.out.alloc z1 _).drew)
  have B2 := Lib.hid (show (W1.alloc (.cells #[.int .u8 (dgI (b.c / 100)), .int .u8 (dgI (b.c / 10)), .int .u8 (dgI b.c)] 5)).drew.heap[w.heap.size]? = some (.cells #[.int .i16 b.c, .int .u8 b.m0, .int .u8 b.m1, .int .u8 b.m2, .int .i16 b.v, .int .i16 b.wi, .int .i16 b.hi, .int .i16 b.we] 27 (0, 0)) from (Below.heap_alloc W1 _ _ yx).trans BX.out)
  have O2 := Lib.hid (show (W1.alloc (.cells #[.int .u8 (dgI (b.c / 100)), .int .u8 (dgI (b.c / 10)), .int .u8 (dgI b.c)] 5)).drew.ownsRow w.heap.size 5 1 (.slice (some ⟨W1.heap.size, 0, none⟩) 3 3) 3 (([dgI (b.c / 100), dgI (b.c / 10), dgI b.c]).map (Value.int .u8)) from ⟨rfl, .inr ⟨W1.heap.size, 3, _, rfl, z1, heap_alloc_new W1 _, Nat.le_refl _, by decide, rfl, rfl⟩⟩)
  have Z2 := Lib.hid (show (W1.alloc (.cells #[.int .u8 (dgI (b.c / 100)), .int .u8 (dgI (b.c / 10)), .int .u8 (dgI b.c)] 5)).drew.heap.size = W1.heap.size + 1 by simp)
  clear q0 q1 q2 q3 q4 q5 q6 q7 Q0 Q1
  generalize World.drew _ = W2 at G2 B2 O2 Z2 ⊢
  have q1 : W2.cell? ⟨w.heap.size, 1, none⟩ = some (.int .u8 b.m0) := cell_of_row W2 _ 1 _ _ _ B2.out
  have q2 : W2.cell? ⟨w.heap.size, 2, none⟩ = some (.int .u8 b.m1) := cell_of_row W2 _ 2 _ _ _ B2.out
  have q3 : W2.cell? ⟨w.heap.size, 3, none⟩ = some (.int .u8 b.m2) := cell_of_row W2 _ 3 _ _ _ B2.out
  have CM := Lib.hid (show ∀ (j : Nat) (u : Value), [Value.int .u8 b.m0, .int .u8 b.m1, .int .u8 b.m2][j]? = some u → W2.cell? (Addr.add ⟨w.heap.size, 1, none⟩ j) = some u by
    intro j u hu
    rw [Addr.add_lit]
    match j, hu with
    | 0, hu => simp at hu; subst hu; exact q1
    | 1, hu => simp at hu; subst hu; exact q2
    | 2, hu => simp at hu; subst hu; exact q3)
  go_wp2_with (at_builtin; refine wpList_append_own _ rfl (.tmp 18) (.tmp 20) _ rfl w.heap.size 5 i0 (.int .u8 0) 1 1 Try.underlying22 hi0 hz0 hz1 hz2 rfl (by decide) _ _ _ rfl O2.out ⟨w.heap.size, 1, none⟩ 3 3 [.int .u8 b.m0, .int .u8 b.m1, .int .u8 b.m2] rfl rfl CM.out ?c2a ?c3a ?c4a ?c5a ?_)
  case c2a => (intro u hu; simp at hu; rcases hu with rfl | rfl | rfl <;> rfl)
  case c3a => (unfold maxLen; omega)
  case c4a => omega
  case c5a => (have := G2.out.size; omega)
  intro v3 w3 hown3 hgrow3 _
  have O3 := Lib.hid (show w3.ownsRow w.heap.size 5 1 v3 6 (([dgI (b.c / 100), dgI (b.c / 10), dgI b.c, b.m0, b.m1, b.m2]).map (Value.int .u8)) from hown3)
  have B3 := Lib.hid (bookBox B2.out hgrow3 (fun e => by have e2 : some w.heap.size = some W1.heap.size := e; injection e2 with e2; omega))
  have G3 := Lib.hid (G2.out.grown hgrow3 G2.out.size (fun k hk => (O2.out.lt k hk).1))
  have z3 := G3.out.size
  clear hown3 hgrow3 q1 q2 q3 CM
  have q4 : w3.cell? ⟨w.heap.size, 4, none⟩ = some (.int .i16 b.v) := cell_of_row w3 _ 4 _ _ _ B3.out
  go_upto_region 3 with (fail)
  have G4 := Lib.hid (show Below w.heap.size w (w3.alloc (.cells #[.int .u8 (dgI (b.v / 10)), .int .u8 (dgI b.v)] 5)).drew from (G3.out.alloc z3 _).drew)
  have O4 := Lib.hid (show (w3.alloc (.cells #[.int .u8 (dgI (b.v / 10)), .int .u8 (dgI b.v)] 5)).drew.ownsRow w.heap.size 5 1 v3 6 (([dgI (b.c / 100), dgI (b.c / 10), dgI b.c, b.m0, b.m1, b.m2]).map (Value.int .u8)) from (O3.out.alloc _).drew)
  have C4 := Lib.hid (show ∀ (j : Nat) (u : Value), [Value.int .u8 (dgI (b.v / 10)), .int .u8 (dgI b.v)][j]? = some u → (w3.alloc (.cells #[.int .u8 (dgI (b.v / 10)), .int .u8 (dgI b.v)] 5)).drew.cell? (Addr.add ⟨w3.heap.size, 0, none⟩ j) = some u from fun j u hu => cellL_new w3 #[.int .u8 (dgI (b.v / 10)), .int .u8 (dgI b.v)] 5 j u hu)
  have z4 := G4.out.size
  have T4 := Lib.hid (show ∀ u ∈ [Value.int .u8 (dgI (b.v / 10)), .int .u8 (dgI b.v)], u.oneCell' = true by intro u hu; simp at hu; rcases hu with rfl | rfl <;> rfl)
  go_region_law (first
    | (refine step_append_lies _ (by rfl) (.tmp 22) (.tmp 30) _ (by rfl) w.heap.size 5 i0 (.int .u8 0) 1 1 Try.underlying22 hi0 hz0 hz1 hz2 rfl (by decide) v3 _ _ (by rfl) O4.out ⟨w3.heap.size, 0, none⟩ 2 2 [.int .u8 (dgI (b.v / 10)), .int .u8 (dgI b.v)] (by rfl) rfl C4.out T4.out (by decide) (by unfold maxLen; omega) (by omega) z4 _ rfl ?_; intro g5 c5 w5 hown5 hgrow5 _ _; have O5 := Lib.hid (show w5.ownsRow w.heap.size 5 1 (.slice (some ⟨g5, 0, none⟩) 8 c5) (lab8 b).length ((lab8 b).map (Value.int .u8)) from hown5); have G5 := Lib.hid (G4.out.grown hgrow5 G4.out.size (fun k hk => (O4.out.lt k hk).1)); clear hown5 hgrow5)
    | (go_simp; go_at_call 32; first | (with_reducible refine (K3.out _).mono ?_) | (with_reducible refine (K4.out _).mono ?_); rintro e w' ⟨rfl, rfl⟩))
  all_goals
    clear Q2 q4
    go_wp2_with fail
    refine (check_any _ (lab8 b) L8.out _ (ownInts O5.out) (by show 8 ≤ 8; omega)).mono ?_
    rintro e w6 ⟨rfl, h6⟩
    have G6 := Lib.hid (bnext G5.out h6)
    have O6 := Lib.hid (ownBelow O5.out h6)
    have z6 := G6.out.size
    clear h6
    go_wp2_with (at_builtin; refine wpList_append_own _ rfl (.tmp 32) (.tmp 36) _ rfl w.heap.size 5 i0 (.int .u8 0) 1 1 Try.underlying22 hi0 hz0 hz1 hz2 rfl (by decide) _ _ _ rfl (O6.out.alloc _) ⟨w6.heap.size, 0, none⟩ 1 1 [.int .u8 (chk (lab8 b))] rfl rfl (cell_one_new _ _ _) (by intro u hu; simp at hu; subst hu; rfl) (by show 8 + 1 ≤ _; unfold maxLen; omega) (by show (8 + 1) * 1 ≤ _; omega) (by simp; omega) ?_)
    intro v7 w7 hown7 hgrow7 _
    have O7 := Lib.hid (show w7.ownsRow w.heap.size 5 1 v7 (labL b).length ((labL b).map (Value.int .u8)) from hown7)
    have G7 := Lib.hid ((G6.out.alloc z6 _).grown hgrow7 (by simp; omega) (fun k hk => (O6.out.lt k hk).1))
    clear hown7 hgrow7
    obtain ⟨g7, c7, rfl⟩ := own_form O7.out (by show 0 < 9; omega)
    have DC := run_string O7.out L9.out
    go_wp2
    go_ret
    exact ⟨rfl, G7.out⟩
end Go.Proofs.Ytimojjkblofhnaa
