/- A block of books moved, by the program: contracts. Condition: at most 60 books. -/
import Derived.Test.YtkclobdealnkhaaDoorMb3
import Derived.StillTailTactics
namespace Go.Proofs.YtkclobdealnkhaaDoor
set_option linter.unusedSimpArgs false
set_option linter.unusedVariables false
set_option maxRecDepth 100000
open Go.RowKit Go.Sort

def am (A : Option (Nat × Nat)) : Option Addr := A.map fun p => ⟨p.1, p.2, none⟩
/-- Books at an address, if there is one. -/
def BkO (w : World) (A : Option (Nat × Nat)) (xs : List Bk) : Prop := ∀ p, A = some p → p.1 < w.heap.size ∧ BooksAt w p.1 p.2 xs
def loA (A : Option (Nat × Nat)) (i c : Nat) : Option (Nat × Nat) := if c = i then A else A.map fun p => (p.1, p.2 + i * 8)
theorem BkO.below {w w' : World} {A : Option (Nat × Nat)} {xs : List Bk} (h : BkO w A xs) (hb : Below w.heap.size w w') : BkO w' A xs := fun p hp => ⟨Nat.lt_of_lt_of_le (h p hp).1 hb.size, (h p hp).2.below hb (h p hp).1⟩
theorem BkO.take {w : World} {A : Option (Nat × Nat)} {xs : List Bk} (h : BkO w A xs) (k : Nat) : BkO w A (xs.take k) := fun p hp => ⟨(h p hp).1, booksAt_take (h p hp).2 k⟩
theorem BkO.lo {w : World} {A : Option (Nat × Nat)} {xs : List Bk} (h : BkO w A xs) (i c : Nat) (hc : xs.length ≤ c) : BkO w (loA A i c) (xs.drop i) := by
  intro p hp
  unfold loA at hp
  split at hp
  · rename_i e
    refine ⟨(h p hp).1, ?_⟩
    rw [List.drop_eq_nil_of_le (by omega)]
    exact fun k hk => absurd hk (Nat.not_lt_zero _)
  · rename_i e
    cases A with
    | none => cases hp
    | some q =>
      obtain ⟨h1, h2⟩ := h q rfl
      have hp : (q.1, q.2 + i * 8) = p := by simpa using hp
      subst hp
      refine ⟨h1, ?_⟩
      have := booksAt_lo (i := i) h2 hc
      unfold loO at this
      rwa [if_neg e] at this
theorem run_hiO (A : Option (Nat × Nat)) (n c k : Nat) (hk : k ≤ c) (w : World) :
    (Instr.slice 29 (.slice (am A) n c) none (some (.int .i64 (k : Int))) none).run Tryd.prog w = .ok (.slice (am A) k c) w := run_hiB (am A) n c k hk w
theorem run_lo_O (A : Option (Nat × Nat)) (n c i : Nat) (hi : i ≤ n) (hc : n ≤ c) (w : World) :
    (Instr.slice 29 (.slice (am A) n c) (some (.int .i64 (i : Int))) none none).run Tryd.prog w = .ok (.slice (am (loA A i c)) (n - i) (c - i)) w := by
  rw [run_slice_l w _ _ _ _ elemBooks' _ _ (by omega) (by omega), sizeBook']
  unfold loA
  by_cases h : c = i
  · simp [Result.andThen, sliced, h]
  · cases A <;> simp [Result.andThen, sliced, h, Addr.add, am]
theorem loA_none {A : Option (Nat × Nat)} {i c : Nat} (h : loA A i c = none) : A = none := by
  unfold loA at h
  split at h
  · exact h
  · cases A with
    | none => rfl
    | some q => cases h
theorem soOk_books {w : World} {A : Option (Nat × Nat)} {n c : Nat} {zs : List Bk} (h : BkO w A zs) (h0 : A = none → n = 0 ∧ c = 0) (hn : n = zs.length) : SoOk 8 w ⟨A, n, c, flatB zs⟩ := by
  refine ⟨fun e => ?_, fun p hp => (h p hp).1, by rw [hn]; exact flatB_length zs, fun p hp => flat_cells (h p hp).2, flatB_one zs⟩
  obtain ⟨e1, e2⟩ := h0 e
  refine ⟨e1, e2, List.eq_nil_of_length_eq_zero ?_⟩
  show (flatB zs).length = 0
  have e1 : n = 0 := e1
  rw [flatB_length, ← hn, e1]
theorem co_two (s0 s1 : So) : coN [s0, s1] 2 = s0.n + s1.n ∧ coL [s0, s1] 2 = s0.L ++ s1.L := by
  refine ⟨?_, ?_⟩
  · show 0 + s0.n + s1.n = _; omega
  · show [] ++ s0.L ++ s1.L = _; rw [List.nil_append]
theorem co_three (s0 s1 s2 : So) : coN [s0, s1, s2] 3 = s0.n + s1.n + s2.n ∧ coL [s0, s1, s2] 3 = s0.L ++ s1.L ++ s2.L := by
  refine ⟨?_, ?_⟩
  · show 0 + s0.n + s1.n + s2.n = _; omega
  · show [] ++ s0.L ++ s1.L ++ s2.L = _; rw [List.nil_append]
/-- Two lists of books put one behind the other. -/
theorem concat2O_any (g0 : Nat) (A B : Option (Nat × Nat)) (n1 c1 n2 c2 : Nat) (xs ys : List Bk) (w : World) (hx : BkO w A xs) (hy : BkO w B ys) (h1 : A = none → n1 = 0 ∧ c1 = 0) (h2 : B = none → n2 = 0 ∧ c2 = 0) (e1 : n1 = xs.length) (e2 : n2 = ys.length) (hn : n1 + n2 ≤ 1000)
    (q0 : w.cell? ⟨g0, 0, none⟩ = some (.slice (am A) n1 c1)) (q1 : w.cell? ⟨g0, 1, none⟩ = some (.slice (am B) n2 c2)) (hg0 : g0 < w.heap.size) :
    Calls Tryd.prog 64 #[.slice (some ⟨g0, 0, none⟩) 2 2] w fun e w' => ∃ v, e = .returned v ∧ w'.ownsRow w.heap.size 65 8 v (xs ++ ys).length (flatB (xs ++ ys)) ∧ Below w.heap.size w w' := by
  obtain ⟨k1, k2⟩ := co_two ⟨A, n1, c1, flatB xs⟩ ⟨B, n2, c2, flatB ys⟩
  have H := concatOB_any [⟨A, n1, c1, flatB xs⟩, ⟨B, n2, c2, flatB ys⟩] g0 w (by
    intro s hs
    simp only [List.mem_cons, List.not_mem_nil, or_false] at hs
    rcases hs with rfl | rfl
    · exact soOk_books hx h1 e1
    · exact soOk_books hy h2 e2) (by
    intro k hk
    match k, hk with
    | 0, _ => exact q0
    | 1, _ => exact q1) hg0 (by show coN _ 2 ≤ _; rw [k1]; show n1 + n2 ≤ _; omega) (by show 2 ≤ 1000; decide)
  refine H.mono fun e w' h => ?_
  obtain ⟨v, r1, r2, r3⟩ := h
  refine ⟨v, r1, ?_, r3⟩
  have e3 : coN [⟨A, n1, c1, flatB xs⟩, ⟨B, n2, c2, flatB ys⟩] 2 = (xs ++ ys).length := by rw [k1, List.length_append, ← e1, ← e2]
  have e4 : coL [⟨A, n1, c1, flatB xs⟩, ⟨B, n2, c2, flatB ys⟩] 2 = flatB (xs ++ ys) := by rw [k2, flatB_appK]
  rw [← e3, ← e4]
  exact r2
/-- Three lists of books put one behind the other. -/
theorem concat3O_any (g0 : Nat) (A B C : Option (Nat × Nat)) (n1 c1 n2 c2 n3 c3 : Nat) (xs ys zs : List Bk) (w : World) (hx : BkO w A xs) (hy : BkO w B ys) (hz : BkO w C zs) (h1 : A = none → n1 = 0 ∧ c1 = 0) (h2 : B = none → n2 = 0 ∧ c2 = 0) (h3 : C = none → n3 = 0 ∧ c3 = 0) (e1 : n1 = xs.length) (e2 : n2 = ys.length) (e3 : n3 = zs.length) (hn : n1 + n2 + n3 ≤ 1000)
    (q0 : w.cell? ⟨g0, 0, none⟩ = some (.slice (am A) n1 c1)) (q1 : w.cell? ⟨g0, 1, none⟩ = some (.slice (am B) n2 c2)) (q2 : w.cell? ⟨g0, 2, none⟩ = some (.slice (am C) n3 c3)) (hg0 : g0 < w.heap.size) :
    Calls Tryd.prog 64 #[.slice (some ⟨g0, 0, none⟩) 3 3] w fun e w' => ∃ v, e = .returned v ∧ w'.ownsRow w.heap.size 65 8 v (xs ++ ys ++ zs).length (flatB (xs ++ ys ++ zs)) ∧ Below w.heap.size w w' := by
  obtain ⟨k1, k2⟩ := co_three ⟨A, n1, c1, flatB xs⟩ ⟨B, n2, c2, flatB ys⟩ ⟨C, n3, c3, flatB zs⟩
  have H := concatOB_any [⟨A, n1, c1, flatB xs⟩, ⟨B, n2, c2, flatB ys⟩, ⟨C, n3, c3, flatB zs⟩] g0 w (by
    intro s hs
    simp only [List.mem_cons, List.not_mem_nil, or_false] at hs
    rcases hs with rfl | rfl | rfl
    · exact soOk_books hx h1 e1
    · exact soOk_books hy h2 e2
    · exact soOk_books hz h3 e3) (by
    intro k hk
    match k, hk with
    | 0, _ => exact q0
    | 1, _ => exact q1
    | 2, _ => exact q2) hg0 (by show coN _ 3 ≤ _; rw [k1]; show n1 + n2 + n3 ≤ _; omega) (by show 3 ≤ 1000; decide)
  refine H.mono fun e w' h => ?_
  obtain ⟨v, r1, r2, r3⟩ := h
  refine ⟨v, r1, ?_, r3⟩
  have e4 : coN [⟨A, n1, c1, flatB xs⟩, ⟨B, n2, c2, flatB ys⟩, ⟨C, n3, c3, flatB zs⟩] 3 = (xs ++ ys ++ zs).length := by rw [k1, List.length_append, List.length_append, ← e1, ← e2, ← e3]
  have e5 : coL [⟨A, n1, c1, flatB xs⟩, ⟨B, n2, c2, flatB ys⟩, ⟨C, n3, c3, flatB zs⟩] 3 = flatB (xs ++ ys ++ zs) := by rw [k2, flatB_appK, flatB_appK]
  rw [← e4, ← e5]
  exact r2
theorem own_to_O {w : World} {B n : Nat} {v : Value} {ys : List Bk} (h : w.ownsRow B 65 8 v n (flatB ys)) (hn : n = ys.length) : ∃ A c, v = .slice (am A) n c ∧ BkO w A ys ∧ (A = none → n = 0 ∧ c = 0) ∧ n ≤ c := by
  rcases h.2 with ⟨rfl, h0⟩ | ⟨g, cap, cur, rfl, _⟩
  · subst h0
    exact ⟨none, 0, rfl, (fun p hp => by cases hp), fun _ => ⟨rfl, rfl⟩, Nat.le_refl _⟩
  · obtain ⟨h1, h2, h3⟩ := rowK_of_own h hn
    refine ⟨some (g, 0), cap, rfl, fun p hp => ?_, (fun e => by cases e), by rw [hn]; exact h3⟩
    cases hp
    exact ⟨h2.lt, h2.at_⟩
set_option maxHeartbeats 400000 in
theorem withinG_any (n low high : Int) (w : World) :
    Calls Tryd.prog 63 #[.int .i64 n, .int .i64 low, .int .i64 high] w fun e w' => e = .returned (.bool (inB n low high)) ∧ w = w' := by
  by_cases h1 : low ≤ n
  · by_cases h2 : n ≤ high
    · go_enter Tryd.func63, Tryd.ntmps63
      go_wp2
      go_ret
      exact ⟨by simp [inB, h1, h2], rfl⟩
    · go_enter Tryd.func63, Tryd.ntmps63
      go_wp2
      go_ret
      exact ⟨by simp [inB, h1, h2], rfl⟩
  · go_enter Tryd.func63, Tryd.ntmps63
    go_wp2
    go_ret
    exact ⟨by simp [inB]; omega, rfl⟩
set_option maxHeartbeats 8000000 in
theorem withBlock_any (g o cc : Nat) (xs : List Bk) (f c t : Nat) (w : World) (hat : BooksAt w g o xs) (hg : g < w.heap.size) (hcap : xs.length ≤ cc) (hn : xs.length ≤ 60) (h1 : 1 ≤ c) (hf : f + c ≤ xs.length) (ht : t + c ≤ xs.length) :
    Calls Tryd.prog 37 #[.slice (some ⟨g, o, none⟩) xs.length cc, .agg #[.int .i16 (f : Int), .int .i16 (c : Int), .int .i16 (t : Int)]] w fun e w' => ∃ u, e = .returned u ∧ ResB w' w.heap.size u (carL xs f c t) ∧ Below w.heap.size w w' := by
  have G0 := Lib.hid (show Below w.heap.size w (w.alloc (.cells #[.int .i16 (f : Int), .int .i16 (c : Int), .int .i16 (t : Int)] 71)) from (Below.refl _ _).alloc (Nat.le_refl _) _)
  have X0 := Lib.hid (heap_alloc_new w (.cells #[.int .i16 (f : Int), .int .i16 (c : Int), .int .i16 (t : Int)] 71))
  have A0 := Lib.hid (hat.below G0.out hg)
  have L0 := Lib.hid (Nat.lt_of_lt_of_le hg G0.out.size)
  have EF := Lib.hid (show f + c ≤ xs.length from hf)
  have ET := Lib.hid (show t + c ≤ xs.length from ht)
  have HCAP := Lib.hid hcap
  have f60 : (f : Int) < 60 := by omega
  have c60 : (c : Int) ≤ 60 := by omega
  have t60 : (t : Int) < 60 := by omega
  obtain ⟨e, he⟩ : ∃ e : Nat, e = f + c := ⟨_, rfl⟩
  have w1 : (f : Int) + (c : Int) = (e : Int) := by omega
  have HE := Lib.hid he
  have g1 : ¬ ((f : Int) < 0) := by omega
  have g2 : ¬ ((c : Int) < 1) := by omega
  have g3 : ¬ ((xs.length : Int) < (e : Int)) := by omega
  have v1 : inB (t : Int) 0 ((xs.length : Int) - (c : Int)) = true := by unfold inB; simp; omega
  have LW := Lib.hid (fun W => v1 ▸ withinG_any (t : Int) 0 ((xs.length : Int) - (c : Int)) W)
  have s1 := fun W => run_hiB (some ⟨g, o, none⟩) xs.length cc f (by omega) W
  have s2 := fun W => run_loB g o xs.length cc e (by omega) hcap W
  have s3 := fun W => run_midB g o xs.length cc f e (by omega) (by omega) W
  clear hat hg hf ht he hcap v1
  go_enter Tryd.func37, Tryd.ntmps37
  go_upto_region 1 with (fail)
  generalize World.alloc w _ = W1 at G0 X0 A0 L0 ⊢
  have m0 : W1.cell? ⟨w.heap.size, 0, none⟩ = some (.int .i16 (f : Int)) := cell_of_row W1 _ 0 _ _ _ X0.out
  have m1 : W1.cell? ⟨w.heap.size, 1, none⟩ = some (.int .i16 (c : Int)) := cell_of_row W1 _ 1 _ _ _ X0.out
  have m2 : W1.cell? ⟨w.heap.size, 2, none⟩ = some (.int .i16 (t : Int)) := cell_of_row W1 _ 2 _ _ _ X0.out
  go_wp2
  go_quiet (fail)
  go_wp2_with (go_at_call 63; refine (LW.out _).mono ?_; rintro e w' ⟨rfl, rfl⟩)
  generalize hW : World.drewN _ _ = W2
  have G2 := Lib.hid (show Below w.heap.size w W2 by rw [← hW]; exact below_drewN G0.out _)
  have A2 := Lib.hid (show BooksAt W2 g o xs by rw [← hW]; exact A0.out)
  have L2 := Lib.hid (show g < W2.heap.size by rw [← hW]; exact L0.out)
  clear hW m0 m1 m2
  refine wp_region_still_tail 6 (by kernel_rfl) (by kernel_rfl) ?_
  simp only [List.take_succ_cons, List.take_zero, List.drop_succ_cons, List.drop_zero]
  iterate 6 still_step
  refine wpStill_nil ?_
  have GA := Lib.hid (show Below w.heap.size w (W2.alloc (.cells #[.slice (some ⟨g, o, none⟩) f cc, .slice (some ⟨g, loO o e cc, none⟩) (xs.length - e) (cc - e)] 29)).drew from (G2.out.alloc G2.out.size _).drew)
  have BA := Lib.hid (show Below W2.heap.size W2 (W2.alloc (.cells #[.slice (some ⟨g, o, none⟩) f cc, .slice (some ⟨g, loO o e cc, none⟩) (xs.length - e) (cc - e)] 29)).drew from ((Below.refl _ _).alloc (Nat.le_refl _) _).drew)
  have X3 := Lib.hid (show (W2.alloc (.cells #[.slice (some ⟨g, o, none⟩) f cc, .slice (some ⟨g, loO o e cc, none⟩) (xs.length - e) (cc - e)] 29)).drew.heap[W2.heap.size]? = some (.cells #[.slice (some ⟨g, o, none⟩) f cc, .slice (some ⟨g, loO o e cc, none⟩) (xs.length - e) (cc - e)] 29 (0, 0)) from heap_alloc_new W2 _)
  obtain ⟨nr, hnr⟩ : ∃ nr : Nat, f + (xs.length - e) = nr := ⟨_, rfl⟩
  obtain ⟨rs, hrs⟩ : ∃ rs : List Bk, rs = xs.take f ++ xs.drop e := ⟨_, rfl⟩
  have LRS := Lib.hid (show rs.length = nr by rw [hrs, List.length_append, List.length_take, List.length_drop]; have := EF.out; omega)
  have tn : t ≤ nr := by have := ET.out; have := HE.out; have := EF.out; omega
  have nc : nr + c = xs.length := by have := HE.out; have := EF.out; omega
  have HRS := Lib.hid hrs
  have HNR := Lib.hid hnr
  clear hnr hrs
  go_wp2_with fail
  generalize World.drew _ = W3 at GA BA X3 ⊢
  have A3 := Lib.hid (A2.out.below BA.out L2.out)
  have L3 := Lib.hid (Nat.lt_of_lt_of_le L2.out BA.out.size)
  refine (concat2O_any W2.heap.size (some (g, o)) (some (g, loO o e cc)) f cc (xs.length - e) (cc - e) (xs.take f) (xs.drop e) W3 (fun p hp => by cases hp; exact ⟨L3.out, booksAt_take A3.out f⟩) (fun p hp => by cases hp; exact ⟨L3.out, booksAt_lo A3.out HCAP.out⟩) (fun h => by cases h) (fun h => by cases h) (by rw [List.length_take]; have := EF.out; omega) (by rw [List.length_drop]) (by omega) (cell_of_row W3 _ 0 _ _ _ X3.out) (cell_of_row W3 _ 1 _ _ _ X3.out) (Array.getElem?_eq_some_iff.1 X3.out).1).mono ?_
  rintro e4 w4 ⟨v4, rfl, ho4, h4⟩
  rw [← HRS.out, LRS.out] at ho4
  obtain ⟨A4, n4, rfl, hb4, hn4, hc4⟩ := own_to_O ho4 LRS.out.symm
  have B4 := Lib.hid hb4
  have N4 := Lib.hid hn4
  have G4 := Lib.hid (bnext GA.out h4)
  have AA4 := Lib.hid (A3.out.below h4 L3.out)
  have L4 := Lib.hid (Nat.lt_of_lt_of_le L3.out h4.size)
  clear hb4 hn4 ho4 h4 X3 GA BA A3 L3 A2 L2 G2 A0 L0
  have s4 := fun W => run_hiO A4 nr n4 t (by omega) W
  have s5 := fun W => run_lo_O A4 nr n4 t tn hc4 W
  go_wp2
  refine wp_region_still_tail 10 (by kernel_rfl) (by kernel_rfl) ?_
  simp only [List.take_succ_cons, List.take_zero, List.drop_succ_cons, List.drop_zero]
  iterate 10 still_step
  refine wpStill_nil ?_
  have GA := Lib.hid (show Below w.heap.size w (w4.alloc (.cells #[.slice (am A4) t n4, .slice (some ⟨g, loO o f cc, none⟩) (e - f) (cc - f), .slice (am (loA A4 t n4)) (nr - t) (n4 - t)] 29)).drew from (G4.out.alloc G4.out.size _).drew)
  have BA := Lib.hid (show Below w4.heap.size w4 (w4.alloc (.cells #[.slice (am A4) t n4, .slice (some ⟨g, loO o f cc, none⟩) (e - f) (cc - f), .slice (am (loA A4 t n4)) (nr - t) (n4 - t)] 29)).drew from ((Below.refl _ _).alloc (Nat.le_refl _) _).drew)
  have X5 := Lib.hid (show (w4.alloc (.cells #[.slice (am A4) t n4, .slice (some ⟨g, loO o f cc, none⟩) (e - f) (cc - f), .slice (am (loA A4 t n4)) (nr - t) (n4 - t)] 29)).drew.heap[w4.heap.size]? = some (.cells #[.slice (am A4) t n4, .slice (some ⟨g, loO o f cc, none⟩) (e - f) (cc - f), .slice (am (loA A4 t n4)) (nr - t) (n4 - t)] 29 (0, 0)) from heap_alloc_new w4 _)
  go_wp2_with fail
  generalize World.drew _ = W5 at GA BA X5 ⊢
  have A5 := Lib.hid (AA4.out.below BA.out L4.out)
  have L5 := Lib.hid (Nat.lt_of_lt_of_le L4.out BA.out.size)
  have B5 := Lib.hid (B4.out.below BA.out)
  refine (concat3O_any w4.heap.size A4 (some (g, loO o f cc)) (loA A4 t n4) t n4 (e - f) (cc - f) (nr - t) (n4 - t) (rs.take t) ((xs.drop f).take c) (rs.drop t) W5 (B5.out.take t) (fun p hp => by cases hp; exact ⟨L5.out, booksAt_take (booksAt_lo A5.out HCAP.out) c⟩) (B5.out.lo t n4 (by rw [LRS.out]; exact hc4)) (fun h => by have := N4.out h; omega) (fun h => by cases h) (fun h => by have := N4.out (loA_none h); omega) (by rw [List.length_take, LRS.out]; omega) (by rw [List.length_take, List.length_drop]; have := HE.out; have := EF.out; omega) (by rw [List.length_drop, LRS.out]) (by omega) (cell_of_row W5 _ 0 _ _ _ X5.out) (cell_of_row W5 _ 1 _ _ _ X5.out) (cell_of_row W5 _ 2 _ _ _ X5.out) (Array.getElem?_eq_some_iff.1 X5.out).1).mono ?_
  rintro e6 w6 ⟨v6, rfl, ho6, h6⟩
  have CE := Lib.hid (show carL xs f c t = rs.take t ++ (xs.drop f).take c ++ rs.drop t by unfold carL; rw [HRS.out, HE.out])
  rw [← CE.out] at ho6
  have O6 := Lib.hid ((ResB.of ho6 rfl).mono GA.out.size)
  have G6 := Lib.hid (bnext GA.out h6)
  clear ho6 h6 X5
  go_wp2
  go_ret
  exact ⟨_, rfl, O6.out, G6.out⟩
end Go.Proofs.YtkclobdealnkhaaDoor
