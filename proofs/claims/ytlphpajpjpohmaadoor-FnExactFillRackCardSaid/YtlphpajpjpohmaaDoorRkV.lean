/- FillRack and EmptyRack, by the model and by the program: contracts. Condition: at most 1048576 books, whose numbers lie within their kinds; the three error variables hold three different errors of errors.New's make. -/
import Derived.Test.YtlphpajpjpohmaaDoorRkU2
import Derived.Test.YtlphpajpjpohmaaDoorRkK2
import Derived.Test.YtlphpajpjpohmaaDoorCode
import Derived.Stop.IfaceNil
namespace Go.Proofs.YtlphpajpjpohmaaDoor
set_option linter.unusedSimpArgs false
set_option linter.unusedVariables false
set_option maxRecDepth 100000
open Go.RowKit Go.Sort

theorem Errs.er2 {w : World} {s i y : Addr} (h : Errs w s i y) : Er2 w s i := ⟨h.cs, h.ci, by have := h.low; omega⟩
def frC (n : Int) (xs : List Bk) : Int := if okB xs then (if inB n 1 60 then (if firstOut xs < 0 then (if (xs.length : Int) ≤ n then 0 else 3) else 4) else 2) else 1
def frN (n : Int) (xs : List Bk) : Int := if frC n xs = 0 then n else 0
def frL (n : Int) (xs : List Bk) : List Pl := if frC n xs = 0 then sprL n.toNat xs else []
theorem frL_len (n : Int) (xs : List Bk) : (frL n xs).length ≤ xs.length := by
  unfold frL
  split
  · rw [sprL_len]; exact Nat.le_refl _
  · exact Nat.zero_le _
theorem fr_cases (n : Int) (xs : List Bk) : (okB xs = false ∧ frN n xs = 0 ∧ frL n xs = [] ∧ frC n xs = 1) ∨ (okB xs = true ∧ inB n 1 60 = false ∧ frN n xs = 0 ∧ frL n xs = [] ∧ frC n xs = 2) ∨
    (okB xs = true ∧ inB n 1 60 = true ∧ ¬ firstOut xs < 0 ∧ frN n xs = 0 ∧ frL n xs = [] ∧ frC n xs = 4) ∨ (okB xs = true ∧ inB n 1 60 = true ∧ firstOut xs < 0 ∧ ¬ (xs.length : Int) ≤ n ∧ frN n xs = 0 ∧ frL n xs = [] ∧ frC n xs = 3) ∨
    (okB xs = true ∧ inB n 1 60 = true ∧ firstOut xs < 0 ∧ (xs.length : Int) ≤ n ∧ frN n xs = n ∧ frL n xs = sprL n.toNat xs ∧ frC n xs = 0) := by
  unfold frN frL
  cases h1 : okB xs
  · refine .inl ⟨rfl, ?_⟩
    rw [show frC n xs = 1 by unfold frC; rw [h1]; rfl]
    exact ⟨rfl, rfl, rfl⟩
  · cases h2 : inB n 1 60
    · refine .inr (.inl ⟨rfl, rfl, ?_⟩)
      rw [show frC n xs = 2 by unfold frC; rw [h1, h2]; rfl]
      exact ⟨rfl, rfl, rfl⟩
    · by_cases h3 : firstOut xs < 0
      · by_cases h4 : (xs.length : Int) ≤ n
        · refine .inr (.inr (.inr (.inr ⟨rfl, rfl, h3, h4, ?_⟩)))
          rw [show frC n xs = 0 by unfold frC; rw [h1, h2]; simp [h3, h4]]
          exact ⟨rfl, rfl, rfl⟩
        · refine .inr (.inr (.inr (.inl ⟨rfl, rfl, h3, h4, ?_⟩)))
          rw [show frC n xs = 3 by unfold frC; rw [h1, h2]; simp [h3, h4]]
          exact ⟨rfl, rfl, rfl⟩
      · refine .inr (.inr (.inl ⟨rfl, rfl, h3, ?_⟩))
        rw [show frC n xs = 4 by unfold frC; rw [h1, h2]; simp [h3]]
        exact ⟨rfl, rfl, rfl⟩

set_option maxHeartbeats 16000000 in
theorem specFillRack_any (n : Int) (v0 : Value) (xs : List Bk) (wf : ∀ b ∈ xs, b.Wf) (w : World) (hs : SliceOf w v0 xs) (ml : xs.length ≤ maxLen) :
    Calls Tryd.prog 44 #[.int .i64 n, v0] w fun e w' => ∃ u, e = .returned (.tuple #[.agg #[.int .i16 (frN n xs), u], .int .i64 (frC n xs)]) ∧ ResN Pl.cells 99 w' w.heap.size u (frL n xs) ∧ Below w.heap.size w w' := by
  have HS := Lib.hid hs
  have WF := Lib.hid wf
  obtain ⟨A, c, rfl, -⟩ := hs
  clear wf
  have G0 := Lib.hid (show Below w.heap.size w (w.alloc (.cells #[.int .i16 0, .slice none 0 0] 30)) by go_grown)
  have K0 := Lib.hid (heap_alloc_new w (.cells #[.int .i16 0, .slice none 0 0] 30))
  have TC := Lib.hid (fr_cases n xs)
  have mx : xs.length ≤ 9223372036854775807 := by unfold maxLen at ml; omega
  have ML := Lib.hid ml
  clear ml
  go_enter Tryd.func44, Tryd.ntmps44
  go_wp2_with fail
  generalize World.alloc w _ = w0 at G0 K0 ⊢
  have z0 : w.heap.size < w0.heap.size := (Array.getElem?_eq_some_iff.1 K0.out).1
  refine (l01Ok_any _ xs WF.out _ (HS.out.below G0.out) ML.out).mono ?_
  rintro e w1 ⟨rfl, h1⟩
  have B1 := Lib.hid (bnext G0.out h1)
  have R1 := Lib.hid ((h1.block _ z0).trans K0.out)
  have z1 : w.heap.size < w1.heap.size := Nat.lt_of_lt_of_le z0 h1.size
  clear h1
  rcases TC.out with ⟨hk, e1, e2, e3⟩ | ⟨hk, hn, e1, e2, e3⟩ | ⟨hk, hn, hf, e1, e2, e3⟩ | ⟨hk, hn, hf, hl, e1, e2, e3⟩ | ⟨hk, hn, hf, hl, e1, e2, e3⟩
  · have E := Lib.hid (And.intro e1 (And.intro e2 e3))
    rw [hk]
    clear e1 e2 e3 hk
    have b0 := cell_of_row w1 _ 0 _ _ _ R1.out
    have b1 := cell_of_row w1 _ 1 _ _ _ R1.out
    have fz := fun j => frozen_of_row w1 _ j _ _ R1.out
    simp only [List.getElem?_toArray, List.getElem?_cons_zero, List.getElem?_cons_succ] at b0 b1
    go_wp2
    refine bodyPost_ret (v := .tuple #[.agg #[.int .i16 0, .slice none 0 0], .int .i64 1]) (by simp [results, Tryd.results44, go_sem, b0, b1]) rfl ?_
    refine ⟨.slice none 0 0, by rw [E.out.1, E.out.2.2], by rw [E.out.2.1]; exact ResN.nil _ _ _, ?_⟩
    repeat (refine Below.setCell ?_ (by first | (simp; done) | (simp; omega) | omega) _)
    exact B1.out
  all_goals
    have E := Lib.hid (And.intro e1 (And.intro e2 e3))
    rw [hk]
    clear e1 e2 e3 hk
    go_wp2_with fail
    refine (l05Places_any _ _).mono ?_
    rintro e w' ⟨rfl, rfl⟩
    rw [hn]
  · clear hn
    have b0 := cell_of_row w1 _ 0 _ _ _ R1.out
    have b1 := cell_of_row w1 _ 1 _ _ _ R1.out
    have fz := fun j => frozen_of_row w1 _ j _ _ R1.out
    simp only [List.getElem?_toArray, List.getElem?_cons_zero, List.getElem?_cons_succ] at b0 b1
    go_wp2
    refine bodyPost_ret (v := .tuple #[.agg #[.int .i16 0, .slice none 0 0], .int .i64 2]) (by simp [results, Tryd.results44, go_sem, b0, b1]) rfl ?_
    refine ⟨.slice none 0 0, by rw [E.out.1, E.out.2.2], by rw [E.out.2.1]; exact ResN.nil _ _ _, ?_⟩
    repeat (refine Below.setCell ?_ (by first | (simp; done) | (simp; omega) | omega) _)
    exact B1.out
  all_goals
    go_wp2_with fail
    refine (l01Out_any _ xs WF.out _ (HS.out.below B1.out) ML.out).mono ?_
    rintro e w2 ⟨rfl, h2⟩
    have B2 := Lib.hid (bnext B1.out h2)
    have R2 := Lib.hid ((h2.block _ z1).trans R1.out)
    have z2 : w.heap.size < w2.heap.size := Nat.lt_of_lt_of_le z1 h2.size
    clear h2
    generalize firstOut xs = fo at hf ⊢
  · have hf' : 0 ≤ fo := by omega
    clear hn
    have b0 := cell_of_row w2 _ 0 _ _ _ R2.out
    have b1 := cell_of_row w2 _ 1 _ _ _ R2.out
    have fz := fun j => frozen_of_row w2 _ j _ _ R2.out
    simp only [List.getElem?_toArray, List.getElem?_cons_zero, List.getElem?_cons_succ] at b0 b1
    go_wp2
    refine bodyPost_ret (v := .tuple #[.agg #[.int .i16 0, .slice none 0 0], .int .i64 4]) (by simp [results, Tryd.results44, go_sem, b0, b1]) rfl ?_
    refine ⟨.slice none 0 0, by rw [E.out.1, E.out.2.2], by rw [E.out.2.1]; exact ResN.nil _ _ _, ?_⟩
    repeat (refine Below.setCell ?_ (by first | (simp; done) | (simp; omega) | omega) _)
    exact B2.out
  · have hl' : n < (xs.length : Int) := by omega
    clear hn
    have b0 := cell_of_row w2 _ 0 _ _ _ R2.out
    have b1 := cell_of_row w2 _ 1 _ _ _ R2.out
    have fz := fun j => frozen_of_row w2 _ j _ _ R2.out
    simp only [List.getElem?_toArray, List.getElem?_cons_zero, List.getElem?_cons_succ] at b0 b1
    go_wp2
    refine bodyPost_ret (v := .tuple #[.agg #[.int .i16 0, .slice none 0 0], .int .i64 3]) (by simp [results, Tryd.results44, go_sem, b0, b1]) rfl ?_
    refine ⟨.slice none 0 0, by rw [E.out.1, E.out.2.2], by rw [E.out.2.1]; exact ResN.nil _ _ _, ?_⟩
    repeat (refine Below.setCell ?_ (by first | (simp; done) | (simp; omega) | omega) _)
    exact B2.out
  · have hn' : 1 ≤ n ∧ n ≤ 60 := by unfold inB at hn; simpa using hn
    obtain ⟨m, rfl⟩ : ∃ m : Nat, n = (m : Int) := ⟨n.toNat, by omega⟩
    rw [Int.toNat_natCast] at E
    clear hn
    go_wp2_with fail
    refine (l05Spread_any m _ xs WF.out _ (HS.out.below B2.out) (by omega) (by omega) (by omega)).mono ?_
    rintro e w3 ⟨u, rfl, hres, g3⟩
    have RS := Lib.hid hres
    obtain ⟨Au, nu, cu, rfl⟩ := hres.form
    have R3 := Lib.hid ((g3.block _ z2).trans R2.out)
    have B3 := Lib.hid (bnext B2.out g3)
    have zlo : w.heap.size ≤ w2.heap.size := by omega
    clear hres g3
    have b0 := cell_of_row w3 _ 0 _ _ _ R3.out
    have b1 := cell_of_row w3 _ 1 _ _ _ R3.out
    have fz := fun j => frozen_of_row w3 _ j _ _ R3.out
    simp only [List.getElem?_toArray, List.getElem?_cons_zero, List.getElem?_cons_succ] at b0 b1
    have E1 := Lib.hid (only_set2 (only_set2 (World.grownBy.refl w3 (some (w.heap.size))) 0 (.int .i16 (m : Int))) 1 (.slice Au nu cu))
    have E2 := Lib.hid (RS.out.other E1.out (fun p hp e => by
      have := (RS.out.lt p hp).1
      have h2 : p = w.heap.size := by injection e
      omega))
    go_wp2
    refine bodyPost_ret (v := .tuple #[.agg #[.int .i16 (m : Int), .slice Au nu cu], .int .i64 0]) (by simp [results, Tryd.results44, go_sem, b0, b1]) rfl ?_
    refine ⟨_, by rw [E.out.1, E.out.2.2], by rw [E.out.2.1]; exact E2.out.mono zlo, ?_⟩
    repeat (refine Below.setCell ?_ (by first | (simp; done) | (simp; omega) | omega) _)
    exact B3.out

set_option maxHeartbeats 16000000 in
theorem fillRack_any (n : Int) (v0 : Value) (xs : List Bk) (wf : ∀ b ∈ xs, b.Wf) (w : World) (s i y : Addr) (he : Errs w s i y) (hs : SliceOf w v0 xs) (hx : xs.length ≤ 1048576) :
    Calls Tryd.prog 46 #[.int .i64 n, v0] w fun e w' => ∃ u, e = .returned (.tuple #[.agg #[.int .i16 (frN n xs), u], .int .i64 (frC n xs)]) ∧ ResN Pl.cells 99 w' w.heap.size u (frL n xs) ∧ Below w.heap.size w w' := by
  have HS := Lib.hid hs
  have WF := Lib.hid wf
  have HE := Lib.hid he
  obtain ⟨A, c, rfl, -⟩ := hs
  clear wf he
  have G0 := Lib.hid (show Below w.heap.size w (w.alloc (.cells #[.int .i16 0, .slice none 0 0] 30)) by go_grown)
  have K0 := Lib.hid (heap_alloc_new w (.cells #[.int .i16 0, .slice none 0 0] 30))
  have TC := Lib.hid (fr_cases n xs)
  have ml : xs.length ≤ maxLen := by unfold maxLen; omega
  have isi : Tryd.prog.isIface 107 = true := by kernel_rfl
  have en := fun (X : World) (v : Value) => run_neq_iface_nil (P := Tryd.prog) (w := X) 107 isi 167 v
  have en0 := fun (X : World) => run_neq_nil_nil_at (P := Tryd.prog) (w := X) 107 isi
  go_enter Tryd.func46, Tryd.ntmps46
  go_wp2_with fail
  generalize World.alloc w _ = w0 at G0 K0 ⊢
  have z0 : w.heap.size < w0.heap.size := (Array.getElem?_eq_some_iff.1 K0.out).1
  refine (validBooks_any _ xs _ (HS.out.below G0.out) ml).mono ?_
  rintro e w1 ⟨rfl, h1⟩
  have B1 := Lib.hid (bnext G0.out h1)
  have R1 := Lib.hid ((h1.block _ z0).trans K0.out)
  have z1 : w.heap.size < w1.heap.size := Nat.lt_of_lt_of_le z0 h1.size
  clear h1
  rcases TC.out with ⟨hk, e1, e2, e3⟩ | ⟨hk, hn, e1, e2, e3⟩ | ⟨hk, hn, hf, e1, e2, e3⟩ | ⟨hk, hn, hf, hl, e1, e2, e3⟩ | ⟨hk, hn, hf, hl, e1, e2, e3⟩
  · have E := Lib.hid (And.intro e1 (And.intro e2 e3))
    rw [hk]
    clear e1 e2 e3 hk
    have b0 := cell_of_row w1 _ 0 _ _ _ R1.out
    have b1 := cell_of_row w1 _ 1 _ _ _ R1.out
    have fz := fun j => frozen_of_row w1 _ j _ _ R1.out
    simp only [List.getElem?_toArray, List.getElem?_cons_zero, List.getElem?_cons_succ] at b0 b1
    go_wp2
    refine bodyPost_ret (v := .tuple #[.agg #[.int .i16 0, .slice none 0 0], .int .i64 1]) (by simp [results, Tryd.results46, go_sem, b0, b1]) rfl ?_
    refine ⟨.slice none 0 0, by rw [E.out.1, E.out.2.2], by rw [E.out.2.1]; exact ResN.nil _ _ _, ?_⟩
    repeat (refine Below.setCell ?_ (by first | (simp; done) | (simp; omega) | omega) _)
    exact B1.out
  all_goals
    have E := Lib.hid (And.intro e1 (And.intro e2 e3))
    rw [hk]
    clear e1 e2 e3
    go_wp2_with fail
    refine (within64R _ _ _ _).mono ?_
    rintro e w' ⟨rfl, rfl⟩
    rw [hn]
  · clear hn hk
    have b0 := cell_of_row w1 _ 0 _ _ _ R1.out
    have b1 := cell_of_row w1 _ 1 _ _ _ R1.out
    have fz := fun j => frozen_of_row w1 _ j _ _ R1.out
    simp only [List.getElem?_toArray, List.getElem?_cons_zero, List.getElem?_cons_succ] at b0 b1
    go_wp2
    refine bodyPost_ret (v := .tuple #[.agg #[.int .i16 0, .slice none 0 0], .int .i64 2]) (by simp [results, Tryd.results46, go_sem, b0, b1]) rfl ?_
    refine ⟨.slice none 0 0, by rw [E.out.1, E.out.2.2], by rw [E.out.2.1]; exact ResN.nil _ _ _, ?_⟩
    repeat (refine Below.setCell ?_ (by first | (simp; done) | (simp; omega) | omega) _)
    exact B1.out
  all_goals
    have g2 := (Below.refl w1.heap.size w1).alloc (Nat.le_refl _) (.cells #[.slice A xs.length c] 34)
    have X2 := Lib.hid (heap_alloc_new w1 (.cells #[.slice A xs.length c] 34))
    go_wp2_with fail
    generalize World.alloc w1 _ = w2 at g2 X2 ⊢
    have B2 := Lib.hid (bnext B1.out g2)
    have R2 := Lib.hid ((g2.block _ z1).trans R1.out)
    have z2 : w1.heap.size < w2.heap.size := (Array.getElem?_eq_some_iff.1 X2.out).1
    refine (ck_any _ xs WF.out _ w1.heap.size s i ((HE.out.below B2.out).er2) (by have := cell_of_row w2 _ 0 _ _ _ X2.out; simpa using this) z2 (HS.out.below B2.out) hx).mono ?_
    rintro e w3 ⟨rfl, g3⟩
    have B3 := Lib.hid (bnext B2.out g3)
    have R3 := Lib.hid ((g3.block _ (by omega)).trans R2.out)
    have z3 : w.heap.size < w3.heap.size := by have := g3.size; omega
    clear g2 g3
    unfold erV
    rw [hk, if_pos rfl]
  · rw [if_neg (by omega)]
    clear hn hk
    go_wp2_with fail
    refine (codeOf_state _ s i y (HE.out.below B3.out)).mono ?_
    rintro e w' ⟨rfl, hw⟩
    obtain rfl := hw.symm
    have b0 := cell_of_row w3 _ 0 _ _ _ R3.out
    have b1 := cell_of_row w3 _ 1 _ _ _ R3.out
    have fz := fun j => frozen_of_row w3 _ j _ _ R3.out
    simp only [List.getElem?_toArray, List.getElem?_cons_zero, List.getElem?_cons_succ] at b0 b1
    go_wp2
    refine bodyPost_ret (v := .tuple #[.agg #[.int .i16 0, .slice none 0 0], .int .i64 4]) (by simp [results, Tryd.results46, go_sem, b0, b1]) rfl ?_
    refine ⟨.slice none 0 0, by rw [E.out.1, E.out.2.2], by rw [E.out.2.1]; exact ResN.nil _ _ _, ?_⟩
    repeat (refine Below.setCell ?_ (by first | (simp; done) | (simp; omega) | omega) _)
    exact B3.out
  · have hl' : n < (xs.length : Int) := by omega
    rw [if_pos (by omega)]
    clear hn hk
    have b0 := cell_of_row w3 _ 0 _ _ _ R3.out
    have b1 := cell_of_row w3 _ 1 _ _ _ R3.out
    have fz := fun j => frozen_of_row w3 _ j _ _ R3.out
    simp only [List.getElem?_toArray, List.getElem?_cons_zero, List.getElem?_cons_succ] at b0 b1
    go_wp2
    refine bodyPost_ret (v := .tuple #[.agg #[.int .i16 0, .slice none 0 0], .int .i64 3]) (by simp [results, Tryd.results46, go_sem, b0, b1]) rfl ?_
    refine ⟨.slice none 0 0, by rw [E.out.1, E.out.2.2], by rw [E.out.2.1]; exact ResN.nil _ _ _, ?_⟩
    repeat (refine Below.setCell ?_ (by first | (simp; done) | (simp; omega) | omega) _)
    exact B3.out
  · have hn' : 1 ≤ n ∧ n ≤ 60 := by unfold inB at hn; simpa using hn
    rw [if_pos (by omega)]
    obtain ⟨m, rfl⟩ : ∃ m : Nat, n = (m : Int) := ⟨n.toNat, by omega⟩
    rw [Int.toNat_natCast] at E
    clear hn hk
    go_wp2_with fail
    refine (spreadOver_any m _ xs _ (HS.out.below B3.out) (by omega) (by omega) (by omega)).mono ?_
    rintro e w4 ⟨g, rfl, hg, hr, g4⟩
    have HR := Lib.hid hr
    have B4 := Lib.hid (bnext B3.out g4)
    have R4 := Lib.hid ((g4.block _ z3).trans R3.out)
    have z4 : w.heap.size < w4.heap.size := Nat.lt_of_lt_of_le z3 g4.size
    have PO := Lib.hid (plq_plc (sprL_pos (n := m) (xs := xs) (by omega)))
    clear hr g4
    go_wp2_with fail
    refine (rack_any _ (plc m (sprL m xs)) w4 (RowN.sl HR.out (plc_length _ _)) (by rw [plc_length]; omega)).mono ?_
    rintro e w5 ⟨u, rfl, hres, g5⟩
    rw [PO.out] at hres
    rw [plc_length]
    have RS := Lib.hid hres
    obtain ⟨Au, nu, cu, rfl⟩ := hres.form
    have R5 := Lib.hid ((g5.block _ z4).trans R4.out)
    have B5 := Lib.hid (bnext B4.out g5)
    have zlo : w.heap.size ≤ w4.heap.size := by omega
    clear hres g5
    have b0 := cell_of_row w5 _ 0 _ _ _ R5.out
    have b1 := cell_of_row w5 _ 1 _ _ _ R5.out
    have fz := fun j => frozen_of_row w5 _ j _ _ R5.out
    simp only [List.getElem?_toArray, List.getElem?_cons_zero, List.getElem?_cons_succ] at b0 b1
    have E1 := Lib.hid (only_set2 (only_set2 (World.grownBy.refl w5 (some (w.heap.size))) 0 (.int .i16 (m : Int))) 1 (.slice Au nu cu))
    have E2 := Lib.hid (RS.out.other E1.out (fun p hp e => by
      have := (RS.out.lt p hp).1
      have h2 : p = w.heap.size := by injection e
      omega))
    go_wp2
    refine bodyPost_ret (v := .tuple #[.agg #[.int .i16 (m : Int), .slice Au nu cu], .int .i64 0]) (by simp [results, Tryd.results46, go_sem, b0, b1]) rfl ?_
    refine ⟨_, by rw [E.out.1, E.out.2.2], by rw [E.out.2.1]; exact E2.out.mono zlo, ?_⟩
    repeat (refine Below.setCell ?_ (by first | (simp; done) | (simp; omega) | omega) _)
    exact B5.out

/-! ### EmptyRack -/
theorem okB_nil : okB [] = true := by
  rw [okB_all (fun i hi => absurd hi (Nat.not_lt_zero _))]
  rfl
theorem fo_nil : firstOut [] < 0 := by
  rw [firstOut_none (fun i h1 h2 => absurd h2 (Nat.not_lt_zero _))]
  omega
theorem er_cases (n : Int) : (inB n 1 60 = false ∧ frN n [] = 0 ∧ frL n [] = [] ∧ frC n [] = 2) ∨ (inB n 1 60 = true ∧ frN n [] = n ∧ frL n [] = [] ∧ frC n [] = 0) := by
  rcases fr_cases n [] with ⟨hk, e1, e2, e3⟩ | ⟨hk, hn, e1, e2, e3⟩ | ⟨hk, hn, hf, e1, e2, e3⟩ | ⟨hk, hn, hf, hl, e1, e2, e3⟩ | ⟨hk, hn, hf, hl, e1, e2, e3⟩
  · rw [okB_nil] at hk; cases hk
  · exact .inl ⟨hn, e1, e2, e3⟩
  · exact absurd fo_nil hf
  · have : 1 ≤ n ∧ n ≤ 60 := by unfold inB at hn; simpa using hn
    exact absurd (show ((([] : List Bk).length : Nat) : Int) ≤ n by simp; omega) hl
  · exact .inr ⟨hn, e1, by rw [e2]; rfl, e3⟩
set_option maxHeartbeats 16000000 in
theorem specEmptyRack_any (n : Int) (w : World) :
    Calls Tryd.prog 47 #[.int .i64 n] w fun e w' => ∃ u, e = .returned (.tuple #[.agg #[.int .i16 (frN n []), u], .int .i64 (frC n [])]) ∧ ResN Pl.cells 99 w' w.heap.size u (frL n []) ∧ Below w.heap.size w w' := by
  have G0 := Lib.hid (show Below w.heap.size w (w.alloc (.cells #[.int .i16 0, .slice none 0 0] 30)) by go_grown)
  have K0 := Lib.hid (heap_alloc_new w (.cells #[.int .i16 0, .slice none 0 0] 30))
  have TC := Lib.hid (er_cases n)
  go_enter Tryd.func47, Tryd.ntmps47
  go_wp2_with fail
  generalize World.alloc w _ = w0 at G0 K0 ⊢
  have z0 : w.heap.size < w0.heap.size := (Array.getElem?_eq_some_iff.1 K0.out).1
  refine (l05Places_any _ _).mono ?_
  rintro e w' ⟨rfl, rfl⟩
  rcases TC.out with ⟨hn, e1, e2, e3⟩ | ⟨hn, e1, e2, e3⟩
  · have E := Lib.hid (And.intro e1 (And.intro e2 e3))
    rw [hn]
    clear e1 e2 e3 hn
    have b0 := cell_of_row w0 _ 0 _ _ _ K0.out
    have b1 := cell_of_row w0 _ 1 _ _ _ K0.out
    have fz := fun j => frozen_of_row w0 _ j _ _ K0.out
    simp only [List.getElem?_toArray, List.getElem?_cons_zero, List.getElem?_cons_succ] at b0 b1
    go_wp2
    refine bodyPost_ret (v := .tuple #[.agg #[.int .i16 0, .slice none 0 0], .int .i64 2]) (by simp [results, Tryd.results47, go_sem, b0, b1]) rfl ?_
    refine ⟨.slice none 0 0, by rw [E.out.1, E.out.2.2], by rw [E.out.2.1]; exact ResN.nil _ _ _, ?_⟩
    repeat (refine Below.setCell ?_ (by first | (simp; done) | (simp; omega) | omega) _)
    exact G0.out
  · have E := Lib.hid (And.intro e1 (And.intro e2 e3))
    have hn' : 1 ≤ n ∧ n ≤ 60 := by unfold inB at hn; simpa using hn
    rw [hn]
    clear e1 e2 e3 hn
    have b0 := cell_of_row w0 _ 0 _ _ _ K0.out
    have b1 := cell_of_row w0 _ 1 _ _ _ K0.out
    have fz := fun j => frozen_of_row w0 _ j _ _ K0.out
    simp only [List.getElem?_toArray, List.getElem?_cons_zero, List.getElem?_cons_succ] at b0 b1
    have n16 : IntKind.i16.wrap n = n := IntWalk.i16_in _ (by omega)
    go_wp2
    refine bodyPost_ret (v := .tuple #[.agg #[.int .i16 n, .slice none 0 0], .int .i64 0]) (by simp [results, Tryd.results47, go_sem, b0, b1]) rfl ?_
    refine ⟨.slice none 0 0, by rw [E.out.1, E.out.2.2], by rw [E.out.2.1]; exact ResN.nil _ _ _, ?_⟩
    repeat (refine Below.setCell ?_ (by first | (simp; done) | (simp; omega) | omega) _)
    exact G0.out
set_option maxHeartbeats 16000000 in
theorem emptyRack_any (n : Int) (w : World) (s i y : Addr) (he : Errs w s i y) :
    Calls Tryd.prog 48 #[.int .i64 n] w fun e w' => ∃ u, e = .returned (.tuple #[.agg #[.int .i16 (frN n []), u], .int .i64 (frC n [])]) ∧ ResN Pl.cells 99 w' w.heap.size u (frL n []) ∧ Below w.heap.size w w' := by
  have HE := Lib.hid he
  clear he
  have G0 := Lib.hid (show Below w.heap.size w (w.alloc (.cells #[.int .i16 0, .slice none 0 0] 30)) by go_grown)
  have K0 := Lib.hid (heap_alloc_new w (.cells #[.int .i16 0, .slice none 0 0] 30))
  go_enter Tryd.func48, Tryd.ntmps48
  go_wp2_with fail
  generalize World.alloc w _ = w0 at G0 K0 ⊢
  have z0 : w.heap.size < w0.heap.size := (Array.getElem?_eq_some_iff.1 K0.out).1
  refine (fillRack_any n _ [] (fun b h => by cases h) _ s i y (HE.out.below G0.out) ⟨none, 0, rfl, fun h => absurd h (Nat.lt_irrefl _)⟩ (by simp)).mono ?_
  rintro e w1 ⟨u, rfl, hres, g1⟩
  have RS := Lib.hid hres
  obtain ⟨Au, nu, cu, rfl⟩ := hres.form
  have R1 := Lib.hid ((g1.block _ z0).trans K0.out)
  have B1 := Lib.hid (bnext G0.out g1)
  have zlo : w.heap.size ≤ w0.heap.size := by omega
  clear hres g1
  obtain ⟨N, hN⟩ : ∃ N, frN n [] = N := ⟨_, rfl⟩
  obtain ⟨C, hC⟩ : ∃ C, frC n [] = C := ⟨_, rfl⟩
  rw [hN, hC]
  have HN := Lib.hid hN
  have HC := Lib.hid hC
  clear hN hC
  have b0 := cell_of_row w1 _ 0 _ _ _ R1.out
  have b1 := cell_of_row w1 _ 1 _ _ _ R1.out
  have fz := fun j => frozen_of_row w1 _ j _ _ R1.out
  simp only [List.getElem?_toArray, List.getElem?_cons_zero, List.getElem?_cons_succ] at b0 b1
  have E1 := Lib.hid (only_set2 (only_set2 (World.grownBy.refl w1 (some (w.heap.size))) 0 (.int .i16 N)) 1 (.slice Au nu cu))
  have E2 := Lib.hid (RS.out.other E1.out (fun p hp e => by
    have := (RS.out.lt p hp).1
    have h2 : p = w.heap.size := by injection e
    omega))
  go_wp2
  refine bodyPost_ret (v := .tuple #[.agg #[.int .i16 N, .slice Au nu cu], .int .i64 C]) (by simp [results, Tryd.results48, go_sem, b0, b1]) rfl ?_
  refine ⟨.slice Au nu cu, by rw [HN.out, HC.out], E2.out.mono zlo, ?_⟩
  repeat (refine Below.setCell ?_ (by first | (simp; done) | (simp; omega) | omega) _)
  exact B1.out
end Go.Proofs.YtlphpajpjpohmaaDoor
