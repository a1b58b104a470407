/- How many moves a shelf is away from its catalogue, by the model and by the program: contracts. Condition: the three error variables hold three different errors of errors.New's make; at most 1048576 books, whose numbers lie within their kinds. -/
import Derived.Test.YtgfffbnodinkcabDoorStkA
import Derived.Test.YtgfffbnodinkcabDoorOutS
import Derived.Test.YtgfffbnodinkcabDoorLeast
namespace Go.Proofs.YtgfffbnodinkcabDoor
set_option linter.unusedSimpArgs false
set_option linter.unusedVariables false
set_option maxRecDepth 100000
open Go.RowKit Go.Sort

/-- The code of a catalogue and a shelf that need the same stock. -/
def saC (xs ys : List Bk) : Int := if boC xs ys = 0 then (if stkB xs ys then 0 else 8) else boC xs ys
def fsR (xs ys : List Bk) : Int := if saC xs ys = 0 then ((opL ys).length : Int) else 0
theorem sa_cases (xs ys : List Bk) : (boC xs ys ≠ 0 ∧ saC xs ys = boC xs ys) ∨ (boC xs ys = 0 ∧ stkB xs ys = false ∧ saC xs ys = 8) ∨ (boC xs ys = 0 ∧ stkB xs ys = true ∧ saC xs ys = 0) := by
  unfold saC
  by_cases h : boC xs ys = 0
  · cases h2 : stkB xs ys
    · exact .inr (.inl ⟨h, rfl, by rw [if_pos h]; rfl⟩)
    · exact .inr (.inr ⟨h, rfl, by rw [if_pos h]; rfl⟩)
  · exact .inl ⟨h, by rw [if_neg h]⟩
theorem kept_old (xs : List Bk) (k : Nat) : ∀ d, k ∈ keptTo xs (k + 1 + d) ↔ k ∈ keptTo xs (k + 1)
  | 0 => Iff.rfl
  | d + 1 => by
    have ih := kept_old xs k d
    rw [show k + 1 + (d + 1) = (k + 1 + d) + 1 by omega, keptTo]
    split
    · rw [List.mem_append, ih]
      constructor
      · rintro (h | h)
        · exact h
        · have := List.mem_singleton.1 h; omega
      · exact .inl
    · exact ih
theorem kept_new (xs : List Bk) (k : Nat) : k ∈ keptTo xs (k + 1) ↔ takeB xs (keptTo xs k) k = true := by
  have hn : k ∉ keptTo xs k := fun h => absurd (keptTo_lt xs k k h) (Nat.lt_irrefl _)
  rw [keptTo]
  by_cases h : takeB xs (keptTo xs k) k = true
  · rw [if_pos h]; simp [h]
  · rw [if_neg h]; simp [h, hn]
theorem kept_mem {xs : List Bk} {k : Nat} (hk : k < xs.length) : memB (keptL xs) (k : Int) = takeB xs (keptTo xs k) k := by
  have h1 : ((k : Int) ∈ keptL xs) ↔ k ∈ keptTo xs xs.length := by
    unfold keptL
    rw [List.mem_map]
    constructor
    · rintro ⟨a, ha, e⟩
      obtain rfl : a = k := by omega
      exact ha
    · intro h; exact ⟨k, h, rfl⟩
  have h2 := kept_old xs k (xs.length - (k + 1))
  rw [show k + 1 + (xs.length - (k + 1)) = xs.length by omega] at h2
  have h3 := h1.trans (h2.trans (kept_new xs k))
  unfold memB
  cases ht : takeB xs (keptTo xs k) k
  · exact decide_eq_false (fun h => by rw [ht] at h3; exact absurd (h3.1 h) (by simp))
  · exact decide_eq_true (h3.2 ht)
theorem out_kept (xs : List Bk) : ∀ k, k ≤ xs.length → (outTo (keptL xs) k).length + (keptTo xs k).length = k
  | 0, _ => rfl
  | k + 1, h => by
    have ih := out_kept xs k (by omega)
    have hm := kept_mem (xs := xs) (k := k) (by omega)
    rw [outTo, keptTo, hm]
    cases takeB xs (keptTo xs k) k
    · simp; omega
    · simp; omega
theorem op_len (xs : List Bk) : ((opL xs).length : Int) = (xs.length : Int) - ((keptL xs).length : Int) := by
  have := out_kept xs xs.length (Nat.le_refl _)
  have e : (keptL xs).length = (keptTo xs xs.length).length := by unfold keptL; rw [List.length_map]
  unfold opL
  rw [e]
  omega

set_option maxHeartbeats 4000000 in
theorem l07Same_any (b0 o0 c0 : Nat) (v1 : Value) (xs ys : List Bk) (wf : ∀ b ∈ xs, b.Wf) (wfy : ∀ b ∈ ys, b.Wf) (w : World) (hs : SliceOf w (.slice (some ⟨b0, o0, none⟩) xs.length c0) xs) (hs1 : SliceOf w v1 ys) (hc0 : xs.length ≤ c0) (hn : xs.length ≤ 1048576) (hny : ys.length ≤ 1048576) :
    Calls Tryd.prog 39 #[.slice (some ⟨b0, o0, none⟩) xs.length c0, v1] w fun e w' => e = .returned (.int .i64 (saC xs ys)) ∧ Below w.heap.size w w' := by
  have LB := Lib.hid (fun W (h : SliceOf W (.slice (some ⟨b0, o0, none⟩) xs.length c0) xs) (h1 : SliceOf W v1 ys) => l07Both_any _ _ xs ys wf wfy W h h1 (by unfold maxLen; omega) (by unfold maxLen; omega))
  have LM := Lib.hid (fun W (h : SliceOf W (.slice (some ⟨b0, o0, none⟩) xs.length c0) xs) (h1 : SliceOf W v1 ys) => l07Stock_any b0 o0 c0 v1 xs ys W h h1 hc0 hn hny)
  have S0 := Lib.hid hs
  have S1 := Lib.hid hs1
  have SC := Lib.hid (sa_cases xs ys)
  clear hs hs1 wf wfy
  rcases SC.out with ⟨h1, h2⟩ | ⟨h1, h3, h2⟩ | ⟨h1, h3, h2⟩
  · have E := Lib.hid h2
    generalize boC xs ys = q at *
    have d1 : (q == 0) = false := by simpa using h1
    clear h1 h2 SC
    go_enter Tryd.func39, Tryd.ntmps39
    go_wp2_with fail
    refine (LB.out _ S0.out S1.out).mono ?_
    rintro e w1 ⟨rfl, h1⟩
    go_wp2
    go_ret
    exact ⟨by rw [E.out]; rfl, h1⟩
  all_goals
    have E := Lib.hid h2
    rw [h1] at LB
    rw [h3] at LM
    clear h1 h2 h3 SC
    go_enter Tryd.func39, Tryd.ntmps39
    go_wp2_with fail
    refine (LB.out _ S0.out S1.out).mono ?_
    rintro e w1 ⟨rfl, h1⟩
    go_wp2_with fail
    refine (LM.out _ (S0.out.below h1) (S1.out.below h1)).mono ?_
    rintro e w2 ⟨rfl, h2⟩
    go_wp2
    go_ret
    exact ⟨by rw [E.out]; rfl, bnext h1 h2⟩

set_option maxHeartbeats 4000000 in
theorem checkSame_any (v0 v1 : Value) (xs ys : List Bk) (wf : ∀ b ∈ xs, b.Wf) (wfy : ∀ b ∈ ys, b.Wf) (w : World) (s i y : Addr) (he : Errs w s i y) (hs : SliceOf w v0 xs) (hs1 : SliceOf w v1 ys) (hn : xs.length ≤ 1048576) (hny : ys.length ≤ 1048576) :
    Calls Tryd.prog 41 #[v0, v1] w fun e w' => e = .returned (.int .i64 (saC xs ys)) ∧ Below w.heap.size w w' := by
  have LC := Lib.hid (sameStock_any v0 v1 xs ys wf wfy w s i y he hs hs1 hn hny)
  have SC := Lib.hid (sa_cases xs ys)
  have SS := Lib.hid (fun (h : boC xs ys = 0) => show ssR xs ys = stkB xs ys by unfold ssR; rw [if_pos h])
  obtain ⟨A0, c0, rfl, -⟩ := hs
  obtain ⟨A1, c1, rfl, -⟩ := hs1
  clear he wf wfy hn hny
  rcases SC.out with ⟨h1, h2⟩ | ⟨h1, h3, h2⟩ | ⟨h1, h3, h2⟩
  · have E := Lib.hid h2
    generalize boC xs ys = q at *
    have d1 : (q == 0) = false := by simpa using h1
    clear h1 h2 SC
    go_enter Tryd.func41, Tryd.ntmps41
    go_wp2_with fail
    refine LC.out.mono ?_
    rintro e w1 ⟨rfl, h1⟩
    go_wp2
    go_ret
    exact ⟨by rw [E.out]; rfl, h1⟩
  all_goals
    have E := Lib.hid h2
    rw [SS.out h1, h1, h3] at LC
    clear h1 h2 h3 SC SS
    go_enter Tryd.func41, Tryd.ntmps41
    go_wp2_with fail
    refine LC.out.mono ?_
    rintro e w1 ⟨rfl, h1⟩
    go_wp2
    go_ret
    exact ⟨by rw [E.out]; rfl, h1⟩
theorem sa_ok {xs ys : List Bk} (h : saC xs ys = 0) : okB xs = true ∧ okB ys = true ∧ stkB xs ys = true := by
  rcases sa_cases xs ys with ⟨h1, h2⟩ | ⟨_, _, h2⟩ | ⟨h1, h3, _⟩
  · exact absurd (h2.symm.trans h) h1
  · rw [h] at h2; cases h2
  · exact ⟨(bo_ok h1).1, (bo_ok h1).2, h3⟩
set_option maxHeartbeats 4000000 in
theorem specFewest_any (b0 o0 c0 : Nat) (v1 : Value) (xs ys : List Bk) (wf : ∀ b ∈ xs, b.Wf) (wfy : ∀ b ∈ ys, b.Wf) (w : World) (hs : SliceOf w (.slice (some ⟨b0, o0, none⟩) xs.length c0) xs) (hs1 : SliceOf w v1 ys) (hc0 : xs.length ≤ c0) (hn : xs.length ≤ 1048576) (hny : ys.length ≤ 1048576) :
    Calls Tryd.prog 21 #[.slice (some ⟨b0, o0, none⟩) xs.length c0, v1] w fun e w' => e = .returned (.tuple #[.int .i64 (fsR xs ys), .int .i64 (saC xs ys)]) ∧ Below w.heap.size w w' := by
  have LC := Lib.hid (l07Same_any b0 o0 c0 v1 xs ys wf wfy w hs hs1 hc0 hn hny)
  have S1 := Lib.hid hs1
  have LO := Lib.hid (fun (h60 : ys.length ≤ 60) W (h : SliceOf W v1 ys) => l07Out_any v1 ys wfy W h h60)
  clear hs hs1 wf wfy
  by_cases hq : saC xs ys = 0
  · have E := Lib.hid (show fsR xs ys = ((opL ys).length : Int) by unfold fsR; rw [if_pos hq])
    have h60 : ys.length ≤ 60 := by have := (sa_ok hq).2.1; unfold okB at this; simp at this; exact this.2
    rw [hq] at LC ⊢
    rw [E.out]
    clear hq E
    generalize opL ys = l at *
    go_enter Tryd.func21, Tryd.ntmps21
    go_wp2_with fail
    refine LC.out.mono ?_
    rintro e w1 ⟨rfl, h1⟩
    go_wp2_with fail
    refine (LO.out h60 _ (S1.out.below h1)).mono ?_
    rintro e w2 ⟨u, rfl, ho, h2⟩
    obtain ⟨A2, c2, rfl⟩ := vlen_own1 ho
    clear ho
    go_wp2
    go_ret2
    exact ⟨rfl, bnext h1 h2⟩
  · have E := Lib.hid (show fsR xs ys = 0 by unfold fsR; rw [if_neg hq])
    rw [E.out]
    clear E
    generalize saC xs ys = q at *
    have d1 : (q == 0) = false := by simpa using hq
    have d2 : (q != 0) = true := by simpa using hq
    clear hq
    go_enter Tryd.func21, Tryd.ntmps21
    go_wp2_with fail
    refine LC.out.mono ?_
    rintro e w1 ⟨rfl, h1⟩
    go_wp2
    go_ret2
    exact ⟨rfl, h1⟩
set_option maxHeartbeats 4000000 in
theorem fewest_any (v0 : Value) (b1 o1 c1 : Nat) (xs ys : List Bk) (wf : ∀ b ∈ xs, b.Wf) (wfy : ∀ b ∈ ys, b.Wf) (w : World) (s i y : Addr) (he : Errs w s i y) (hs : SliceOf w v0 xs) (hs1 : SliceOf w (.slice (some ⟨b1, o1, none⟩) ys.length c1) ys) (hc1 : ys.length ≤ c1) (hn : xs.length ≤ 1048576) (hny : ys.length ≤ 1048576) :
    Calls Tryd.prog 22 #[v0, .slice (some ⟨b1, o1, none⟩) ys.length c1] w fun e w' => e = .returned (.tuple #[.int .i64 (fsR xs ys), .int .i64 (saC xs ys)]) ∧ Below w.heap.size w w' := by
  have LC := Lib.hid (checkSame_any v0 _ xs ys wf wfy w s i y he hs hs1 hn hny)
  have S1 := Lib.hid hs1
  have LL := Lib.hid (fun W (h : SliceOf W (.slice (some ⟨b1, o1, none⟩) ys.length c1) ys) => leastMoves_any b1 o1 c1 ys wfy W h hc1 (by unfold maxLen; omega))
  obtain ⟨A0, c0, rfl, -⟩ := hs
  clear hs1 wf wfy he
  by_cases hq : saC xs ys = 0
  · have E := Lib.hid (show fsR xs ys = lmR ys by unfold fsR lmR; rw [if_pos hq, (sa_ok hq).2.1, if_pos rfl]; exact op_len ys)
    have E2 := Lib.hid (show lmCode ys = 0 by unfold lmCode; rw [(sa_ok hq).2.1]; rfl)
    rw [hq] at LC ⊢
    rw [E.out]
    rw [E2.out] at LL
    clear hq E E2
    generalize lmR ys = l at *
    go_enter Tryd.func22, Tryd.ntmps22
    go_wp2_with fail
    refine LC.out.mono ?_
    rintro e w1 ⟨rfl, h1⟩
    go_wp2_with fail
    refine (LL.out _ (S1.out.below h1)).mono ?_
    rintro e w2 ⟨rfl, h2⟩
    go_wp2
    go_ret2
    exact ⟨rfl, bnext h1 h2⟩
  · have E := Lib.hid (show fsR xs ys = 0 by unfold fsR; rw [if_neg hq])
    rw [E.out]
    clear E
    generalize saC xs ys = q at *
    have d1 : (q == 0) = false := by simpa using hq
    have d2 : (q != 0) = true := by simpa using hq
    clear hq
    go_enter Tryd.func22, Tryd.ntmps22
    go_wp2_with fail
    refine LC.out.mono ?_
    rintro e w1 ⟨rfl, h1⟩
    go_wp2
    go_ret2
    exact ⟨rfl, h1⟩
end Go.Proofs.YtgfffbnodinkcabDoor
