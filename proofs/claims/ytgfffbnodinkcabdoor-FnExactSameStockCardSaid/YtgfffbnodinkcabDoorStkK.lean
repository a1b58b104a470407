/- The code of a catalogue and a shelf; what is missing, what is foreign, whether the stock is the same, by the model: contracts. Condition: no longer than slices can be; numbers within their kinds. -/
import Derived.Test.YtgfffbnodinkcabDoorStkS
import Derived.Test.YtgfffbnodinkcabDoorAsked
namespace Go.Proofs.YtgfffbnodinkcabDoor
set_option linter.unusedSimpArgs false
set_option linter.unusedVariables false
set_option maxRecDepth 100000
open Go.RowKit Go.Sort

/-- The code of a catalogue and a shelf. -/
def boC (xs ys : List Bk) : Int := if okB ys then askS xs else 1
def miR (xs ys : List Bk) : List Bk := if boC xs ys = 0 then more xs ys else []
def foR (xs ys : List Bk) : List Bk := if boC xs ys = 0 then more ys xs else []
def ssR (xs ys : List Bk) : Bool := if boC xs ys = 0 then stkB xs ys else false
theorem miR_len (xs ys : List Bk) : (miR xs ys).length ≤ xs.length := by unfold miR; split; exact more_len _ _; exact Nat.zero_le _
theorem foR_len (xs ys : List Bk) : (foR xs ys).length ≤ ys.length := by unfold foR; split; exact more_len _ _; exact Nat.zero_le _
theorem bo_ok {xs ys : List Bk} (h : boC xs ys = 0) : okB xs = true ∧ okB ys = true := by
  unfold boC at h
  cases h1 : okB ys
  · rw [h1] at h; cases h
  · rw [h1, if_pos rfl] at h
    exact ⟨(askS_ok h).1, rfl⟩

set_option maxHeartbeats 4000000 in
theorem l07Both_any (v0 v1 : Value) (xs ys : List Bk) (wf : ∀ b ∈ xs, b.Wf) (wfy : ∀ b ∈ ys, b.Wf) (w : World) (hs : SliceOf w v0 xs) (hs1 : SliceOf w v1 ys) (hm : xs.length ≤ maxLen) (hmy : ys.length ≤ maxLen) :
    Calls Tryd.prog 33 #[v0, v1] w fun e w' => e = .returned (.int .i64 (boC xs ys)) ∧ Below w.heap.size w w' := by
  have L0 := Lib.hid (fun W (h : SliceOf W v0 xs) => l01Ok_any v0 xs wf W h hm)
  have L1 := Lib.hid (fun W (h : SliceOf W v1 ys) => l01Ok_any v1 ys wfy W h hmy)
  have LO := Lib.hid (fun W (h : SliceOf W v0 xs) => l01Out_any v0 xs wf W h hm)
  have S0 := Lib.hid hs
  have S1 := Lib.hid hs1
  clear hs hs1 wf wfy
  cases hk : okB xs
  · have E := Lib.hid (show boC xs ys = 1 by unfold boC askS; rw [hk]; cases okB ys <;> rfl)
    rw [hk] at L0
    clear hk
    go_enter Tryd.func33, Tryd.ntmps33
    go_wp2_with fail
    refine (L0.out _ S0.out).mono ?_
    rintro e w1 ⟨rfl, h1⟩
    go_wp2
    go_ret
    exact ⟨by rw [E.out]; rfl, h1⟩
  · cases hky : okB ys
    · have E := Lib.hid (show boC xs ys = 1 by unfold boC; rw [hky]; rfl)
      rw [hk] at L0
      rw [hky] at L1
      clear hk hky
      go_enter Tryd.func33, Tryd.ntmps33
      go_wp2_with fail
      refine (L0.out _ S0.out).mono ?_
      rintro e w1 ⟨rfl, h1⟩
      go_wp2_with fail
      refine (L1.out _ (S1.out.below h1)).mono ?_
      rintro e w2 ⟨rfl, h2⟩
      go_wp2
      go_ret
      exact ⟨by rw [E.out]; rfl, bnext h1 h2⟩
    · have E := Lib.hid (show boC xs ys = if firstOut xs < 0 then 0 else 4 by unfold boC askS; rw [hky, hk]; rfl)
      rw [hk] at L0
      rw [hky] at L1
      clear hk hky
      generalize firstOut xs = f at *
      by_cases hf : f < 0
      · have E2 := Lib.hid (show boC xs ys = 0 by rw [E.out, if_pos hf])
        have hf2 : ¬ 0 ≤ f := by omega
        clear E
        go_enter Tryd.func33, Tryd.ntmps33
        go_wp2_with fail
        refine (L0.out _ S0.out).mono ?_
        rintro e w1 ⟨rfl, h1⟩
        go_wp2_with fail
        refine (L1.out _ (S1.out.below h1)).mono ?_
        rintro e w2 ⟨rfl, h2⟩
        go_wp2_with fail
        refine (LO.out _ (S0.out.below (bnext h1 h2))).mono ?_
        rintro e w3 ⟨rfl, h3⟩
        go_wp2
        go_ret
        exact ⟨by rw [E2.out]; rfl, bnext (bnext h1 h2) h3⟩
      · have E2 := Lib.hid (show boC xs ys = 4 by rw [E.out, if_neg hf])
        have hf2 : 0 ≤ f := by omega
        clear E
        go_enter Tryd.func33, Tryd.ntmps33
        go_wp2_with fail
        refine (L0.out _ S0.out).mono ?_
        rintro e w1 ⟨rfl, h1⟩
        go_wp2_with fail
        refine (L1.out _ (S1.out.below h1)).mono ?_
        rintro e w2 ⟨rfl, h2⟩
        go_wp2_with fail
        refine (LO.out _ (S0.out.below (bnext h1 h2))).mono ?_
        rintro e w3 ⟨rfl, h3⟩
        go_wp2
        go_ret
        exact ⟨by rw [E2.out]; rfl, bnext (bnext h1 h2) h3⟩

set_option maxHeartbeats 4000000 in
theorem specMissing_any (b0 o0 c0 b1 o1 c1 : Nat) (xs ys : List Bk) (wf : ∀ b ∈ xs, b.Wf) (wfy : ∀ b ∈ ys, b.Wf) (w : World) (hs : SliceOf w (.slice (some ⟨b0, o0, none⟩) xs.length c0) xs) (hs1 : SliceOf w (.slice (some ⟨b1, o1, none⟩) ys.length c1) ys) (hc0 : xs.length ≤ c0) (hc1 : ys.length ≤ c1) (hn : xs.length ≤ 1048576) (hny : ys.length ≤ 1048576) :
    Calls Tryd.prog 11 #[.slice (some ⟨b0, o0, none⟩) xs.length c0, .slice (some ⟨b1, o1, none⟩) ys.length c1] w fun e w' => ∃ u, e = .returned (.tuple #[u, .int .i64 (boC xs ys)]) ∧ ResB w' w.heap.size u (miR xs ys) ∧ Below w.heap.size w w' := by
  have LB := Lib.hid (fun W (h : SliceOf W (.slice (some ⟨b0, o0, none⟩) xs.length c0) xs) (h1 : SliceOf W (.slice (some ⟨b1, o1, none⟩) ys.length c1) ys) => l07Both_any _ _ xs ys wf wfy W h h1 (by unfold maxLen; omega) (by unfold maxLen; omega))
  have LM := Lib.hid (fun W (h : SliceOf W (.slice (some ⟨b0, o0, none⟩) xs.length c0) xs) (h1 : SliceOf W (.slice (some ⟨b1, o1, none⟩) ys.length c1) ys) => l07More_any b0 o0 c0 _ xs ys W h hc0 h1 hn hny)
  have S0 := Lib.hid hs
  have S1 := Lib.hid hs1
  have N0 := Lib.hid (fun (W : World) (base : Nat) (h : base ≤ W.heap.size) => ResB.ofL (ys := []) (ResB.own1 W base h) rfl)
  clear hs hs1 wf wfy
  by_cases hk : boC xs ys = 0
  · have E := Lib.hid (show miR xs ys = more xs ys by unfold miR; rw [if_pos hk])
    rw [hk] at LB ⊢
    clear hk
    rw [E.out]
    clear E
    go_enter Tryd.func11, Tryd.ntmps11
    go_wp2_with fail
    refine (LB.out _ S0.out S1.out).mono ?_
    rintro e w1 ⟨rfl, h1⟩
    have z1 := h1.size
    go_wp2_with fail
    refine (LM.out _ (S0.out.below h1) (S1.out.below h1)).mono ?_
    rintro e w2 ⟨u, rfl, hu, h2⟩
    have HU := Lib.hid (hu.mono z1)
    clear hu
    go_wp2
    go_ret2
    exact ⟨_, rfl, HU.out, bnext h1 h2⟩
  · have E := Lib.hid (show miR xs ys = [] by unfold miR; rw [if_neg hk])
    rw [E.out]
    clear E
    generalize boC xs ys = q at *
    have hq : (q == 0) = false := by simpa using hk
    have hq2 : (q != 0) = true := by simpa using hk
    clear hk
    go_enter Tryd.func11, Tryd.ntmps11
    go_wp2_with fail
    refine (LB.out _ S0.out S1.out).mono ?_
    rintro e w1 ⟨rfl, h1⟩
    have NW := Lib.hid (N0.out w1 _ h1.size)
    have BN := Lib.hid (h1.alloc h1.size (.cells #[] 50))
    clear h1
    go_wp2
    go_ret2
    exact ⟨_, rfl, NW.out, BN.out⟩

set_option maxHeartbeats 4000000 in
theorem specForeign_any (b0 o0 c0 b1 o1 c1 : Nat) (xs ys : List Bk) (wf : ∀ b ∈ xs, b.Wf) (wfy : ∀ b ∈ ys, b.Wf) (w : World) (hs : SliceOf w (.slice (some ⟨b0, o0, none⟩) xs.length c0) xs) (hs1 : SliceOf w (.slice (some ⟨b1, o1, none⟩) ys.length c1) ys) (hc0 : xs.length ≤ c0) (hc1 : ys.length ≤ c1) (hn : xs.length ≤ 1048576) (hny : ys.length ≤ 1048576) :
    Calls Tryd.prog 17 #[.slice (some ⟨b0, o0, none⟩) xs.length c0, .slice (some ⟨b1, o1, none⟩) ys.length c1] w fun e w' => ∃ u, e = .returned (.tuple #[u, .int .i64 (boC xs ys)]) ∧ ResB w' w.heap.size u (foR xs ys) ∧ Below w.heap.size w w' := by
  have LB := Lib.hid (fun W (h : SliceOf W (.slice (some ⟨b0, o0, none⟩) xs.length c0) xs) (h1 : SliceOf W (.slice (some ⟨b1, o1, none⟩) ys.length c1) ys) => l07Both_any _ _ xs ys wf wfy W h h1 (by unfold maxLen; omega) (by unfold maxLen; omega))
  have LM := Lib.hid (fun W (h : SliceOf W (.slice (some ⟨b0, o0, none⟩) xs.length c0) xs) (h1 : SliceOf W (.slice (some ⟨b1, o1, none⟩) ys.length c1) ys) => l07More_any b1 o1 c1 _ ys xs W h1 hc1 h hny hn)
  have S0 := Lib.hid hs
  have S1 := Lib.hid hs1
  have N0 := Lib.hid (fun (W : World) (base : Nat) (h : base ≤ W.heap.size) => ResB.ofL (ys := []) (ResB.own1 W base h) rfl)
  clear hs hs1 wf wfy
  by_cases hk : boC xs ys = 0
  · have E := Lib.hid (show foR xs ys = more ys xs by unfold foR; rw [if_pos hk])
    rw [hk] at LB ⊢
    clear hk
    rw [E.out]
    clear E
    go_enter Tryd.func17, Tryd.ntmps17
    go_wp2_with fail
    refine (LB.out _ S0.out S1.out).mono ?_
    rintro e w1 ⟨rfl, h1⟩
    have z1 := h1.size
    go_wp2_with fail
    refine (LM.out _ (S0.out.below h1) (S1.out.below h1)).mono ?_
    rintro e w2 ⟨u, rfl, hu, h2⟩
    have HU := Lib.hid (hu.mono z1)
    clear hu
    go_wp2
    go_ret2
    exact ⟨_, rfl, HU.out, bnext h1 h2⟩
  · have E := Lib.hid (show foR xs ys = [] by unfold foR; rw [if_neg hk])
    rw [E.out]
    clear E
    generalize boC xs ys = q at *
    have hq : (q == 0) = false := by simpa using hk
    have hq2 : (q != 0) = true := by simpa using hk
    clear hk
    go_enter Tryd.func17, Tryd.ntmps17
    go_wp2_with fail
    refine (LB.out _ S0.out S1.out).mono ?_
    rintro e w1 ⟨rfl, h1⟩
    have NW := Lib.hid (N0.out w1 _ h1.size)
    have BN := Lib.hid (h1.alloc h1.size (.cells #[] 50))
    clear h1
    go_wp2
    go_ret2
    exact ⟨_, rfl, NW.out, BN.out⟩

set_option maxHeartbeats 4000000 in
theorem l07Stock_any (b0 o0 c0 : Nat) (v1 : Value) (xs ys : List Bk) (w : World) (hs : SliceOf w (.slice (some ⟨b0, o0, none⟩) xs.length c0) xs) (hs1 : SliceOf w v1 ys) (hc0 : xs.length ≤ c0) (hn : xs.length ≤ 1048576) (hny : ys.length ≤ 1048576) :
    Calls Tryd.prog 38 #[.slice (some ⟨b0, o0, none⟩) xs.length c0, v1] w fun e w' => e = .returned (.bool (stkB xs ys)) ∧ Below w.heap.size w w' := by
  have LM := Lib.hid (fun W (h : SliceOf W (.slice (some ⟨b0, o0, none⟩) xs.length c0) xs) (h1 : SliceOf W v1 ys) => l07More_any b0 o0 c0 v1 xs ys W h hc0 h1 hn hny)
  have S0 := Lib.hid hs
  have S1 := Lib.hid hs1
  obtain ⟨A1, k1, rfl, -⟩ := hs1
  clear hs
  by_cases hl : xs.length = ys.length
  · have E := Lib.hid (show stkB xs ys = decide ((more xs ys).length = 0) by unfold stkB; rw [decide_eq_true hl]; rfl)
    have hd : ((xs.length : Int) == (ys.length : Int)) = true := by rw [hl]; simp
    have HL := Lib.hid hl
    clear hl
    go_enter Tryd.func38, Tryd.ntmps38
    go_wp2_with fail
    refine (LM.out _ S0.out S1.out).mono ?_
    rintro e w1 ⟨u, rfl, hu, h1⟩
    obtain ⟨A2, k2, rfl, -⟩ := hu.slice
    generalize (more xs ys).length = m at *
    by_cases hm : m = 0
    · have hd2 : ((m : Int) == 0) = true := by rw [hm]; rfl
      have E2 := Lib.hid (show stkB xs ys = true by rw [E.out, decide_eq_true hm])
      clear hu hm
      go_wp2
      go_ret
      exact ⟨by rw [E2.out]; rfl, h1⟩
    · have hd2 : ((m : Int) == 0) = false := by simp; omega
      have E2 := Lib.hid (show stkB xs ys = false by rw [E.out, decide_eq_false hm])
      clear hu hm
      go_wp2
      go_ret
      exact ⟨by rw [E2.out]; rfl, h1⟩
  · have E := Lib.hid (show stkB xs ys = false by unfold stkB; rw [decide_eq_false hl]; rfl)
    have hd : ((xs.length : Int) == (ys.length : Int)) = false := by simp; omega
    have HL := Lib.hid hl
    clear hl
    go_enter Tryd.func38, Tryd.ntmps38
    go_wp2
    go_ret
    exact ⟨by rw [E.out]; rfl, Below.refl _ _⟩

set_option maxHeartbeats 4000000 in
theorem specSameStock_any (b0 o0 c0 b1 o1 c1 : Nat) (xs ys : List Bk) (wf : ∀ b ∈ xs, b.Wf) (wfy : ∀ b ∈ ys, b.Wf) (w : World) (hs : SliceOf w (.slice (some ⟨b0, o0, none⟩) xs.length c0) xs) (hs1 : SliceOf w (.slice (some ⟨b1, o1, none⟩) ys.length c1) ys) (hc0 : xs.length ≤ c0) (hc1 : ys.length ≤ c1) (hn : xs.length ≤ 1048576) (hny : ys.length ≤ 1048576) :
    Calls Tryd.prog 19 #[.slice (some ⟨b0, o0, none⟩) xs.length c0, .slice (some ⟨b1, o1, none⟩) ys.length c1] w fun e w' => e = .returned (.tuple #[.bool (ssR xs ys), .int .i64 (boC xs ys)]) ∧ Below w.heap.size w w' := by
  have LB := Lib.hid (fun W (h : SliceOf W (.slice (some ⟨b0, o0, none⟩) xs.length c0) xs) (h1 : SliceOf W (.slice (some ⟨b1, o1, none⟩) ys.length c1) ys) => l07Both_any _ _ xs ys wf wfy W h h1 (by unfold maxLen; omega) (by unfold maxLen; omega))
  have LM := Lib.hid (fun W (h : SliceOf W (.slice (some ⟨b0, o0, none⟩) xs.length c0) xs) (h1 : SliceOf W (.slice (some ⟨b1, o1, none⟩) ys.length c1) ys) => l07Stock_any b0 o0 c0 _ xs ys W h h1 hc0 hn hny)
  have S0 := Lib.hid hs
  have S1 := Lib.hid hs1
  clear hs hs1 wf wfy
  by_cases hk : boC xs ys = 0
  · have E := Lib.hid (show ssR xs ys = stkB xs ys by unfold ssR; rw [if_pos hk])
    rw [hk] at LB ⊢
    clear hk
    rw [E.out]
    clear E
    generalize stkB xs ys = r at *
    go_enter Tryd.func19, Tryd.ntmps19
    go_wp2_with fail
    refine (LB.out _ S0.out S1.out).mono ?_
    rintro e w1 ⟨rfl, h1⟩
    go_wp2_with fail
    refine (LM.out _ (S0.out.below h1) (S1.out.below h1)).mono ?_
    rintro e w2 ⟨rfl, h2⟩
    go_wp2
    go_ret2
    exact ⟨rfl, bnext h1 h2⟩
  · have E := Lib.hid (show ssR xs ys = false by unfold ssR; rw [if_neg hk])
    rw [E.out]
    clear E
    generalize boC xs ys = q at *
    have hq : (q == 0) = false := by simpa using hk
    have hq2 : (q != 0) = true := by simpa using hk
    clear hk
    go_enter Tryd.func19, Tryd.ntmps19
    go_wp2_with fail
    refine (LB.out _ S0.out S1.out).mono ?_
    rintro e w1 ⟨rfl, h1⟩
    go_wp2
    go_ret2
    exact ⟨rfl, h1⟩
end Go.Proofs.YtgfffbnodinkcabDoor
