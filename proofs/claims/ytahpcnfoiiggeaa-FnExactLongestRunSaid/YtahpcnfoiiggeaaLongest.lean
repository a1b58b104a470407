/- The longest run, by the model and by the program: contracts. Condition: at most 1048576 books, whose numbers lie within their kinds. -/
import Derived.Test.YtahpcnfoiiggeaaFirst
namespace Go.Proofs.Ytahpcnfoiiggeaa
set_option linter.unusedSimpArgs false
set_option linter.unusedVariables false
open Go.RowKit

def lrEnd (rs : List Int) (n : Int) (k : Nat) : Int := if k + 1 < rs.length then rs.getD (k + 1) 0 else n
def lrTo (rs : List Int) (n : Int) : Nat → Int × Int
  | 0 => (0, 0)
  | k + 1 => if (lrTo rs n k).2 < lrEnd rs n k - rs.getD k 0 then (rs.getD k 0, lrEnd rs n k - rs.getD k 0) else ((lrTo rs n k).1, (lrTo rs n k).2)

def lr1 (xs : List Bk) : Int := if okB xs then (if xs.length = 0 then 0 else (lrTo (runs xs) xs.length (runs xs).length).1) else 0
def lr2 (xs : List Bk) : Int := if okB xs then (if xs.length = 0 then 0 else (lrTo (runs xs) xs.length (runs xs).length).2) else 0
def lrCode (xs : List Bk) : Int := if okB xs then (if xs.length = 0 then 6 else 0) else 1

theorem lrTo_succ (rs : List Int) (n : Int) (k : Nat) (hk : k < rs.length) :
    lrTo rs n (k + 1) = if (lrTo rs n k).2 < lrEnd rs n k - rs[k] then (rs[k], lrEnd rs n k - rs[k]) else ((lrTo rs n k).1, (lrTo rs n k).2) := by
  have e : rs.getD k 0 = rs[k] := by simp [List.getD, List.getElem?_eq_getElem hk]
  rw [lrTo, e]

theorem runsTo_bd (xs : List Bk) (k : Nat) : ∀ r ∈ runsTo xs k, 0 ≤ r ∧ r ≤ k := by
  induction k with
  | zero => intro r h; simp [runsTo] at h
  | succ k ih =>
    intro r h
    rw [runsTo, List.mem_append] at h
    rcases h with h | h
    · have := ih r h; omega
    · split at h
      · simp at h; omega
      · simp at h

theorem runs_bd (xs : List Bk) : ∀ r ∈ runs xs, 0 ≤ r ∧ r ≤ xs.length := runsTo_bd xs xs.length

set_option maxHeartbeats 4000000 in
theorem specLongestRun_any (v : Value) (xs : List Bk) (wf : ∀ b ∈ xs, b.Wf) (w : World) (hs : SliceOf w v xs) (hn : xs.length ≤ 1048576) (hm : xs.length ≤ maxLen) :
    Calls Try.prog 41 #[v] w fun e w' => e = .returned (.tuple #[.int .i64 (lr1 xs), .int .i64 (lr2 xs), .int .i64 (lrCode xs)]) ∧ Below w.heap.size w w' := by
  have HS := Lib.hid hs
  have WF := Lib.hid wf
  obtain ⟨A0, c0, rfl, -⟩ := hs
  clear wf
  cases hk : okB xs
  · have E0 := Lib.hid (show lr1 xs = 0 by unfold lr1; rw [hk]; rfl)
    have E1 := Lib.hid (show lr2 xs = 0 by unfold lr2; rw [hk]; rfl)
    have E2 := Lib.hid (show lrCode xs = 1 by unfold lrCode; rw [hk]; rfl)
    go_enter Try.func41, Try.ntmps41
    go_wp2_with fail
    refine (l01Ok_any _ xs WF.out _ HS.out hm).mono ?_
    rintro e w1 ⟨rfl, h1⟩
    rw [hk]
    go_wp2
    go_ret3
    exact ⟨by rw [E0.out, E1.out, E2.out]; rfl, h1⟩
  · have h60 : xs.length ≤ 60 := by unfold okB at hk; simp at hk; exact hk.2
    by_cases h0 : xs.length = 0
    · have E0 := Lib.hid (show lr1 xs = 0 by unfold lr1; rw [hk, if_pos rfl, h0]; rfl)
      have E1 := Lib.hid (show lr2 xs = 0 by unfold lr2; rw [hk, if_pos rfl, h0]; rfl)
      have E2 := Lib.hid (show lrCode xs = 6 by unfold lrCode; rw [hk, if_pos rfl, if_pos h0])
      have e0 : ((xs.length : Int) == 0) = true := by simp [h0]
      have HL := Lib.hid h0
      clear h0
      go_enter Try.func41, Try.ntmps41
      go_wp2_with fail
      refine (l01Ok_any _ xs WF.out _ HS.out hm).mono ?_
      rintro e w1 ⟨rfl, h1⟩
      rw [hk]
      go_wp2
      go_ret3
      exact ⟨by rw [E0.out, E1.out, E2.out]; rfl, h1⟩
    · have E0 := Lib.hid (show lr1 xs = (lrTo (runs xs) xs.length (runs xs).length).1 by unfold lr1; rw [hk, if_pos rfl, if_neg h0])
      have E1 := Lib.hid (show lr2 xs = (lrTo (runs xs) xs.length (runs xs).length).2 by unfold lr2; rw [hk, if_pos rfl, if_neg h0])
      have E2 := Lib.hid (show lrCode xs = 0 by unfold lrCode; rw [hk, if_pos rfl, if_neg h0])
      have e0 : ((xs.length : Int) == 0) = false := beq_eq_false_iff_ne.2 (by omega)
      clear h0
      have BD := Lib.hid (runs_bd xs)
      have RL := Lib.hid (show (runs xs).length ≤ xs.length from runsTo_length xs xs.length)
      go_enter Try.func41, Try.ntmps41
      go_wp2_with fail
      refine (l01Ok_any _ xs WF.out _ HS.out hm).mono ?_
      rintro e w1 ⟨rfl, h1⟩
      rw [hk]
      clear hk
      go_wp2_with fail
      refine (l01Runs_any _ xs WF.out _ (HS.out.below h1) hn).mono ?_
      rintro e w2 ⟨v2, rfl, ho, h2⟩
      obtain ⟨A, c, rfl, hI⟩ := ownsInts ho
      have HI := Lib.hid hI
      have g2 := Lib.hid (bnext h1 h2)
      clear ho hI h1 h2
      generalize runs xs = rs at E0 E1 BD RL HI ⊢
      have hrl : rs.length ≤ 60 := by have := RL.out; omega
      have hnx : (xs.length : Int) ≤ 60 := by omega
      go_wp2
      go_loopw [6, 7, 8] (fun b m i wr => ∃ k : Nat, k ≤ rs.length ∧ i = .int .i64 k ∧ b = .int .i64 (lrTo rs xs.length k).1 ∧ m = .int .i64 (lrTo rs xs.length k).2 ∧ wr = w2) (fun _ _ i _ => rs.length - (intOf i).toNat)
      case atStart => exact ⟨0, Nat.zero_le _, rfl, rfl, rfl, rfl⟩
      case round =>
        obtain ⟨k, hk, rfl, rfl, rfl, rfl⟩ := hrel
        by_cases hlt : k < rs.length
        · obtain ⟨g, o, rfl, hg, hat⟩ := HI.out (by omega)
          have c1 := hat k hlt
          obtain ⟨a0, a1⟩ := BD.out _ (List.getElem_mem hlt)
          have F := Lib.hid (lrTo_succ rs xs.length k hlt)
          generalize (lrTo rs xs.length k).1 = B at F ⊢
          generalize (lrTo rs xs.length k).2 = M at F ⊢
          by_cases hl2 : k + 1 < rs.length
          · have c2 := hat (k + 1) hl2
            obtain ⟨b0, b1⟩ := BD.out _ (List.getElem_mem hl2)
            have hl2' : (k : Int) + 1 < rs.length := by omega
            have FE := Lib.hid (show lrEnd rs xs.length k = rs[k + 1] by unfold lrEnd; rw [if_pos hl2]; simp [List.getD, List.getElem?_eq_getElem hl2])
            rw [FE.out] at F
            generalize rs[k + 1] = y at c2 b0 b1 F
            generalize rs[k] = z at c1 a0 a1 F
            clear hat FE
            by_cases hc : M < y - z
            · rw [if_pos hc] at F
              go_wp2
              go_roundw
              case rel => exact ⟨k + 1, by omega, by go_num, by rw [F.out], by rw [F.out], by first | rfl | trivial⟩
              case measure => simp [intOf]; omega
            · rw [if_neg hc] at F
              go_wp2
              go_roundw
              case rel => exact ⟨k + 1, by omega, by go_num, by rw [F.out], by rw [F.out], by first | rfl | trivial⟩
              case measure => simp [intOf]; omega
          · have hl2' : ¬ (k : Int) + 1 < rs.length := by omega
            have FE := Lib.hid (show lrEnd rs xs.length k = xs.length by unfold lrEnd; rw [if_neg hl2])
            rw [FE.out] at F
            generalize rs[k] = z at c1 a0 a1 F
            clear hat FE
            by_cases hc : M < (xs.length : Int) - z
            · rw [if_pos hc] at F
              go_wp2
              go_roundw
              case rel => exact ⟨k + 1, by omega, by go_num, by rw [F.out], by rw [F.out], by first | rfl | trivial⟩
              case measure => simp [intOf]; omega
            · rw [if_neg hc] at F
              go_wp2
              go_roundw
              case rel => exact ⟨k + 1, by omega, by go_num, by rw [F.out], by rw [F.out], by first | rfl | trivial⟩
              case measure => simp [intOf]; omega
        · obtain rfl : k = rs.length := by omega
          go_wp2
          go_ret3
          exact ⟨by rw [E0.out, E1.out, E2.out]; rfl, g2.out⟩

set_option maxHeartbeats 4000000 in
theorem longestRun_any (v : Value) (xs : List Bk) (wf : ∀ b ∈ xs, b.Wf) (w : World) (hs : SliceOf w v xs) (hn : xs.length ≤ 1048576) (hm : xs.length ≤ maxLen) :
    Calls Try.prog 42 #[v] w fun e w' => e = .returned (.tuple #[.int .i64 (lr1 xs), .int .i64 (lr2 xs), .int .i64 (lrCode xs)]) ∧ Below w.heap.size w w' := by
  have HS := Lib.hid hs
  have WF := Lib.hid wf
  obtain ⟨A0, c0, rfl, -⟩ := hs
  clear wf
  cases hk : okB xs
  · have E0 := Lib.hid (show lr1 xs = 0 by unfold lr1; rw [hk]; rfl)
    have E1 := Lib.hid (show lr2 xs = 0 by unfold lr2; rw [hk]; rfl)
    have E2 := Lib.hid (show lrCode xs = 1 by unfold lrCode; rw [hk]; rfl)
    go_enter Try.func42, Try.ntmps42
    go_wp2_with fail
    refine (validBooks_any _ xs _ HS.out hm).mono ?_
    rintro e w1 ⟨rfl, h1⟩
    rw [hk]
    go_wp2
    go_ret3
    exact ⟨by rw [E0.out, E1.out, E2.out]; rfl, h1⟩
  · have h60 : xs.length ≤ 60 := by unfold okB at hk; simp at hk; exact hk.2
    by_cases h0 : xs.length = 0
    · have E0 := Lib.hid (show lr1 xs = 0 by unfold lr1; rw [hk, if_pos rfl, h0]; rfl)
      have E1 := Lib.hid (show lr2 xs = 0 by unfold lr2; rw [hk, if_pos rfl, h0]; rfl)
      have E2 := Lib.hid (show lrCode xs = 6 by unfold lrCode; rw [hk, if_pos rfl, if_pos h0])
      have e0 : ((xs.length : Int) == 0) = true := by simp [h0]
      have HL := Lib.hid h0
      clear h0
      go_enter Try.func42, Try.ntmps42
      go_wp2_with fail
      refine (validBooks_any _ xs _ HS.out hm).mono ?_
      rintro e w1 ⟨rfl, h1⟩
      rw [hk]
      go_wp2
      go_ret3
      exact ⟨by rw [E0.out, E1.out, E2.out]; rfl, h1⟩
    · have E0 := Lib.hid (show lr1 xs = (lrTo (runs xs) xs.length (runs xs).length).1 by unfold lr1; rw [hk, if_pos rfl, if_neg h0])
      have E1 := Lib.hid (show lr2 xs = (lrTo (runs xs) xs.length (runs xs).length).2 by unfold lr2; rw [hk, if_pos rfl, if_neg h0])
      have E2 := Lib.hid (show lrCode xs = 0 by unfold lrCode; rw [hk, if_pos rfl, if_neg h0])
      have e0 : ((xs.length : Int) == 0) = false := beq_eq_false_iff_ne.2 (by omega)
      clear h0
      have BD := Lib.hid (runs_bd xs)
      have RL := Lib.hid (show (runs xs).length ≤ xs.length from runsTo_length xs xs.length)
      go_enter Try.func42, Try.ntmps42
      go_wp2_with fail
      refine (validBooks_any _ xs _ HS.out hm).mono ?_
      rintro e w1 ⟨rfl, h1⟩
      rw [hk]
      clear hk
      go_wp2_with fail
      refine (runsOf_any _ xs WF.out _ (HS.out.below h1) hn).mono ?_
      rintro e w2 ⟨v2, rfl, ho, h2⟩
      obtain ⟨A, c, rfl, hI⟩ := ownsInts ho
      have HI := Lib.hid hI
      have g2 := Lib.hid (bnext h1 h2)
      clear ho hI h1 h2
      generalize runs xs = rs at E0 E1 BD RL HI ⊢
      have hrl : rs.length ≤ 60 := by have := RL.out; omega
      have hnx : (xs.length : Int) ≤ 60 := by omega
      go_wp2
      go_loopw [6, 7, 21] (fun b m i wr => ∃ k : Nat, k ≤ rs.length ∧ i = .int .i64 k ∧ b = .int .i64 (lrTo rs xs.length k).1 ∧ m = .int .i64 (lrTo rs xs.length k).2 ∧ wr = w2) (fun _ _ i _ => rs.length - (intOf i).toNat)
      case atStart => exact ⟨0, Nat.zero_le _, rfl, rfl, rfl, rfl⟩
      case round =>
        obtain ⟨k, hk, rfl, rfl, rfl, rfl⟩ := hrel
        by_cases hlt : k < rs.length
        · obtain ⟨g, o, rfl, hg, hat⟩ := HI.out (by omega)
          have c1 := hat k hlt
          obtain ⟨a0, a1⟩ := BD.out _ (List.getElem_mem hlt)
          have F := Lib.hid (lrTo_succ rs xs.length k hlt)
          generalize (lrTo rs xs.length k).1 = B at F ⊢
          generalize (lrTo rs xs.length k).2 = M at F ⊢
          by_cases hl2 : k + 1 < rs.length
          · have c2 := hat (k + 1) hl2
            obtain ⟨b0, b1⟩ := BD.out _ (List.getElem_mem hl2)
            have hl2' : (k : Int) + 1 < rs.length := by omega
            have FE := Lib.hid (show lrEnd rs xs.length k = rs[k + 1] by unfold lrEnd; rw [if_pos hl2]; simp [List.getD, List.getElem?_eq_getElem hl2])
            rw [FE.out] at F
            generalize rs[k + 1] = y at c2 b0 b1 F
            generalize rs[k] = z at c1 a0 a1 F
            clear hat FE
            by_cases hc : M < y - z
            · rw [if_pos hc] at F
              go_wp2
              go_roundw
              case rel => exact ⟨k + 1, by omega, by go_num, by rw [F.out], by rw [F.out], by first | rfl | trivial⟩
              case measure => simp [intOf]; omega
            · rw [if_neg hc] at F
              go_wp2
              go_roundw
              case rel => exact ⟨k + 1, by omega, by go_num, by rw [F.out], by rw [F.out], by first | rfl | trivial⟩
              case measure => simp [intOf]; omega
          · have hl2' : ¬ (k : Int) + 1 < rs.length := by omega
            have FE := Lib.hid (show lrEnd rs xs.length k = xs.length by unfold lrEnd; rw [if_neg hl2])
            rw [FE.out] at F
            generalize rs[k] = z at c1 a0 a1 F
            clear hat FE
            by_cases hc : M < (xs.length : Int) - z
            · rw [if_pos hc] at F
              go_wp2
              go_roundw
              case rel => exact ⟨k + 1, by omega, by go_num, by rw [F.out], by rw [F.out], by first | rfl | trivial⟩
              case measure => simp [intOf]; omega
            · rw [if_neg hc] at F
              go_wp2
              go_roundw
              case rel => exact ⟨k + 1, by omega, by go_num, by rw [F.out], by rw [F.out], by first | rfl | trivial⟩
              case measure => simp [intOf]; omega
        · obtain rfl : k = rs.length := by omega
          go_wp2
          go_ret3
          exact ⟨by rw [E0.out, E1.out, E2.out]; rfl, g2.out⟩

end Go.Proofs.Ytahpcnfoiiggeaa
