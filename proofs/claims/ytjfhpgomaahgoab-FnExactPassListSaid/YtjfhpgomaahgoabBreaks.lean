/- How many breaks a list has, by the model and by the program: contracts. Condition: numbers within their kinds, a slice no longer than can be. -/
import Derived.Test.YtjfhpgomaahgoabInOrd
import Derived.Test.YtjfhpgomaahgoabRanks
import Derived.Test.YtjfhpgomaahgoabBooksOk
namespace Go.Proofs.Ytjfhpgomaahgoab
set_option linter.unusedSimpArgs false
set_option linter.unusedVariables false
set_option maxRecDepth 100000
open Go.RowKit

def bkV (xs : List Bk) : Int := if okB xs then brks xs else 0
def bkC (xs : List Bk) : Int := if okB xs then 0 else 1
theorem ok60 {xs : List Bk} (h : okB xs = true) : xs.length ≤ 60 := by unfold okB at h; simp at h; exact h.2
def bcN (xs : List Bk) (k : Nat) : Nat := (rngI k).countP (brk xs)
theorem bcN_succ (xs : List Bk) (k : Nat) : bcN xs (k + 1) = bcN xs k + (if brk xs (k : Int) then 1 else 0) := by
  unfold bcN
  rw [rngI_succ, List.countP_append, List.countP_cons, List.countP_nil]
  omega
theorem bcN_le (xs : List Bk) : ∀ k, bcN xs k ≤ k
  | 0 => Nat.le_refl _
  | k + 1 => by have := bcN_le xs k; rw [bcN_succ]; split <;> omega
theorem brk_zero (xs : List Bk) : brk xs ((0 : Nat) : Int) = ((rk xs ((0 : Nat) : Int) : Int) != 0) := by
  unfold brk
  rw [if_pos (by simp)]
  generalize (rk xs ((0 : Nat) : Int) : Int) = r
  by_cases e : r = 0
  · subst e; rfl
  · rw [decide_eq_true e]; symm; simpa using e
theorem brk_pos (xs : List Bk) {i ip : Nat} (h : i = ip + 1) : brk xs (i : Int) = ((rk xs (i : Int) : Int) != (rk xs (ip : Int) : Int) + 1) := by
  unfold brk
  rw [if_neg (by omega), show (i : Int) - 1 = (ip : Int) by omega]
  by_cases e : (rk xs (i : Int) : Int) = (rk xs (ip : Int) : Int) + 1
  · simp [e]
  · simp [e]
theorem rksT_at {xs : List Bk} {n i : Nat} (h : i < n) : ((rksT xs n).map (Value.int .i64))[i]? = some (.int .i64 (rk xs (i : Int) : Int)) := by
  rw [List.getElem?_map, List.getElem?_eq_getElem (by rw [rksT_length]; exact h), rksT_get]
  rfl

set_option maxHeartbeats 8000000 in
theorem specBreaksOf_any (v0 : Value) (xs : List Bk) (wf : ∀ b ∈ xs, b.Wf) (w : World) (hs : SliceOf w v0 xs) (hm : xs.length ≤ maxLen) :
    Calls Try.prog 32 #[v0] w fun e w' => e = .returned (.tuple #[.int .i64 (bkV xs), .int .i64 (bkC xs)]) ∧ Below w.heap.size w w' := by
  have HS := Lib.hid hs
  have WF := Lib.hid wf
  clear hs wf
  cases h1 : okB xs
  · have E := Lib.hid (show bkV xs = 0 by unfold bkV; rw [h1]; rfl)
    have E2 := Lib.hid (show bkC xs = 1 by unfold bkC; rw [h1]; rfl)
    go_enter Try.func32, Try.ntmps32
    go_wp2_with fail
    refine (l01Ok_any v0 xs WF.out _ HS.out hm).mono ?_
    rintro e w1 ⟨rfl, g1⟩
    rw [h1]
    go_wp2
    go_ret2
    exact ⟨by rw [E.out, E2.out]; rfl, g1⟩
  · have E := Lib.hid (show bkV xs = (bcN xs xs.length : Int) by unfold bkV; rw [h1]; rfl)
    have E2 := Lib.hid (show bkC xs = 0 by unfold bkC; rw [h1]; rfl)
    have h60 := ok60 h1
    go_enter Try.func32, Try.ntmps32
    go_wp2_with fail
    refine (l01Ok_any v0 xs WF.out _ HS.out hm).mono ?_
    rintro e w1 ⟨rfl, g1⟩
    rw [h1]
    go_wp2_with fail
    refine (l03Ranks_any v0 xs WF.out _ (HS.out.below g1) h60).mono ?_
    rintro e w2 ⟨v, rfl, ho, g2⟩
    obtain ⟨A3, c3, rfl⟩ := vlen_own1 ho
    have HO := Lib.hid ho
    have G2 := Lib.hid (bnext g1 g2)
    clear ho g1 g2 h1
    go_wp2
    go_loopw [5, 6] (fun n_ i_ wr => ∃ (i n : Nat), i ≤ xs.length ∧ i_ = .int .i64 (i : Int) ∧ n_ = .int .i64 (n : Int) ∧ bcN xs i = n ∧ Below w2.heap.size w2 wr) (fun _ i_ _ => xs.length - (intOf i_).toNat)
    case atStart => exact ⟨0, 0, Nat.zero_le _, rfl, rfl, rfl, Below.refl _ _⟩
    case round =>
      obtain ⟨i, n, hi, rfl, rfl, hn, hb⟩ := hrel
      have HN := Lib.hid hn
      have hni : n ≤ i := by rw [← hn]; exact bcN_le xs i
      clear hn
      by_cases hlt : i < xs.length
      · have ho := ownBelow HO.out hb
        obtain ⟨g, c4, e4⟩ : ∃ g c, Value.slice A3 xs.length c3 = .slice (some ⟨g, 0, none⟩) xs.length c := by
          rcases ho.2 with ⟨_, h⟩ | ⟨g, cap, cur, h, _⟩
          · omega
          · exact ⟨g, cap, h⟩
        obtain ⟨rfl, rfl⟩ : A3 = some ⟨g, 0, none⟩ ∧ c3 = c4 := by cases e4; exact ⟨rfl, rfl⟩
        have zg := (ho.lt g rfl).2
        have q0 := (ho.cellAt i (by omega)).trans (rksT_at hlt)
        have SU := Lib.hid (bcN_succ xs i)
        have RL := rk_lt xs i
        by_cases hi0 : i = 0
        · subst hi0
          have EB := Lib.hid (brk_zero xs)
          generalize rk xs ((0 : Nat) : Int) = a at q0 EB RL
          have q0 := belowBy_cell zg q0
          clear ho e4
          cases ht : ((a : Int) != 0)
          · have MS := Lib.hid (show bcN xs 1 = n by rw [SU.out, EB.out, ht, HN.out]; rfl)
            go_wp2
            refine wp_region_below (by kernel_rfl) (by kernel_rfl) ?_
            repeat (first | go_big_quiet_step (fail) | quiet_step (fail))
            refine wpQuiet_nil ?_
            rintro wq ⟨⟨_, hq⟩, rfl⟩
            clear q0
            go_wp2
            go_roundw
            case rel => exact ⟨1, n, by omega, by go_num, rfl, MS.out, hb.trans (hq.mono hb.size)⟩
            case measure => simp [intOf]; omega
          · have MS := Lib.hid (show bcN xs 1 = n + 1 by rw [SU.out, EB.out, ht, HN.out]; rfl)
            go_wp2
            refine wp_region_below (by kernel_rfl) (by kernel_rfl) ?_
            repeat (first | go_big_quiet_step (fail) | quiet_step (fail))
            refine wpQuiet_nil ?_
            rintro wq ⟨⟨_, hq⟩, rfl⟩
            clear q0
            go_wp2
            go_roundw
            case rel => exact ⟨1, n + 1, by omega, by go_num, by go_num, MS.out, hb.trans (hq.mono hb.size)⟩
            case measure => simp [intOf]; omega
        · obtain ⟨ip, hip⟩ : ∃ ip, i = ip + 1 := ⟨i - 1, by omega⟩
          have q1 := (ho.cellAt ip (by omega)).trans (rksT_at (xs := xs) (show ip < xs.length by omega))
          have EB := Lib.hid (brk_pos xs hip)
          have RL2 := rk_lt xs ip
          have w1 : (i : Int) - 1 = (ip : Int) := by omega
          have d1 : ((i : Int) == 0) = false := by rw [beq_eq_false_iff_ne]; omega
          have d1' : (i == 0) = false := by simpa using hi0
          have d2 : decide (0 < i) = true := by simp; omega
          have ipl : (ip : Int) < (xs.length : Int) := by omega
          generalize rk xs (i : Int) = a at q0 EB RL
          generalize rk xs (ip : Int) = b at q1 EB RL2
          have q0 := belowBy_cell zg q0
          have q1 := belowBy_cell zg q1
          have HIP := Lib.hid hip
          clear ho e4 hip
          cases ht : ((a : Int) != (b : Int) + 1)
          · have MS := Lib.hid (show bcN xs (i + 1) = n by rw [SU.out, EB.out, ht, HN.out]; rfl)
            go_wp2
            refine wp_region_below (by kernel_rfl) (by kernel_rfl) ?_
            repeat (first | go_big_quiet_step (fail) | quiet_step (fail))
            refine wpQuiet_nil ?_
            rintro wq ⟨⟨_, hq⟩, rfl⟩
            clear q0 q1
            go_wp2
            go_roundw
            case rel => exact ⟨i + 1, n, by omega, by go_num, rfl, MS.out, hb.trans (hq.mono hb.size)⟩
            case measure => simp [intOf]; omega
          · have MS := Lib.hid (show bcN xs (i + 1) = n + 1 by rw [SU.out, EB.out, ht, HN.out]; rfl)
            go_wp2
            refine wp_region_below (by kernel_rfl) (by kernel_rfl) ?_
            repeat (first | go_big_quiet_step (fail) | quiet_step (fail))
            refine wpQuiet_nil ?_
            rintro wq ⟨⟨_, hq⟩, rfl⟩
            clear q0 q1
            go_wp2
            go_roundw
            case rel => exact ⟨i + 1, n + 1, by omega, by go_num, by go_num, MS.out, hb.trans (hq.mono hb.size)⟩
            case measure => simp [intOf]; omega
      · obtain rfl : i = xs.length := by omega
        go_wp2
        go_ret2
        exact ⟨by rw [E.out, E2.out, HN.out]; rfl, bnext G2.out hb⟩

set_option maxHeartbeats 8000000 in
theorem breaksOf_any (v0 : Value) (xs : List Bk) (wf : ∀ b ∈ xs, b.Wf) (w : World) (hs : SliceOf w v0 xs) (hm : xs.length ≤ maxLen) :
    Calls Try.prog 33 #[v0] w fun e w' => e = .returned (.tuple #[.int .i64 (bkV xs), .int .i64 (bkC xs)]) ∧ Below w.heap.size w w' := by
  have HS := Lib.hid hs
  have WF := Lib.hid wf
  clear hs wf
  cases h1 : okB xs
  · have E := Lib.hid (show bkV xs = 0 by unfold bkV; rw [h1]; rfl)
    have E2 := Lib.hid (show bkC xs = 1 by unfold bkC; rw [h1]; rfl)
    go_enter Try.func33, Try.ntmps33
    go_wp2_with fail
    refine (validBooks_any v0 xs _ HS.out hm).mono ?_
    rintro e w1 ⟨rfl, g1⟩
    rw [h1]
    go_wp2
    go_ret2
    exact ⟨by rw [E.out, E2.out]; rfl, g1⟩
  · have E := Lib.hid (show bkV xs = brks xs by unfold bkV; rw [h1]; rfl)
    have E2 := Lib.hid (show bkC xs = 0 by unfold bkC; rw [h1]; rfl)
    have EB := Lib.hid (brF_all WF.out)
    have h60 := ok60 h1
    have LEN := srt_length WF.out
    have IN := Lib.hid (fun (p : Nat) (h : p < (srt xs).length) => srt_in WF.out h)
    go_enter Try.func33, Try.ntmps33
    go_wp2_with fail
    refine (validBooks_any v0 xs _ HS.out hm).mono ?_
    rintro e w1 ⟨rfl, g1⟩
    rw [h1]
    go_wp2_with fail
    refine (sortedIndices_any v0 xs WF.out _ (HS.out.below g1) (by omega)).mono ?_
    rintro e w2 ⟨A, cap, rfl, hr, g2⟩
    obtain ⟨S, hS⟩ : ∃ S, srt xs = S := ⟨_, rfl⟩
    rw [hS] at EB LEN IN hr
    have HR := Lib.hid hr
    have G2 := Lib.hid (bnext g1 g2)
    have LEN := Lib.hid LEN
    clear hr g1 g2 h1 hS
    go_wp2
    go_loopw [4, 5, 14] (fun b_ x_ i_ wr => ∃ (i b : Nat) (x : Int), i ≤ xs.length ∧ i_ = .int .i64 (i : Int) ∧ b_ = .int .i64 (b : Int) ∧ x_ = .int .i64 x ∧ b ≤ i ∧ (b : Int) + brF xs (S.drop i) x = brks xs ∧ Below w2.heap.size w2 wr) (fun _ _ i_ _ => xs.length - (intOf i_).toNat)
    case atStart => exact ⟨0, 0, 0, Nat.zero_le _, rfl, rfl, rfl, Nat.le_refl _, by rw [List.drop_zero, EB.out]; omega, Below.refl _ _⟩
    case round =>
      obtain ⟨i, b, x, hi, rfl, rfl, rfl, hbi, hF, hb⟩ := hrel
      have HF := Lib.hid hF
      clear hF
      by_cases hlt : i < xs.length
      · obtain ⟨g, rfl, -, hri⟩ := HR.out (by omega)
        have hlS : i < S.length := by have := LEN.out; omega
        have q0 := (hri.below hb).cell i hlt
        have eS : S.getD i default = S[i] := by rw [List.getD_eq_getElem?_getD, List.getElem?_eq_getElem hlS, Option.getD_some]
        rw [eS] at q0
        have HF1 := Lib.hid (show (b : Int) + ((if S[i] ≠ x then 1 else 0) + brF xs (S.drop (i + 1)) (S[i] + 1)) = brks xs by rw [← HF.out, List.drop_eq_getElem_cons hlS, brF])
        obtain ⟨s1, s2⟩ := IN.out i hlS
        generalize S[i] = s at q0 HF1 s1 s2
        clear eS hri
        by_cases hx : s = x
        · subst hx
          have d : (s != s) = false := by simp
          have HF2 := Lib.hid (show (b : Int) + brF xs (S.drop (i + 1)) (s + 1) = brks xs by rw [← HF1.out, if_neg (by simp)]; omega)
          go_wp2
          go_roundw
          case rel => exact ⟨i + 1, b, s + 1, by omega, by go_num, rfl, by go_num, by omega, HF2.out, hb⟩
          case measure => simp [intOf]; omega
        · have d : (s != x) = true := by simpa using hx
          have HF2 := Lib.hid (show ((b + 1 : Nat) : Int) + brF xs (S.drop (i + 1)) (s + 1) = brks xs by rw [← HF1.out, if_pos hx]; omega)
          go_wp2
          go_roundw
          case rel => exact ⟨i + 1, b + 1, s + 1, by omega, by go_num, by go_num, by go_num, by omega, HF2.out, hb⟩
          case measure => simp [intOf]; omega
      · obtain rfl : i = xs.length := by omega
        have EE := Lib.hid (show (b : Int) = brks xs by rw [← HF.out, List.drop_eq_nil_of_le (by rw [LEN.out]; exact Nat.le_refl _), brF]; omega)
        go_wp2
        go_ret2
        exact ⟨by rw [E.out, E2.out, ← EE.out]; rfl, bnext G2.out hb⟩

end Go.Proofs.Ytjfhpgomaahgoab
