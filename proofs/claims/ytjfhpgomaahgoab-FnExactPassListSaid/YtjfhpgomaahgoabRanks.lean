/- The ranks of books, by the model: a contract. Condition: at most 60 books, whose numbers lie within their kinds. -/
import Derived.Test.YtjfhpgomaahgoabIdx
import Derived.Test.YtjfhpgomaahgoabFields
import Derived.Test.YtjfhpgomaahgoabOwn
import Derived.Test.YtjfhpgomaahgoabNums
namespace Go.Proofs.Ytjfhpgomaahgoab
set_option linter.unusedSimpArgs false
set_option linter.unusedVariables false
set_option maxRecDepth 100000
open Go.RowKit

theorem infoRk : (Try.prog.info? 2).map (fun i => (i.zero, i.size, i.bytes)) = some (some (.int .i64 0), 1, 8) := by kernel_rfl
def rkN (xs : List Bk) (i : Nat) : Nat → Nat
  | 0 => 0
  | k + 1 => rkN xs i k + (if LI xs (k : Int) (i : Int) then 1 else 0)
theorem rngI_succ (n : Nat) : rngI (n + 1) = rngI n ++ [(n : Int)] := by unfold rngI; rw [List.range_succ, List.map_append]; rfl
theorem rkN_eq (xs : List Bk) (i : Nat) : ∀ k, rkN xs i k = (rngI k).countP (fun j => decide (LI xs j i))
  | 0 => rfl
  | k + 1 => by
    rw [rkN, rkN_eq xs i k, rngI_succ, List.countP_append, List.countP_cons, List.countP_nil]
    by_cases h : LI xs (k : Int) (i : Int)
    · simp [h]
    · simp [h]
theorem rkN_le (xs : List Bk) (i : Nat) : ∀ k, rkN xs i k ≤ k
  | 0 => Nat.le_refl _
  | k + 1 => by have := rkN_le xs i k; rw [rkN]; split <;> omega
def rksT (xs : List Bk) (i : Nat) : List Int := (List.range i).map (fun j : Nat => (rk xs j : Int))
theorem rksT_succ (xs : List Bk) (i : Nat) : rksT xs (i + 1) = rksT xs i ++ [(rk xs i : Int)] := by unfold rksT; rw [List.range_succ, List.map_append]; rfl
theorem rksT_length (xs : List Bk) (i : Nat) : (rksT xs i).length = i := by simp [rksT]
theorem rksT_get {xs : List Bk} {n i : Nat} (h : i < (rksT xs n).length) : (rksT xs n)[i] = (rk xs i : Int) := by simp [rksT]
theorem rk_lt (xs : List Bk) (i : Nat) : rk xs i ≤ xs.length := by
  have := rkN_le xs i xs.length
  rw [rkN_eq] at this
  exact this
theorem LI_usual {xs : List Bk} (wf : ∀ b ∈ xs, b.Wf) {k i : Nat} (hk : k < xs.length) (hi : i < xs.length) : LI xs k i ↔ (usual xs[k] xs[i] < 0 ∨ (usual xs[k] xs[i] = 0 ∧ k < i)) := by
  have e := usual_key xs[k] xs[i] (wf _ (List.getElem_mem hk)) (wf _ (List.getElem_mem hi))
  unfold LI kU
  rw [Int.toNat_natCast, Int.toNat_natCast, getD_nth hk, getD_nth hi, e]
  unfold sgn
  split
  · omega
  · split <;> omega

set_option maxHeartbeats 8000000 in
theorem l03Ranks_any (v0 : Value) (xs : List Bk) (wf : ∀ b ∈ xs, b.Wf) (w : World) (hs : SliceOf w v0 xs) (h60 : xs.length ≤ 60) :
    Calls Try.prog 75 #[v0] w fun e w' => ∃ v, e = .returned v ∧ w'.ownsRow w.heap.size 2 1 v xs.length ((rksT xs xs.length).map (Value.int .i64)) ∧ Below w.heap.size w w' := by
  obtain ⟨A, c, rfl, hs⟩ := hs
  obtain ⟨i0, hi0, hz0, hz1, hz2⟩ := info_parts infoRk
  have HS := Lib.hid hs
  have WF := Lib.hid wf
  have H0 := Lib.hid (show (w.alloc (.cells #[] 2)).ownsRow w.heap.size 2 1 (.slice (some ⟨w.heap.size, 0, none⟩) 0 0) 0 ((rksT xs 0).map (Value.int .i64)) from
    ⟨rfl, .inr ⟨w.heap.size, 0, #[], rfl, Nat.le_refl _, heap_alloc_new w _, Nat.le_refl _, Nat.zero_le _, rfl, rfl⟩⟩)
  clear hs wf
  go_enter Try.func75, Try.ntmps75
  go_wp2
  go_loopw [3, 4] (fun v_ i_ wr => ∃ i : Nat, i ≤ xs.length ∧ i_ = .int .i64 (i : Int) ∧ wr.ownsRow w.heap.size 2 1 v_ i ((rksT xs i).map (Value.int .i64)) ∧ Below w.heap.size w wr) (fun _ i_ _ => xs.length - (intOf i_).toNat)
  case atStart => exact ⟨0, Nat.zero_le _, rfl, H0.out, (Below.refl _ _).alloc (Nat.le_refl _) _⟩
  case round =>
    obtain ⟨i, hi, rfl, hown, hb⟩ := hrel
    have OW := Lib.hid hown
    obtain ⟨A3, c3, rfl⟩ := vlen_own1 hown
    clear hown
    by_cases hlt : i < xs.length
    · obtain ⟨ga, oa, rfl, hga, hat⟩ := HS.out (by omega)
      have HAT := Lib.hid hat
      clear hat
      obtain ⟨wo, rfl⟩ : ∃ wo : World, wo = wr := ⟨_, rfl⟩
      go_wp2
      go_loopw [5, 6] (fun n_ k_ wr => ∃ (k m : Nat), k ≤ xs.length ∧ k_ = .int .i64 (k : Int) ∧ n_ = .int .i64 (m : Int) ∧ rkN xs i k = m ∧ wr.ownsRow w.heap.size 2 1 (.slice A3 i c3) i ((rksT xs i).map (Value.int .i64)) ∧ Below w.heap.size w wr) (fun _ k_ _ => xs.length - (intOf k_).toNat)
      case atStart => exact ⟨0, 0, Nat.zero_le _, rfl, rfl, rfl, OW.out, hb⟩
      case round =>
        obtain ⟨k, m, hk, rfl, rfl, hm, hown, hb⟩ := hrel
        have OW1 := Lib.hid hown
        have hmk : m ≤ k := by rw [← hm]; exact rkN_le xs i k
        have HM := Lib.hid hm
        have zg := Nat.lt_of_lt_of_le hga hb.size
        clear hm
        by_cases hki : k < xs.length
        · have A1 := Lib.hid ((HAT.out.below hb hga).at_ zg hlt)
          have A0 := Lib.hid ((HAT.out.below hb hga).at_ zg hki)
          have PE := Lib.hid (LI_usual WF.out hki hlt)
          have MS := Lib.hid (show rkN xs i (k + 1) = m + (if LI xs (k : Int) (i : Int) then 1 else 0) by rw [rkN, HM.out])
          clear hown
          go_wp2
          refine wp_region_below (by kernel_rfl) (by kernel_rfl) ?_
          repeat (first | go_big_quiet_step ((go_at_call 106; exact calls_below (l01Usual_any xs[k] xs[i] (WF.out _ (List.getElem_mem _)) (WF.out _ (List.getElem_mem _)) _ _ _ _ _ (A0.out.next (BelowBy.h _)) (A1.out.next (BelowBy.h _))))) | quiet_step ((go_at_call 106; exact calls_below (l01Usual_any xs[k] xs[i] (WF.out _ (List.getElem_mem _)) (WF.out _ (List.getElem_mem _)) _ _ _ _ _ (A0.out.next (BelowBy.h _)) (A1.out.next (BelowBy.h _))))))
          refine wpQuiet_nil ?_
          rintro wq ⟨⟨_, hq⟩, rfl⟩
          have g1 := hb.trans (hq.mono hb.size)
          have OW2 := Lib.hid (ownBelow OW1.out hq)
          generalize usual xs[k] xs[i] = r at PE ⊢
          by_cases r1 : r < 0
          · have d1 : decide (r < 0) = true := by simpa using r1
            have MS2 := Lib.hid (show rkN xs i (k + 1) = m + 1 by rw [MS.out, if_pos (PE.out.2 (.inl r1))])
            go_wp2
            go_roundw
            case rel => exact ⟨k + 1, m + 1, by omega, by go_num, by go_num, MS2.out, OW2.out, g1⟩
            case measure => simp [intOf]; omega
          · have d1 : decide (r < 0) = false := by simpa using r1
            by_cases r2 : r = 0
            · have d2 : (r == 0) = true := by simpa using r2
              by_cases r3 : k < i
              · have d3 : decide (k < i) = true := by simpa using r3
                have MS2 := Lib.hid (show rkN xs i (k + 1) = m + 1 by rw [MS.out, if_pos (PE.out.2 (.inr ⟨r2, r3⟩))])
                subst r2
                go_wp2
                go_roundw
                case rel => exact ⟨k + 1, m + 1, by omega, by go_num, by go_num, MS2.out, OW2.out, g1⟩
                case measure => simp [intOf]; omega
              · have d3 : decide (k < i) = false := by simpa using r3
                have MS2 := Lib.hid (show rkN xs i (k + 1) = m by rw [MS.out, if_neg (fun h => by have := PE.out.1 h; omega)]; rfl)
                subst r2
                go_wp2
                go_roundw
                case rel => exact ⟨k + 1, m, by omega, by go_num, rfl, MS2.out, OW2.out, g1⟩
                case measure => simp [intOf]; omega
            · have d2 : (r == 0) = false := by simpa using r2
              have MS2 := Lib.hid (show rkN xs i (k + 1) = m by rw [MS.out, if_neg (fun h => by have := PE.out.1 h; omega)]; rfl)
              go_wp2
              go_roundw
              case rel => exact ⟨k + 1, m, by omega, by go_num, rfl, MS2.out, OW2.out, g1⟩
              case measure => simp [intOf]; omega
        · obtain rfl : k = xs.length := by omega
          have CS := Lib.hid (show rksT xs (i + 1) = rksT xs i ++ [(m : Int)] by rw [rksT_succ, ← HM.out, rkN_eq]; rfl)
          have hsz := hb.size
          have hlen := rksT_length xs i
          clear hown
          go_wp2_with (at_builtin; refine wpList_append_own _ rfl (.tmp 41) (.tmp 43) _ rfl w.heap.size 2 i0 (.int .i64 0) 1 8 Try.underlying53 hi0 hz0 hz1 hz2 rfl (by decide) _ _ _ rfl (OW1.out.alloc _) ⟨wr.heap.size, 0, none⟩ 1 1 [.int .i64 (m : Int)] rfl rfl ?c1 ?c2 ?c3 ?c4 ?c5 ?_)
          case c1 => exact cell_one_new _ _ _
          case c2 => (intro u hu; simp at hu; subst hu; rfl)
          case c3 => (unfold maxLen; omega)
          case c4 => omega
          case c5 => (simp; omega)
          intro v' w4 hown' hgrow' _
          have OW' := Lib.hid hown'
          have g4 : Below w.heap.size w w4 := (hb.alloc hsz _).grown hgrow' (by simp; omega) (fun k hk => (OW1.out.lt k hk).1)
          clear hown' hgrow'
          go_wp2
          go_roundw
          case rel => exact ⟨i + 1, by omega, by go_num, by rw [CS.out]; simpa using OW'.out, g4⟩
          case measure => simp [intOf]; omega
    · obtain rfl : i = xs.length := by omega
      go_wp2
      go_ret
      exact ⟨_, rfl, OW.out, hb⟩

end Go.Proofs.Ytjfhpgomaahgoab
