/- The longest lists that can be kept, by the model: contracts. Condition: at most 60 books, whose numbers lie within their kinds. -/
import Derived.Test.YtonclaakaaidlaaLongs
import Derived.Test.YtonclaakaaidlaaMax
namespace Go.Proofs.Ytonclaakaaidlaa
set_option linter.unusedSimpArgs false
set_option linter.unusedVariables false
set_option maxRecDepth 100000
open Go.RowKit

theorem own_slice {w : World} {base : Nat} {e : TypeId} {v : Value} {n : Nat} {l : List Value} (h : w.ownsRow base e 1 v n l) (hn : 0 < n) : ∃ g c, v = .slice (some ⟨g, 0, none⟩) n c := by
  rcases h.2 with ⟨_, h⟩ | ⟨g, cap, cur, h, _⟩
  · omega
  · exact ⟨g, cap, h⟩
theorem chains_at (P : Nat → Nat → Bool) {i k : Nat} (h : k < i) : ((chains P i).map (Value.int .i64))[k]? = some (.int .i64 ((chains P i).getD k 0)) := by
  rw [List.getElem?_map, List.getD_eq_getElem?_getD, List.getElem?_eq_getElem (by rw [chains_length]; exact h)]
  rfl

set_option maxHeartbeats 8000000 in
theorem l03Longest_any (v0 : Value) (xs : List Bk) (wf : ∀ b ∈ xs, b.Wf) (w : World) (hs : SliceOf w v0 xs) (h60 : xs.length ≤ 60) :
    Calls Try.prog 63 #[v0] w fun e w' => ∃ v, e = .returned v ∧ w'.ownsRow w.heap.size 2 1 v (labs xs).length ((labs xs).map (Value.int .i64)) ∧ Below w.heap.size w w' := by
  obtain ⟨A, c, rfl, hs⟩ := hs
  obtain ⟨i0, hi0, hz0, hz1, hz2⟩ := info_parts infoInt64
  have HS := Lib.hid hs
  have WF := Lib.hid wf
  have H0 := Lib.hid (show (w.alloc (.cells #[] 2)).ownsRow w.heap.size 2 1 (.slice (some ⟨w.heap.size, 0, none⟩) 0 0) 0 ((chains (leP xs) 0).map (Value.int .i64)) from
    ⟨rfl, .inr ⟨w.heap.size, 0, #[], rfl, Nat.le_refl _, heap_alloc_new w _, Nat.le_refl _, Nat.zero_le _, rfl, rfl⟩⟩)
  clear hs wf
  go_enter Try.func63, Try.ntmps63
  go_wp2
  go_loopw [3, 4] (fun v_ i_ wr => ∃ i : Nat, i ≤ xs.length ∧ i_ = .int .i64 (i : Int) ∧ wr.ownsRow w.heap.size 2 1 v_ i ((chains (leP xs) i).map (Value.int .i64)) ∧ Below w.heap.size w wr) (fun _ i_ _ => xs.length - (intOf i_).toNat)
  case atStart => exact ⟨0, Nat.zero_le _, rfl, H0.out, (Below.refl _ _).alloc (Nat.le_refl _) _⟩
  case round =>
    obtain ⟨i, hi, rfl, hown, hb⟩ := hrel
    have OW := Lib.hid hown
    obtain ⟨A3, c3, rfl⟩ := vlen_own1 hown
    clear hown
    by_cases hlt : i < xs.length
    · obtain ⟨ga, oa, rfl, hga, hat⟩ := HS.out (by omega)
      have HAT := Lib.hid hat
      clear hat
      obtain ⟨wo, rfl⟩ : ∃ wo : World, wo = wr := ⟨_, rfl⟩
      go_wp2
      go_loopw [5, 6] (fun n_ k_ wr => ∃ k : Nat, k ≤ i ∧ k_ = .int .i64 (k : Int) ∧ n_ = .int .i64 (mostTo (leP xs i) (chains (leP xs) i) k) ∧ wr.ownsRow w.heap.size 2 1 (.slice A3 i c3) i ((chains (leP xs) i).map (Value.int .i64)) ∧ Below w.heap.size w wr) (fun _ k_ _ => i - (intOf k_).toNat)
      case atStart => exact ⟨0, Nat.zero_le _, rfl, rfl, OW.out, hb⟩
      case round =>
        obtain ⟨k, hk, rfl, rfl, hown, hb⟩ := hrel
        have OW1 := Lib.hid hown
        have hd := mostTo_bd (leP xs i) (chains (leP xs) i) i (by omega) (fun k => (chains_bd (leP xs) i k).2) k
        have zg := Nat.lt_of_lt_of_le hga hb.size
        by_cases hki : k < i
        · have hkx : k < xs.length := by omega
          have A1 := Lib.hid ((HAT.out.below hb hga).at_ zg hlt)
          have A0 := Lib.hid ((HAT.out.below hb hga).at_ zg hkx)
          obtain ⟨g, c4, e4⟩ := own_slice hown (by omega)
          obtain ⟨rfl, rfl⟩ : A3 = some ⟨g, 0, none⟩ ∧ c3 = c4 := by cases e4; exact ⟨rfl, rfl⟩
          have PE := Lib.hid (leP_ge WF.out hlt hkx)
          have MS := Lib.hid (show mostTo (leP xs i) (chains (leP xs) i) (k + 1) = if leP xs i k then max (mostTo (leP xs i) (chains (leP xs) i) k) ((chains (leP xs) i).getD k 0) else mostTo (leP xs i) (chains (leP xs) i) k from rfl)
          have b2 := chains_bd (leP xs) i k
          have CA := Lib.hid (chains_at (leP xs) hki)
          clear hown
          go_wp2
          refine wp_region_below (by kernel_rfl) (by kernel_rfl) ?_
          repeat (first | go_big_quiet_step ((go_at_call 97; exact calls_below (l01Usual_any xs[i] xs[k] (WF.out _ (List.getElem_mem _)) (WF.out _ (List.getElem_mem _)) _ _ _ _ _ (A1.out.next (BelowBy.h _)) (A0.out.next (BelowBy.h _))))) | quiet_step ((go_at_call 97; exact calls_below (l01Usual_any xs[i] xs[k] (WF.out _ (List.getElem_mem _)) (WF.out _ (List.getElem_mem _)) _ _ _ _ _ (A1.out.next (BelowBy.h _)) (A0.out.next (BelowBy.h _))))))
          refine wpQuiet_nil ?_
          rintro wq ⟨⟨_, hq⟩, rfl⟩
          have g1 := hb.trans (hq.mono hb.size)
          have OW2 := Lib.hid (ownsBelow OW1.out hq)
          generalize usual xs[i] xs[k] = r at PE ⊢
          generalize mostTo (leP xs i) (chains (leP xs) i) k = M at *
          cases ho : leP xs i k
          · have hr : r < 0 := by have h := PE.out.symm.trans ho; have := of_decide_eq_false h; omega
            have HH := Lib.hid ho
            have MS2 := Lib.hid (show mostTo (leP xs i) (chains (leP xs) i) (k + 1) = M by rw [MS.out, ho]; rfl)
            clear ho
            go_wp2
            go_roundw
            case rel => exact ⟨k + 1, by omega, by go_num, by rw [MS2.out], OW2.out, g1⟩
            case measure => simp [intOf]; omega
          · have hr : 0 ≤ r := by have h := PE.out.symm.trans ho; exact of_decide_eq_true h
            have c1 := (OW2.out.cellAt k (by omega)).trans CA.out
            have MS2 := Lib.hid (show mostTo (leP xs i) (chains (leP xs) i) (k + 1) = max M ((chains (leP xs) i).getD k 0) by rw [MS.out, ho]; rfl)
            generalize (chains (leP xs) i).getD k 0 = C at *
            have MX := Lib.hid (show (if M < C then C else M) = max M C by rw [Int.max_def]; split <;> split <;> omega)
            have n0 : ∀ W, Calls Try.prog 98 #[.int .i64 M, .int .i64 C] W fun e w' => e = .returned (.int .i64 (max M C)) ∧ W = w' := fun W => l00Max_any M C _ MX.out W
            have N0 := Lib.hid n0
            clear ho n0
            generalize max M C = X at *
            go_wp2_with fail
            refine (N0.out _).mono ?_
            rintro e w9 ⟨rfl, rfl⟩
            go_wp2
            go_roundw
            case rel => exact ⟨k + 1, by omega, by go_num, by rw [MS2.out], OW2.out, g1⟩
            case measure => simp [intOf]; omega
        · obtain rfl : k = i := by omega
          have CS := Lib.hid (show chains (leP xs) (k + 1) = chains (leP xs) k ++ [mostTo (leP xs k) (chains (leP xs) k) k + 1] from rfl)
          generalize mostTo (leP xs k) (chains (leP xs) k) k = M at *
          have wr1 : IntKind.i64.wrap (M + 1) = M + 1 := IntWalk.i64_in _ (by omega)
          have hsz := hb.size
          have hlen := chains_length (leP xs) k
          clear hown
          go_wp2_with (at_builtin; refine wpList_append_own _ rfl (.tmp 33) (.tmp 36) _ rfl w.heap.size 2 i0 (.int .i64 0) 1 8 Try.underlying24 hi0 hz0 hz1 hz2 rfl (by decide) _ _ _ rfl (OW1.out.alloc _) ⟨wr.heap.size, 0, none⟩ 1 1 [.int .i64 (M + 1)] rfl rfl ?c1 ?c2 ?c3 ?c4 ?c5 ?_)
          case c1 => exact cell_one_new _ _ _
          case c2 => (intro u hu; simp at hu; subst hu; rfl)
          case c3 => (unfold maxLen; omega)
          case c4 => omega
          case c5 => (simp; omega)
          intro v' w4 hown' hgrow' _
          have OW' := Lib.hid hown'
          have g4 : Below w.heap.size w w4 := (hb.alloc hsz _).grown hgrow' (by simp; omega) (fun k hk => (OW1.out.lt k hk).1)
          clear hown' hgrow'
          go_wp2
          go_roundw
          case rel => exact ⟨k + 1, by omega, by go_num, by rw [CS.out]; simpa using OW'.out, g4⟩
          case measure => simp [intOf]; omega
    · obtain rfl : i = xs.length := by omega
      go_wp2
      go_ret
      exact ⟨_, rfl, by unfold labs; rw [chains_length]; exact OW.out, hb⟩

end Go.Proofs.Ytonclaakaaidlaa
