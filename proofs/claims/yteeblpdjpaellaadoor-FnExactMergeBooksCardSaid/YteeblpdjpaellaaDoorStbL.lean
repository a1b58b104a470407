/- The library's stable sort of books, whole: a contract over the comparison's. Condition: at most 1048576 books in a block of their own. -/
import Derived.Test.YteeblpdjpaellaaDoorStbK
namespace Go.Proofs.YteeblpdjpaellaaDoor
set_option linter.unusedSimpArgs false
set_option linter.unusedVariables false
set_option maxRecDepth 100000
open Go.RowKit Stab

set_option maxHeartbeats 16000000 in
theorem stable_any (g n cap bx : Nat) (ok : Bk → Prop) (cf : Bk → Bk → Int) (l : List Bk) (w0 w : World) (h : RowO cap ok w g n l) (h0 : w0.grownBy w (some g)) (hc : CmpI g bx w0 ok cf) (hn : n ≤ 1048576) :
    Calls Tryd.prog 82 #[.slice (some ⟨g, 0, none⟩) n cap, .int .i64 (n : Int), .func (.func 68) #[] #[.pointer (some ⟨bx, 0, none⟩)]] w fun e w' => e = .returned (.tuple #[]) ∧ RowO cap ok w' g n (stableF (ltC cf) l) ∧ w.grownBy w' (some g) := by
  have hln := h.1.1
  have HR := Lib.hid h
  have H0 := Lib.hid h0
  have HC := Lib.hid hc
  clear h h0 hc
  have HT := Lib.hid (show ∃ T, blk1 (ltC cf) (n + 1) l 0 20 n = T from ⟨_, rfl⟩)
  obtain ⟨T1, hT1⟩ := HT.out
  have HU := Lib.hid (show ∃ T, mrg2 (ltC cf) (n + 1) T1 20 n = T from ⟨_, rfl⟩)
  obtain ⟨T2, hT2⟩ := HU.out
  rw [show stableF (ltC cf) l = T2 by unfold stableF; rw [hln, hT1, hT2]]
  have HT := Lib.hid hT1
  have HU := Lib.hid hT2
  clear hT1 hT2 hln
  go_enter Tryd.func82, Tryd.ntmps82
  go_wp2
  go_loopw [7, 8] (fun a_ b_ wr => ∃ (a b f : Nat) (l1 : List Bk), a_ = .int .i64 (a : Int) ∧ b_ = .int .i64 (b : Int) ∧ b = a + 20 ∧ a ≤ n ∧ n < a + f ∧ blk1 (ltC cf) f l1 a b n = T1 ∧ RowO cap ok wr g n l1 ∧ w.grownBy wr (some g)) (fun a_ _ _ => n - (intOf a_).toNat)
  case atStart => exact ⟨0, 20, n + 1, l, rfl, rfl, rfl, Nat.zero_le _, by omega, HT.out, HR.out, World.grownBy.refl w _⟩
  case round =>
    obtain ⟨a, b, f, l1, rfl, rfl, hb, ha, hf, hS, hr, hg⟩ := hrel
    obtain ⟨f', rfl⟩ : ∃ f', f = f' + 1 := ⟨f - 1, by omega⟩
    have HG := Lib.hid hg
    have HW := Lib.hid hr
    have HS := Lib.hid hS
    have HBB := Lib.hid hb
    have HF := Lib.hid hf
    have hb1 : b ≤ 1048596 := by omega
    have ab : a < b := by omega
    clear hg hr hS hb hf
    by_cases hlt : b ≤ n
    · have HS2 := Lib.hid (show blk1 (ltC cf) f' (insF (ltC cf) l1 a b) b (b + 20) n = T1 by rw [← HS.out, blk1, if_pos hlt])
      have CC := Lib.hid (ins_any g n cap a b bx ok cf l1 w0 wr HW.out (H0.out.trans HG.out) HC.out ha hlt hn)
      go_wp2_with fail
      refine (CC.out).mono ?_
      rintro e w1 ⟨rfl, h1, g1⟩
      have H1 := Lib.hid h1
      have G1 := Lib.hid (HG.out.trans g1)
      clear h1 g1
      go_wp2
      go_roundw
      case rel => exact ⟨b, b + 20, f', _, rfl, by go_num, rfl, hlt, by have := HF.out; omega, HS2.out, H1.out, G1.out⟩
      case measure => simp [intOf]; omega
    · have HS2 := Lib.hid (show insF (ltC cf) l1 a n = T1 by rw [← HS.out, blk1, if_neg hlt])
      have CC := Lib.hid (ins_any g n cap a n bx ok cf l1 w0 wr HW.out (H0.out.trans HG.out) HC.out ha (Nat.le_refl _) hn)
      rw [HS2.out] at CC
      go_wp2_with fail
      refine (CC.out).mono ?_
      rintro e w1 ⟨rfl, h1, g1⟩
      have H1 := Lib.hid h1
      have G1 := Lib.hid (HG.out.trans g1)
      clear h1 g1 CC
      go_wp2
      go_loopw [6, 7, 8, 9] (fun s_ _ _ _ wr => ∃ (s f : Nat) (l2 : List Bk), s_ = .int .i64 (s : Int) ∧ 0 < s ∧ s ≤ 2097152 ∧ n < s + f ∧ mrg2 (ltC cf) f l2 s n = T2 ∧ RowO cap ok wr g n l2 ∧ w.grownBy wr (some g)) (fun s_ _ _ _ _ => n - (intOf s_).toNat)
      case atStart => exact ⟨20, n + 1, T1, rfl, by omega, by omega, by omega, HU.out, H1.out, G1.out⟩
      case round =>
        obtain ⟨s, f2, l2, rfl, hs0, hs1, hf2, hS3, hr3, hg3⟩ := hrel
        have HG3 := Lib.hid hg3
        have HW3 := Lib.hid hr3
        have HS3 := Lib.hid hS3
        clear hg3 hr3 hS3
        by_cases hlt2 : s < n
        · obtain ⟨f2', rfl⟩ : ∃ f2', f2 = f2' + 1 := ⟨f2 - 1, by omega⟩
          have HX := Lib.hid (show ∃ T, mrg1 (ltC cf) s (n + 1) l2 0 (2 * s) n = T from ⟨_, rfl⟩)
          obtain ⟨T3, hT3⟩ := HX.out
          have HS4 := Lib.hid (show mrg2 (ltC cf) f2' T3 (s * 2) n = T2 by rw [← HS3.out, mrg2, if_pos hlt2, hT3])
          have HX := Lib.hid hT3
          clear hT3
          obtain ⟨s2, hs2⟩ : ∃ s2 : Nat, s2 = 2 * s := ⟨_, rfl⟩
          have e1 : 2 * (s : Int) = (s2 : Int) := by omega
          have e2 : (s : Int) * 2 = (s2 : Int) := by omega
          rw [← hs2] at HX
          rw [show s * 2 = s2 by omega] at HS4
          have hs3 : s2 ≤ 2097152 := by omega
          have HS22 := Lib.hid hs2
          have hss : s < s2 := by omega
          clear hs2
          go_wp2
          go_loopw [7, 8] (fun a_ b_ wr => ∃ (a b f : Nat) (l3 : List Bk), a_ = .int .i64 (a : Int) ∧ b_ = .int .i64 (b : Int) ∧ b = a + s2 ∧ a ≤ n ∧ n < a + f ∧ mrg1 (ltC cf) s f l3 a b n = T3 ∧ RowO cap ok wr g n l3 ∧ w.grownBy wr (some g)) (fun a_ _ _ => n - (intOf a_).toNat)
          case atStart => exact ⟨0, s2, n + 1, l2, rfl, rfl, by omega, Nat.zero_le _, by omega, HX.out, HW3.out, HG3.out⟩
          case round =>
            obtain ⟨a, b, f3, l3, rfl, rfl, hb, ha, hf3, hS5, hr5, hg5⟩ := hrel
            obtain ⟨f3', rfl⟩ : ∃ f3', f3 = f3' + 1 := ⟨f3 - 1, by omega⟩
            have HG5 := Lib.hid hg5
            have HW5 := Lib.hid hr5
            have HS5 := Lib.hid hS5
            have HBB := Lib.hid hb
            have HF3 := Lib.hid hf3
            have hb1 : b ≤ 4194304 := by omega
            have ab : a < b := by omega
            clear hg5 hr5 hS5
            obtain ⟨m, hm⟩ : ∃ m : Nat, m = a + s := ⟨_, rfl⟩
            have e3 : (a : Int) + (s : Int) = (m : Int) := by omega
            have am : a < m := by omega
            have mb : m < b := by omega
            have HM := Lib.hid hm
            clear hb hf3
            by_cases hlt3 : b ≤ n
            · have HS6 := Lib.hid (show mrg1 (ltC cf) s f3' (symF (ltC cf) (b - a) l3 a m b) b (b + s2) n = T3 by rw [← HS5.out, mrg1, if_pos hlt3, hm, HS22.out])
              have CC := Lib.hid (sym_any g n cap bx ok cf w0 HC.out hn (b - a) a m b l3 wr (Nat.le_refl _) am mb hlt3 HW5.out (H0.out.trans HG5.out))
              have e4 : IntKind.i64.wrap ((b : Int) + (s2 : Int)) = (b : Int) + (s2 : Int) := IntWalk.i64_in _ (by omega)
              have hm1 : m ≤ 2097152 := by omega
              clear hm
              go_wp2_with fail
              refine (CC.out).mono ?_
              rintro e w6 ⟨rfl, h6, g6⟩
              have H6 := Lib.hid h6
              have G6 := Lib.hid (HG5.out.trans g6)
              clear h6 g6 CC
              go_wp2
              go_roundw
              case rel => exact ⟨b, b + s2, f3', _, rfl, by go_num, rfl, hlt3, by have := HF3.out; omega, HS6.out, H6.out, G6.out⟩
              case measure => simp [intOf]; omega
            · by_cases hmn : m < n
              · have HS6 := Lib.hid (show symF (ltC cf) (n - a) l3 a m n = T3 by rw [← HS5.out, mrg1, if_neg hlt3, ← hm, if_pos hmn])
                have CC := Lib.hid (sym_any g n cap bx ok cf w0 HC.out hn (n - a) a m n l3 wr (Nat.le_refl _) am hmn (Nat.le_refl _) HW5.out (H0.out.trans HG5.out))
                rw [HS6.out] at CC
                clear hm
                go_wp2_with fail
                refine (CC.out).mono ?_
                rintro e w6 ⟨rfl, h6, g6⟩
                have H6 := Lib.hid h6
                have G6 := Lib.hid (HG5.out.trans g6)
                clear h6 g6 CC
                go_wp2
                go_roundw
                case rel => exact ⟨s2, f2', T3, by go_num, by omega, hs3, by omega, HS4.out, H6.out, G6.out⟩
                case measure => simp [intOf]; omega
              · have HS6 := Lib.hid (show l3 = T3 by rw [← HS5.out, mrg1, if_neg hlt3, ← hm, if_neg hmn])
                have hm1 : m ≤ 4194304 := by omega
                clear hm
                go_wp2
                go_roundw
                case rel => exact ⟨s2, f2', T3, by go_num, by omega, hs3, by omega, HS4.out, by rw [← HS6.out]; exact HW5.out, HG5.out⟩
                case measure => simp [intOf]; omega
        · have E := Lib.hid (show l2 = T2 by
            rw [← HS3.out]
            cases f2 with
            | zero => rfl
            | succ f2 => rw [mrg2, if_neg hlt2])
          go_wp2
          go_returns
          exact ⟨rfl, by rw [← E.out]; exact HW3.out, HG3.out⟩

set_option maxHeartbeats 1000000 in
theorem sortStable_any (g n cap bx : Nat) (ok : Bk → Prop) (cf : Bk → Bk → Int) (l : List Bk) (w0 w : World) (h : RowO cap ok w g n l) (h0 : w0.grownBy w (some g)) (hc : CmpI g bx w0 ok cf) (hn : n ≤ 1048576) :
    Calls Tryd.prog 67 #[.slice (some ⟨g, 0, none⟩) n cap, .func (.func 68) #[] #[.pointer (some ⟨bx, 0, none⟩)]] w fun e w' => e = .returned (.tuple #[]) ∧ RowO cap ok w' g n (stableF (ltC cf) l) ∧ w.grownBy w' (some g) := by
  have CC := Lib.hid (stable_any g n cap bx ok cf l w0 w h h0 hc hn)
  clear h h0 hc
  go_enter Tryd.func67, Tryd.ntmps67
  go_wp2_with fail
  refine (CC.out).mono ?_
  rintro e w1 ⟨rfl, h1, g1⟩
  clear CC
  go_wp2
  go_returns
  exact ⟨rfl, h1, g1⟩

end Go.Proofs.YteeblpdjpaellaaDoor
