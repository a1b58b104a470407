/- Insertion by the library's stable sort, at books: a contract over the comparison's. Condition: at most 1048576 books in a block of their own. -/
import Derived.Test.YteeblpdjpaellaaDoorStbI
import Derived.Test.YteeblpdjpaellaaDoorQuiet
namespace Go.Proofs.YteeblpdjpaellaaDoor
set_option linter.unusedSimpArgs false
set_option linter.unusedVariables false
set_option maxRecDepth 100000
open Go.RowKit Stab

theorem gbelow {w w' : World} {row : Option Nat} (h : Below w.heap.size w w') : w.grownBy w' row := ⟨h.os, h.tape, h.output, h.size, fun i hi _ => h.block i hi⟩
/-- What is asked of the comparison: in each world in which only block g has been written. -/
def CmpI (g bx : Nat) (w0 : World) (ok : Bk → Prop) (cf : Bk → Bk → Int) : Prop :=
  ∀ W, w0.grownBy W (some g) → ∀ x y, ok x → ok y → Calls Tryd.prog 68 #[.agg #[.int .i16 x.c, .int .u8 x.m0, .int .u8 x.m1, .int .u8 x.m2, .int .i16 x.v, .int .i16 x.wi, .int .i16 x.hi, .int .i16 x.we], .agg #[.int .i16 y.c, .int .u8 y.m0, .int .u8 y.m1, .int .u8 y.m2, .int .i16 y.v, .int .i16 y.wi, .int .i16 y.hi, .int .i16 y.we], .pointer (some ⟨bx, 0, none⟩)] W fun e w' => e = .returned (.int .i64 (cf x y)) ∧ Below W.heap.size W w'
def ltC (cf : Bk → Bk → Int) (x y : Bk) : Bool := decide (cf x y < 0)
def RowO (cap : Nat) (ok : Bk → Prop) (w : World) (g n : Nat) (l : List Bk) : Prop := RowS cap w g n l ∧ ∀ i, i < n → ok (l.getD i default)
theorem getD_set {l : List Bk} {i k : Nat} {z : Bk} : (l.set i z).getD k default = if i = k ∧ i < l.length then z else l.getD k default := by
  simp only [List.getD]
  rw [List.getElem?_set]
  by_cases h : i = k
  · subst h
    by_cases h2 : i < l.length
    · simp [h2]
    · simp [h2, List.getElem?_eq_none (Nat.le_of_not_lt h2)]
  · simp [h]
theorem ok_sw {ok : Bk → Prop} {l : List Bk} {n i j : Nat} (hl : l.length = n) (h : ∀ k, k < n → ok (l.getD k default)) (hi : i < n) (hj : j < n) : ∀ k, k < n → ok ((Stab.sw l i j).getD k default) := by
  intro k hk
  unfold Stab.sw
  rw [getD_set]
  split
  · exact h i hi
  · rw [getD_set]
    split
    · exact h j hj
    · exact h k hk

set_option maxHeartbeats 8000000 in
theorem ins_any (g n cap a b bx : Nat) (ok : Bk → Prop) (cf : Bk → Bk → Int) (l : List Bk) (w0 w : World) (h : RowO cap ok w g n l) (h0 : w0.grownBy w (some g)) (hc : CmpI g bx w0 ok cf) (ha : a ≤ n) (hb : b ≤ n) (hn : n ≤ 1048576) :
    Calls Tryd.prog 89 #[.slice (some ⟨g, 0, none⟩) n cap, .int .i64 (a : Int), .int .i64 (b : Int), .func (.func 68) #[] #[.pointer (some ⟨bx, 0, none⟩)]] w fun e w' => e = .returned (.tuple #[]) ∧ RowO cap ok w' g n (insF (ltC cf) l a b) ∧ w.grownBy w' (some g) := by
  have HR := Lib.hid h
  have H0 := Lib.hid h0
  have HC := Lib.hid hc
  clear h h0 hc
  have HT := Lib.hid (show ∃ T, insF (ltC cf) l a b = T from ⟨_, rfl⟩)
  obtain ⟨T, hT⟩ := HT.out
  rw [hT]
  have HT := Lib.hid hT
  clear hT
  · go_enter Tryd.func89, Tryd.ntmps89
    go_wp2
    go_loopw [8] (fun i_ wr => ∃ (i f : Nat) (l' : List Bk), i_ = .int .i64 (i : Int) ∧ a < i ∧ b + 1 ≤ i + f ∧ i ≤ n + 1 ∧ insOut (ltC cf) f l' a b i = T ∧ RowO cap ok wr g n l' ∧ w.grownBy wr (some g)) (fun i_ _ => b + 1 - (intOf i_).toNat)
    case atStart => exact ⟨a + 1, b - a + 1, l, by go_num, by omega, by omega, by omega, HT.out, HR.out, World.grownBy.refl w _⟩
    case round =>
      obtain ⟨i, f, l', rfl, hai, hf, hin, hT, hr, hg⟩ := hrel
      have HG := Lib.hid hg
      have HW := Lib.hid hr
      have HT := Lib.hid hT
      clear hg hr hT
      by_cases hlt : i < b
      · obtain ⟨f', rfl⟩ : ∃ f', f = f' + 1 := ⟨f - 1, by omega⟩
        have hlt' : (i : Int) < (b : Int) := by omega
        have E := Lib.hid (show insOut (ltC cf) f' (insIn (ltC cf) (i - a + 1) l' a i) a b (i + 1) = T by rw [← HT.out, insOut, if_pos hlt])
        have HS := Lib.hid (show ∃ S, insIn (ltC cf) (i - a + 1) l' a i = S from ⟨_, rfl⟩)
        obtain ⟨S, hS⟩ := HS.out
        rw [hS] at E
        have HS := Lib.hid hS
        clear hS
        go_wp2
        go_loopw [9] (fun j_ ws => ∃ (j q : Nat) (m : List Bk), j_ = .int .i64 (j : Int) ∧ a ≤ j ∧ j ≤ i ∧ j - a < q ∧ insIn (ltC cf) q m a j = S ∧ RowO cap ok ws g n m ∧ w.grownBy ws (some g)) (fun j_ _ => (intOf j_).toNat)
        case atStart => exact ⟨i, i - a + 1, l', rfl, by omega, Nat.le_refl _, by omega, HS.out, HW.out, HG.out⟩
        case round =>
          obtain ⟨j, q, m, rfl, haj, hji, hq, hS, hr, hg⟩ := hrel
          obtain ⟨q', rfl⟩ : ∃ q', q = q' + 1 := ⟨q - 1, by omega⟩
          have HG := Lib.hid hg
          have HW := Lib.hid hr
          have HS := Lib.hid hS
          clear hg hr hS
          by_cases hja : a < j
          · have hja' : (a : Int) < (j : Int) := by omega
            have hd : decide ((a : Int) < (j : Int)) = true := by simp; omega
            obtain ⟨p, hp⟩ : ∃ p : Nat, p = j - 1 := ⟨_, rfl⟩
            have w1 : (j : Int) - 1 = (p : Int) := by omega
            have hpn : p < n := by omega
            have hjn : j < n := by omega
            have hjp : ¬ j = p := by omega
            obtain ⟨c1_0, c1_1, c1_2, c1_3, c1_4, c1_5, c1_6, c1_7⟩ := HW.out.1.cells j hjn
            obtain ⟨c2_0, c2_1, c2_2, c2_3, c2_4, c2_5, c2_6, c2_7⟩ := HW.out.1.cells p hpn
            have o1 := HW.out.2 j hjn
            have o2 := HW.out.2 p hpn
            have SW := Lib.hid (fun W (h : RowS cap W g n m) => h.sw j p hjn hpn)
            have OS := Lib.hid (ok_sw HW.out.1.1 HW.out.2 hjn hpn)
            have ES := Lib.hid (show (if ltC cf (m.getD j default) (m.getD p default) = true then insIn (ltC cf) q' (Stab.sw m j p) a p else m) = S by rw [← HS.out, insIn, if_pos hja, hp])
            generalize hy : m.getD j default = y at c1_0 c1_1 c1_2 c1_3 c1_4 c1_5 c1_6 c1_7 o1 SW ES
            generalize hx : m.getD p default = x at c2_0 c2_1 c2_2 c2_3 c2_4 c2_5 c2_6 c2_7 o2 SW ES
            have HY := Lib.hid hy
            have HX := Lib.hid hx
            clear hy hx
            have CC := Lib.hid (fun W hW => HC.out W (H0.out.trans (HG.out.trans hW)) y x o1 o2)
            have zg := HW.out.1.lt
            have d1_0 := belowBy_cell zg c1_0
            have d1_1 := belowBy_cell zg c1_1
            have d1_2 := belowBy_cell zg c1_2
            have d1_3 := belowBy_cell zg c1_3
            have d1_4 := belowBy_cell zg c1_4
            have d1_5 := belowBy_cell zg c1_5
            have d1_6 := belowBy_cell zg c1_6
            have d1_7 := belowBy_cell zg c1_7
            have d2_0 := belowBy_cell zg c2_0
            have d2_1 := belowBy_cell zg c2_1
            have d2_2 := belowBy_cell zg c2_2
            have d2_3 := belowBy_cell zg c2_3
            have d2_4 := belowBy_cell zg c2_4
            have d2_5 := belowBy_cell zg c2_5
            have d2_6 := belowBy_cell zg c2_6
            have d2_7 := belowBy_cell zg c2_7
            clear c1_0 c1_1 c1_2 c1_3 c1_4 c1_5 c1_6 c1_7 c2_0 c2_1 c2_2 c2_3 c2_4 c2_5 c2_6 c2_7 o1 o2 hp
            by_cases hcf : cf y x < 0
            · have hd2 : decide (cf y x < 0) = true := by simpa using hcf
              have E2 := Lib.hid (show insIn (ltC cf) q' (Stab.sw m j p) a p = S by rw [← ES.out, if_pos (by unfold ltC; exact hd2)])
              go_wp2
              refine wp_region_below (by kernel_rfl) (by kernel_rfl) ?_
              repeat (go_big_quiet_step ((go_at_call 68; exact calls_below (CC.out _ (gbelow (BelowBy.h _))))))
              refine wpQuiet_nil ?_
              rintro wq ⟨⟨_, hqw⟩, rfl⟩
              clear d1_0 d1_1 d1_2 d1_3 d1_4 d1_5 d1_6 d1_7 d2_0 d2_1 d2_2 d2_3 d2_4 d2_5 d2_6 d2_7
              obtain ⟨c1_0, c1_1, c1_2, c1_3, c1_4, c1_5, c1_6, c1_7⟩ := (HW.out.1.below hqw).cells j hjn
              obtain ⟨c2_0, c2_1, c2_2, c2_3, c2_4, c2_5, c2_6, c2_7⟩ := (HW.out.1.below hqw).cells p hpn
              rw [HY.out] at c1_0 c1_1 c1_2 c1_3 c1_4 c1_5 c1_6 c1_7
              rw [HX.out] at c2_0 c2_1 c2_2 c2_3 c2_4 c2_5 c2_6 c2_7
              have hr2 := HW.out.1.below hqw
              have fz := hr2.frozen
              have SW2 := Lib.hid (SW.out wq hr2)
              have HG2 := Lib.hid (HG.out.trans (gbelow (row := some g) hqw))
              clear hr2
              go_wp2
              go_region
              go_wp2
              go_roundw
              case rel => exact ⟨p, q', Stab.sw m j p, rfl, by omega, by omega, by omega, E2.out, by show RowO cap ok (World.drew (set8 (set8 wq g (j * 8) x) g (p * 8) y)) g n _; exact ⟨SW2.out, OS.out⟩, by show World.grownBy _ (World.drew (set8 (set8 wq g (j * 8) x) g (p * 8) y)) _; exact gdrew (gset8 (gset8 HG2.out _ _) _ _)⟩
              case measure => simp [intOf]; omega
            · have hd2 : decide (cf y x < 0) = false := by simpa using hcf
              have E2 := Lib.hid (show m = S by rw [← ES.out, if_neg (by unfold ltC; rw [hd2]; decide)])
              go_wp2
              refine wp_region_below (by kernel_rfl) (by kernel_rfl) ?_
              repeat (go_big_quiet_step ((go_at_call 68; exact calls_below (CC.out _ (gbelow (BelowBy.h _))))))
              refine wpQuiet_nil ?_
              rintro wq ⟨⟨_, hqw⟩, rfl⟩
              clear d1_0 d1_1 d1_2 d1_3 d1_4 d1_5 d1_6 d1_7 d2_0 d2_1 d2_2 d2_3 d2_4 d2_5 d2_6 d2_7
              have HG2 := Lib.hid (HG.out.trans (gbelow (row := some g) hqw))
              have HW2 := Lib.hid (show RowO cap ok wq g n m from ⟨HW.out.1.below hqw, HW.out.2⟩)
              go_wp2
              go_roundw
              case rel => exact ⟨i + 1, f', S, by go_num, by omega, by omega, by omega, E.out, by rw [← E2.out]; exact HW2.out, HG2.out⟩
              case measure => simp [intOf]; omega
          · have hja' : ¬ ((a : Int) < (j : Int)) := by omega
            have hd : decide ((a : Int) < (j : Int)) = false := by simp; omega
            have E2 := Lib.hid (show m = S by rw [← HS.out, insIn, if_neg hja])
            go_wp2
            refine wp_region_below (by kernel_rfl) (by kernel_rfl) ?_
            repeat (go_big_quiet_step (fail))
            refine wpQuiet_nil ?_
            rintro wq ⟨⟨_, hqw⟩, rfl⟩
            have HG2 := Lib.hid (HG.out.trans (gbelow (row := some g) hqw))
            have HW2 := Lib.hid (show RowO cap ok wq g n m from ⟨HW.out.1.below hqw, HW.out.2⟩)
            go_wp2
            go_roundw
            case rel => exact ⟨i + 1, f', S, by go_num, by omega, by omega, by omega, E.out, by rw [← E2.out]; exact HW2.out, HG2.out⟩
            case measure => simp [intOf]; omega
      · have E := Lib.hid (show l' = T by rw [← HT.out]; cases f <;> simp [insOut, hlt])
        go_wp2
        go_returns
        exact ⟨rfl, by rw [← E.out]; exact HW.out, HG.out⟩
end Go.Proofs.YteeblpdjpaellaaDoor
