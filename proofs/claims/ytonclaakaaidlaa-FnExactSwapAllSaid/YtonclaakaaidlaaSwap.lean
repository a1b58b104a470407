/- Exchanges of books: the plain form; by the model and by the program, contracts. Condition: lists no longer than the law tests. -/
import Derived.Test.YtonclaakaaidlaaMove
import Derived.Test.YtonclaakaaidlaaRes
import Derived.StillTailTactics
namespace Go.Proofs.Ytonclaakaaidlaa
set_option linter.unusedSimpArgs false
set_option linter.unusedVariables false
set_option maxRecDepth 100000
open Go.RowKit

def canB (n : Nat) (m : Mv) : Bool := inB m.f 0 ((n : Int) - 1) && inB m.t 0 ((n : Int) - 1)
def swapL (ys : List Bk) (i j : Nat) : List Bk := (ys.set i (ys.getD j default)).set j (ys.getD i default)
def swTo (xs : List Bk) (ms : List Mv) : Nat → List Bk
  | 0 => xs
  | k + 1 => swapL (swTo xs ms k) (ms.getD k default).f.toNat (ms.getD k default).t.toNat
def swCode (xs : List Bk) (ms : List Mv) : Int := if okB xs = false then 1 else if 200 < ms.length then 3 else if ms.all (canB xs.length) then 0 else 2
def swR (xs : List Bk) (ms : List Mv) : List Bk := if swCode xs ms = 0 then swTo xs ms ms.length else []
theorem swapL_length (ys : List Bk) (i j : Nat) : (swapL ys i j).length = ys.length := by simp [swapL]
theorem swTo_length (xs : List Bk) (ms : List Mv) : ∀ k, (swTo xs ms k).length = xs.length
  | 0 => rfl
  | k + 1 => by rw [swTo, swapL_length]; exact swTo_length xs ms k
theorem swR_length (xs : List Bk) (ms : List Mv) : (swR xs ms).length ≤ xs.length := by
  unfold swR
  split
  · rw [swTo_length]; omega
  · simp
theorem can_some {n : Nat} {m : Mv} (h : canB n m = true) : ∃ i j : Nat, m.f = i ∧ m.t = j ∧ i < n ∧ j < n := by
  unfold canB inB at h
  simp only [Bool.and_eq_true, decide_eq_true_eq] at h
  exact ⟨m.f.toNat, m.t.toNat, by omega, by omega, by omega, by omega⟩
theorem sw_cases (xs : List Bk) (ms : List Mv) : (okB xs = false ∧ swCode xs ms = 1 ∧ swR xs ms = []) ∨ (okB xs = true ∧ 200 < ms.length ∧ swCode xs ms = 3 ∧ swR xs ms = []) ∨ (okB xs = true ∧ ms.length ≤ 200 ∧ swCode xs ms = (if ms.all (canB xs.length) then 0 else 2)) := by
  unfold swR swCode
  by_cases h1 : okB xs = false
  · rw [if_pos h1]; exact .inl ⟨h1, rfl, rfl⟩
  · rw [if_neg h1]
    by_cases h2 : 200 < ms.length
    · rw [if_pos h2]; exact .inr (.inl ⟨by simpa using h1, h2, rfl, rfl⟩)
    · rw [if_neg h2]; exact .inr (.inr ⟨by simpa using h1, by omega, rfl⟩)
theorem sw_bad {xs : List Bk} {ms : List Mv} (h : swCode xs ms = (if ms.all (canB xs.length) then 0 else 2)) {k : Nat} (hk : k < ms.length) (hb : canB xs.length ms[k] = false) : swCode xs ms = 2 ∧ swR xs ms = [] := by
  have h2 : ms.all (canB xs.length) = false := by
    rw [List.all_eq_false]
    exact ⟨ms[k], List.getElem_mem hk, by simp [hb]⟩
  rw [h2] at h
  have h3 : swCode xs ms = 2 := by simpa using h
  exact ⟨h3, by unfold swR; rw [h3]; rfl⟩
theorem sw_good {xs : List Bk} {ms : List Mv} (h : swCode xs ms = (if ms.all (canB xs.length) then 0 else 2)) (ha : ∀ k, k < ms.length → canB xs.length (ms.getD k default) = true) : swCode xs ms = 0 ∧ swR xs ms = swTo xs ms ms.length := by
  have h2 : ms.all (canB xs.length) = true := by
    rw [List.all_eq_true]
    intro m hm
    obtain ⟨i, hi, rfl⟩ := List.getElem_of_mem hm
    have := ha i hi
    rwa [show ms.getD i default = ms[i] by simp [List.getD, List.getElem?_eq_getElem hi]] at this
  rw [h2] at h
  have h3 : swCode xs ms = 0 := by simpa using h
  exact ⟨h3, by unfold swR; rw [if_pos h3]⟩
theorem mv_getD {ms : List Mv} {k : Nat} (h : k < ms.length) : ms.getD k default = ms[k] := by simp [List.getD, List.getElem?_eq_getElem h]
theorem bk_getD {ys : List Bk} {k : Nat} (h : k < ys.length) : ys.getD k default = ys[k] := by simp [List.getD, List.getElem?_eq_getElem h]

theorem all_succK {P : Nat → Prop} {k : Nat} (h : ∀ i, i < k → P i) (h1 : P k) : ∀ i, i < k + 1 → P i := by
  intro i hi
  by_cases e : i = k
  · subst e; exact h1
  · exact h i (by omega)
theorem set8_block (w : World) (g o k : Nat) (b : Bk) (h : k ≠ g) : (set8 w g o b).heap[k]? = w.heap[k]? := by
  have e : ∀ (w : World) (o : Nat) (v : Value), (w.setCell ⟨g, o, none⟩ v).heap[k]? = w.heap[k]? := fun w o v => Below.heap_setCell w ⟨g, o, none⟩ v k (by simpa using h)
  unfold set8
  rw [e, e, e, e, e, e, e, e]

theorem rowK_drew {w : World} {g k n : Nat} {ys : List Bk} (h : RowK w g ys k n) : RowK w.drew g ys k n := h
theorem below_drew {B : Nat} {a w : World} (h : Below B a w) : Below B a w.drew := h.drew
theorem heap_drew {w a : World} {k : Nat} {o : Option Obj} (h : w.heap[k]? = a.heap[k]?) (h2 : a.heap[k]? = o) : w.drew.heap[k]? = o := h.trans h2

set_option maxHeartbeats 1000000 in
theorem l03Can_any (n : Nat) (m : Mv) (wm : m.Wf) (w : World) (hn : n ≤ 1048576) :
    Calls Try.prog 72 #[.int .i64 (n : Int), .agg #[.int .i16 m.f, .int .i16 m.t]] w fun e w' => e = .returned (.bool (canB n m)) ∧ Below w.heap.size w w' := by
  have HG := Lib.hid (show Below w.heap.size w (w.alloc (.cells #[.int .i16 m.f, .int .i16 m.t] 70)) by go_grown)
  obtain ⟨⟨a1, a2⟩, ⟨b1, b2⟩⟩ := wm
  cases h1 : inB m.f 0 ((n : Int) - 1)
  · have E := Lib.hid (show canB n m = false by unfold canB; rw [h1]; rfl)
    go_enter Try.func72, Try.ntmps72
    go_wp2_with (go_at_call 91; refine (l00In_any _ _ _ _).mono ?_; rintro e w' ⟨rfl, rfl⟩)
    go_ret
    exact ⟨by rw [E.out]; rfl, HG.out⟩
  · cases h2 : inB m.t 0 ((n : Int) - 1)
    · have E := Lib.hid (show canB n m = false by unfold canB; rw [h1, h2]; rfl)
      go_enter Try.func72, Try.ntmps72
      go_wp2_with (go_at_call 91; refine (l00In_any _ _ _ _).mono ?_; rintro e w' ⟨rfl, rfl⟩)
      go_ret
      exact ⟨by rw [E.out]; rfl, HG.out⟩
    · have E := Lib.hid (show canB n m = true by unfold canB; rw [h1, h2]; rfl)
      go_enter Try.func72, Try.ntmps72
      go_wp2_with (go_at_call 91; refine (l00In_any _ _ _ _).mono ?_; rintro e w' ⟨rfl, rfl⟩)
      go_ret
      exact ⟨by rw [E.out]; rfl, HG.out⟩

set_option maxHeartbeats 8000000 in
theorem specSwapAll_any (b o c : Nat) (xs : List Bk) (v : Value) (ms : List Mv) (wf : ∀ b ∈ xs, b.Wf) (wm : ∀ m ∈ ms, m.Wf) (w : World) (hs : SliceOf w (.slice (some ⟨b, o, none⟩) xs.length c) xs) (hm : MovesOf w v ms) (hn : xs.length ≤ 1048576) (ml : xs.length ≤ maxLen) (mm : ms.length ≤ maxLen) :
    Calls Try.prog 29 #[.slice (some ⟨b, o, none⟩) xs.length c, v] w fun e w' => ∃ u, e = .returned (.tuple #[u, .int .i64 (swCode xs ms)]) ∧ ResB w' w.heap.size u (swR xs ms) ∧ Below w.heap.size w w' := by
  have HS := Lib.hid hs
  have HM := Lib.hid hm
  have WF := Lib.hid wf
  have WM := Lib.hid wm
  obtain ⟨B, q, rfl, hm⟩ := hm
  have HMA := Lib.hid hm
  unfold maxLen at mm
  clear hs wf wm hm
  rcases sw_cases xs ms with ⟨h1, h2, h3⟩ | ⟨h1, h4, h2, h3⟩ | ⟨h1, h4, h2⟩
  · have E := Lib.hid h2
    have E2 := Lib.hid h3
    clear h2 h3
    go_enter Try.func29, Try.ntmps29
    go_wp2_with fail
    refine (l01Ok_any _ xs WF.out _ HS.out ml).mono ?_
    rintro e w1 ⟨rfl, g1⟩
    rw [h1]
    go_wp2
    go_ret2
    exact ⟨_, by rw [E.out]; rfl, by rw [E2.out]; exact .inr ⟨w1.heap.size, 0, rfl, g1.size, ⟨#[], heap_alloc_new w1 _, rfl, fun i hi => absurd hi (Nat.not_lt_zero _)⟩, Nat.le_refl _⟩, g1.alloc g1.size _⟩
  · have E := Lib.hid h2
    have E2 := Lib.hid h3
    have h4' : (200 : Int) < (ms.length : Int) := by omega
    clear h2 h3
    go_enter Try.func29, Try.ntmps29
    go_wp2_with fail
    refine (l01Ok_any _ xs WF.out _ HS.out ml).mono ?_
    rintro e w1 ⟨rfl, g1⟩
    rw [h1]
    go_wp2
    go_ret2
    exact ⟨_, by rw [E.out]; rfl, by rw [E2.out]; exact .inr ⟨w1.heap.size, 0, rfl, g1.size, ⟨#[], heap_alloc_new w1 _, rfl, fun i hi => absurd hi (Nat.not_lt_zero _)⟩, Nat.le_refl _⟩, g1.alloc g1.size _⟩
  · have E0 := Lib.hid h2
    have h4' : ¬ ((200 : Int) < (ms.length : Int)) := by omega
    obtain ⟨i0, hi0, hz0, hz1, hz2⟩ := info_parts infoBook
    clear h2
    go_enter Try.func29, Try.ntmps29
    go_wp2_with fail
    refine (l01Ok_any _ xs WF.out _ HS.out ml).mono ?_
    rintro e w1 ⟨rfl, g1⟩
    rw [h1]
    have OW := Lib.hid (show (w1.alloc (.cells #[] 83)).ownsRow w.heap.size 83 8 (.slice (some ⟨w1.heap.size, 0, none⟩) 0 0) 0 [] from ⟨rfl, .inr ⟨w1.heap.size, 0, #[], rfl, g1.size, heap_alloc_new w1 _, Nat.le_refl _, Nat.zero_le _, rfl, rfl⟩⟩)
    have gz := Lib.hid (g1.alloc g1.size (.cells #[] 83))
    have hsz := gz.out.size
    have HS1 := Lib.hid (HS.out.below gz.out)
    go_wp2_with (at_builtin; refine wpList_append_own _ rfl (.tmp 17) (.tmp 18) _ rfl w.heap.size 83 i0 (.agg #[.int .i16 0, .int .u8 0, .int .u8 0, .int .u8 0, .int .i16 0, .int .i16 0, .int .i16 0, .int .i16 0]) 8 14 Try.underlying27 hi0 hz0 hz1 hz2 rfl (by decide) _ _ _ rfl OW.out ⟨b, o, none⟩ xs.length c (flatB xs) rfl (flatB_length xs) ?c1 (flatB_one xs) ?c3 ?c4 ?c5 ?_)
    case c1 =>
      intro j u hu
      have h0 : 0 < xs.length := by have := (List.getElem?_eq_some_iff.1 hu).1; rw [flatB_length] at this; omega
      obtain ⟨A', c', e', hh⟩ := HS1.out
      obtain ⟨g', o', rfl, hg', hat⟩ := hh h0
      injection e' with e1 e2 e3
      injection e1 with e1
      injection e1 with e1 e4 e5
      subst e1 e4
      rw [Addr.add_lit]
      exact flat_cells hat j u hu
    case c3 => (unfold maxLen; omega)
    case c4 => omega
    case c5 => exact hsz
    intro v' w2 hown' hgrow' hne'
    obtain ⟨g, N, rfl⟩ : ∃ g N, v' = .slice (some ⟨g, 0, none⟩) xs.length N := by
      rcases hown'.2 with ⟨h, _⟩ | ⟨g, cap, cur, h, _⟩
      · exact absurd h hne'
      · exact ⟨g, cap, h⟩
    obtain ⟨hgb, hrk, hnN⟩ := rowK_of_own hown' rfl
    have HRK := Lib.hid hrk
    have g2 := Lib.hid (gz.out.grown hgrow' gz.out.size (fun k hk => (OW.out.lt k hk).1))
    clear hown' hgrow' hne' hrk OW
    go_wp2
    go_loopw [7] (fun i_ wr => ∃ k : Nat, k ≤ ms.length ∧ i_ = .int .i64 (k : Int) ∧ (∀ k', k' < k → canB xs.length (ms.getD k' default) = true) ∧ RowK wr g (swTo xs ms k) xs.length N ∧ Below w.heap.size w wr) (fun i_ _ => ms.length - (intOf i_).toNat)
    case atStart => exact ⟨0, Nat.zero_le _, rfl, fun _ h => absurd h (Nat.not_lt_zero _), HRK.out, g2.out⟩
    case round =>
      obtain ⟨k, hk, rfl, hcan, hrow, hb⟩ := hrel
      have HCN := Lib.hid hcan
      have HR := Lib.hid hrow
      clear hcan hrow
      by_cases hlt : k < ms.length
      · obtain ⟨gm, om, rfl, hgm, hat⟩ := HMA.out (by omega)
        obtain ⟨p0, p1⟩ := hat.below hb hgm k hlt
        have CC := Lib.hid (fun W => l03Can_any xs.length ms[k] (WM.out _ (List.getElem_mem hlt)) W hn)
        have HAT := Lib.hid hat
        clear hat
        cases hc : canB xs.length ms[k]
        · obtain ⟨E1, E2⟩ := sw_bad E0.out hlt hc
          have E1 := Lib.hid E1
          have E2 := Lib.hid E2
          rw [hc] at CC
          clear hc
          go_wp2_with fail
          refine (CC.out _).mono ?_
          rintro e w3 ⟨rfl, g3⟩
          clear p0 p1
          have b3 := Lib.hid (bnext hb g3)
          go_wp2
          go_ret2
          exact ⟨_, by rw [E1.out]; rfl, by rw [E2.out]; exact .inr ⟨w3.heap.size, 0, rfl, b3.out.size, ⟨#[], heap_alloc_new w3 _, rfl, fun i hi => absurd hi (Nat.not_lt_zero _)⟩, Nat.le_refl _⟩, b3.out.alloc b3.out.size _⟩
        · obtain ⟨i, j, ei, ej, hi, hj⟩ := can_some hc
          have HC := Lib.hid hc
          rw [hc, ei, ej] at CC
          have SW := Lib.hid (show swTo xs ms (k + 1) = swapL (swTo xs ms k) i j by rw [swTo, mv_getD hlt, ei, ej]; rfl)
          have HCK := Lib.hid (show canB xs.length (ms.getD k default) = true by rw [mv_getD hlt]; exact hc)
          have EI := Lib.hid ei
          have EJ := Lib.hid ej
          rw [ei] at p0
          rw [ej] at p1
          clear hc ei ej
          go_wp2_with fail
          refine (CC.out _).mono ?_
          rintro e w3 ⟨rfl, g3⟩
          have b3 := Lib.hid (bnext hb g3)
          have LY := Lib.hid (swTo_length xs ms k)
          have R3 := Lib.hid (HR.out.below g3 HR.out.lt)
          generalize hys : swTo xs ms k = ys at HR SW LY R3
          have HYS := Lib.hid hys
          clear hys p0 p1
          obtain ⟨p0, p1⟩ := HAT.out.below b3.out hgm k hlt
          rw [EI.out] at p0
          rw [EJ.out] at p1
          have AT := Lib.hid (RowK.at_ (show RowK w3 g ys ys.length N by rw [LY.out]; exact R3.out))
          have hiy : i < ys.length := by rw [LY.out]; exact hi
          have hjy : j < ys.length := by rw [LY.out]; exact hj
          obtain ⟨x0, x1, x2, x3, x4, x5, x6, x7⟩ := booksAt_some AT.out hiy
          obtain ⟨y0, y1, y2, y3, y4, y5, y6, y7⟩ := booksAt_some AT.out hjy
          have SL := Lib.hid (show swapL ys i j = (ys.set i ys[j]).set j ys[i] by unfold swapL; rw [bk_getD hiy, bk_getD hjy])
          have HIY := Lib.hid hiy
          have HJY := Lib.hid hjy
          generalize ys[i] = bi at x0 x1 x2 x3 x4 x5 x6 x7 SL
          generalize hbj : ys[j] = bj at y0 y1 y2 y3 y4 y5 y6 y7 SL
          have HBJ := Lib.hid hbj
          clear hbj
          clear hiy hjy
          rw [Nat.zero_add] at x0 x1 x2 x3 x4 x5 x6 x7 y0 y1 y2 y3 y4 y5 y6 y7
          have fz := R3.out.frozen
          go_wp2
          have X3 := heap_alloc_new w3 (.cells #[.int .i16 bi.c, .int .u8 bi.m0, .int .u8 bi.m1, .int .u8 bi.m2, .int .i16 bi.v, .int .i16 bi.wi, .int .i16 bi.hi, .int .i16 bi.we] 83)
          have bx := Lib.hid (b3.out.alloc b3.out.size (.cells #[.int .i16 bi.c, .int .u8 bi.m0, .int .u8 bi.m1, .int .u8 bi.m2, .int .i16 bi.v, .int .i16 bi.wi, .int .i16 bi.hi, .int .i16 bi.we] 83))
          have gx := (Below.refl w3.heap.size w3).alloc (Nat.le_refl _) (.cells #[.int .i16 bi.c, .int .u8 bi.m0, .int .u8 bi.m1, .int .u8 bi.m2, .int .i16 bi.v, .int .i16 bi.wi, .int .i16 bi.hi, .int .i16 bi.we] 83)
          have Rx := Lib.hid (R3.out.below gx R3.out.lt)
          clear gx x0 x1 x2 x3 x4 x5 x6 x7 y0 y1 y2 y3 y4 y5 y6 y7 p0 p1 fz
          generalize World.alloc _ _ = Wx at X3 bx Rx ⊢
          obtain ⟨p0, p1⟩ := HAT.out.below bx.out hgm k hlt
          rw [EI.out] at p0
          rw [EJ.out] at p1
          have ATx := Lib.hid (RowK.at_ (show RowK Wx g ys ys.length N by rw [LY.out]; exact Rx.out))
          obtain ⟨y0, y1, y2, y3, y4, y5, y6, y7⟩ := booksAt_some ATx.out HJY.out
          rw [show ys[j]'HJY.out = bj from HBJ.out, Nat.zero_add] at y0 y1 y2 y3 y4 y5 y6 y7
          have fz := Rx.out.frozen
          obtain ⟨⟨u0, q0⟩, ⟨u1, q1⟩, ⟨u2, q2⟩, ⟨u3, q3⟩, ⟨u4, q4⟩, ⟨u5, q5⟩, ⟨u6, q6⟩, ⟨u7, q7⟩⟩ := Rx.out.cells8 i (by omega)
          have HX3 := Lib.hid X3
          clear X3
          go_still_tail 14, (by kernel_rfl)
          change wpList _ _ _ _ _ Wx.drew
          go_wp2
          generalize hW : World.drew _ = W4
          have R4 : RowK W4 g (ys.set i bj) xs.length N := by rw [← hW]; show RowK (World.drew (set8 Wx g (i * 8) bj)) g _ _ _; exact rowK_drew (RowK.put (w := Wx) Rx.out i HIY.out (by omega) bj)
          have B4 : Below w.heap.size w W4 := by rw [← hW]; show Below _ _ (World.drew (set8 Wx g (i * 8) bj)); exact below_drew (set8_below (g := g) (o := i * 8) (b := bj) bx.out hgb)
          have X4 : W4.heap[w3.heap.size]? = some (.cells #[.int .i16 bi.c, .int .u8 bi.m0, .int .u8 bi.m1, .int .u8 bi.m2, .int .i16 bi.v, .int .i16 bi.wi, .int .i16 bi.hi, .int .i16 bi.we] 83 (0, 0)) := by rw [← hW]; show (World.drew (set8 Wx g (i * 8) bj)).heap[w3.heap.size]? = _; exact heap_drew (set8_block Wx g (i * 8) w3.heap.size bj (by have := R3.out.lt; omega)) HX3.out
          clear hW
          clear p0 p1 fz y0 y1 y2 y3 y4 y5 y6 y7 q0 q1 q2 q3 q4 q5 q6 q7
          obtain ⟨p0, p1⟩ := HAT.out.below B4 hgm k hlt
          rw [EJ.out] at p1
          have fz := R4.frozen
          obtain ⟨⟨u0, q0⟩, ⟨u1, q1⟩, ⟨u2, q2⟩, ⟨u3, q3⟩, ⟨u4, q4⟩, ⟨u5, q5⟩, ⟨u6, q6⟩, ⟨u7, q7⟩⟩ := R4.cells8 j (by omega)
          have x0 := cell_of_row W4 _ 0 _ _ _ X4
          have x1 := cell_of_row W4 _ 1 _ _ _ X4
          have x2 := cell_of_row W4 _ 2 _ _ _ X4
          have x3 := cell_of_row W4 _ 3 _ _ _ X4
          have x4 := cell_of_row W4 _ 4 _ _ _ X4
          have x5 := cell_of_row W4 _ 5 _ _ _ X4
          have x6 := cell_of_row W4 _ 6 _ _ _ X4
          have x7 := cell_of_row W4 _ 7 _ _ _ X4
          simp only [List.getElem?_toArray, List.getElem?_cons_zero, List.getElem?_cons_succ] at x0 x1 x2 x3 x4 x5 x6 x7
          have R4 := Lib.hid R4
          have B4 := Lib.hid B4
          clear X4
          go_still_tail 7, (by kernel_rfl)
          change wpList _ _ _ _ _ W4.drew
          go_wp2
          go_roundw
          case rel => exact ⟨k + 1, by omega, by go_num, all_succK HCN.out HCK.out, by rw [SW.out, SL.out]; show RowK (World.drew (set8 W4 g (j * 8) bi)) g _ _ _; exact rowK_drew (RowK.put (w := W4) R4.out j (by rw [List.length_set]; exact HJY.out) (by omega) bi), by show Below _ _ (World.drew (set8 W4 g (j * 8) bi)); exact below_drew (set8_below (g := g) (o := j * 8) (b := bi) B4.out hgb)⟩
          case measure => simp [intOf]; omega
      · obtain rfl : k = ms.length := by omega
        obtain ⟨E1, E2⟩ := sw_good E0.out HCN.out
        have E1 := Lib.hid E1
        have E2 := Lib.hid E2
        go_wp2
        go_ret2
        exact ⟨_, by rw [E1.out]; rfl, by rw [E2.out]; exact .inr ⟨g, N, by rw [swTo_length]; rfl, hgb, by rw [swTo_length]; exact HR.out, by rw [swTo_length]; exact hnN⟩, hb⟩
end Go.Proofs.Ytonclaakaaidlaa
