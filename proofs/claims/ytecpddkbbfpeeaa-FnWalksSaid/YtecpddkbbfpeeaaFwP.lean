/- Walks, the heaviest books and wanted books: what the promise asks, in plain data. No condition. -/
import Derived.Test.YtecpddkbbfpeeaaShJ
import Derived.Test.YtecpddkbbfpeeaaHvJ
import Derived.Test.YtecpddkbbfpeeaaTot
import Derived.Test.YtecpddkbbfpeeaaTit0
namespace Go.Proofs.Ytecpddkbbfpeeaa
set_option linter.unusedSimpArgs false
set_option linter.unusedVariables false
set_option maxRecDepth 100000

/-- No order of stops is shorter. -/
theorem far_ge : ∀ {L : List Int} {s c : Int}, LeastIs L s c → c ≤ farF s L
  | [], s, c, h => by
    rcases h with ⟨_, rfl⟩ | ⟨lo, hi, a1, _⟩
    · exact Int.le_refl _
    · cases a1
  | x :: L, s, c, h => by
    obtain ⟨c', hc'⟩ := least_ex (L := L) x
    have ih := far_ge hc'
    have hr : RemP (x :: L) x L := ⟨fun y hy => List.mem_cons_of_mem _ hy, fun y hy hne => by
      rcases List.mem_cons.1 hy with e | e
      · exact absurd e hne
      · exact e⟩
    rw [farF]
    rcases h with ⟨h, _⟩ | ⟨lo, hi, a1, a2, a3, a4⟩
    · cases h
    · have lh := (a3 lo a1).2
      have bx := a3 x (by simp)
      have e1 := ap_cases s lo
      have e2 := ap_cases s hi
      have e3 := mn_cases (apart s lo) (apart s hi)
      have e4 := ap_cases s x
      rcases rest_cases hr hc' a3 a1 a2 with ⟨h1, h2, h3⟩ | ⟨l, h', m1, m2, q1, q2, q3, q4, q5, q6⟩
      · omega
      · have e5 := ap_cases x l
        have e6 := ap_cases x h'
        have e7 := mn_cases (apart x l) (apart x h')
        omega
theorem far_walk (zs : List Int) (a : Int) : farF a (walkI zs a) ≤ farF a zs := by
  obtain ⟨c, hc⟩ := least_ex (L := zs) a
  have h1 := walkI_least zs a c hc
  have h2 := far_ge hc
  omega
theorem far_back (zs : List Int) (a : Int) : farF a (walkI zs a) ≤ farF a zs.reverse := by
  obtain ⟨c, hc⟩ := least_ex (L := zs) a
  have h1 := walkI_least zs a c hc
  have h2 := far_ge (least_congr (L' := zs.reverse) (fun y => by simp) hc)
  omega
theorem wkC_ok {zs : List Int} {a : Int} (ha : 0 ≤ a ∧ a ≤ 999) (hz : ∀ z ∈ zs, 0 ≤ z ∧ z ≤ 999) (hl : zs.length ≤ 60) : wkC zs a = 0 := by
  have h1 : stopB a = true := by unfold stopB inB; simp only [Bool.and_eq_true, decide_eq_true_eq]; exact ha
  have h2 : zs.all stopB = true := by
    rw [List.all_eq_true]
    intro z hz'
    unfold stopB inB
    simp only [Bool.and_eq_true, decide_eq_true_eq]
    exact hz z hz'
  unfold wkC
  rw [h1, h2, decide_eq_true hl]
  rfl

/-! The heaviest books -/
theorem bookB_mk {b : Bk} (h : bookB b = true) : 1 ≤ b.wi ∧ 1 ≤ b.we ∧ b.wi ≤ 100 ∧ b.we ≤ 9999 := by
  unfold bookB markB inB at h
  simp only [Bool.and_eq_true, decide_eq_true_eq] at h
  omega
/-- From i on c books. -/
def segB (xs : List Bk) (i c : Nat) : List Bk := (xs.drop i).take c
def sumW (L : List Bk) : Int := (L.map Bk.wi).sum
def sumE (L : List Bk) : Int := (L.map Bk.we).sum
theorem sumW_snoc (L : List Bk) (b : Bk) : sumW (L ++ [b]) = sumW L + b.wi := by unfold sumW; simp [List.sum_append]
theorem sumE_snoc (L : List Bk) (b : Bk) : sumE (L ++ [b]) = sumE L + b.we := by unfold sumE; simp [List.sum_append]
theorem totW_take (xs : List Bk) : ∀ k, k ≤ xs.length → totW xs k = sumW (xs.take k)
  | 0, _ => by simp [totW, sumW]
  | k + 1, h => by
    rw [totW, totW_take xs k (by omega), List.take_succ_eq_append_getElem (by omega), sumW_snoc]
    congr 2
    simp [List.getD, List.getElem?_eq_getElem (show k < xs.length by omega)]
theorem totE_take (xs : List Bk) : ∀ k, k ≤ xs.length → totE xs k = sumE (xs.take k)
  | 0, _ => by simp [totE, sumE]
  | k + 1, h => by
    rw [totE, totE_take xs k (by omega), List.take_succ_eq_append_getElem (by omega), sumE_snoc]
    congr 2
    simp [List.getD, List.getElem?_eq_getElem (show k < xs.length by omega)]
/-- What is known of the best books when those from the first i places, and c more from the place i, have been looked at. -/
structure HvI (xs : List Bk) (wide : Int) (s : Hv) : Prop where
  at_ : (s.f = 0 ∧ s.c = 0 ∧ s.m = 0) ∨ ∃ i c : Nat, s.f = i ∧ s.c = c ∧ 1 ≤ c ∧ i + c ≤ xs.length ∧ sumW (segB xs i c) ≤ wide ∧ s.m = sumE (segB xs i c)
  pos : s.c = 0 → s.m = 0
theorem hvPut_inv {xs : List Bk} {wide : Int} {i c : Nat} {s : Hv} (h : HvI xs wide s) (hc : 1 ≤ c) (hl : i + c ≤ xs.length) : HvI xs wide (hvPut wide i c (sumW (segB xs i c)) (sumE (segB xs i c)) s) ∧ s.m ≤ (hvPut wide i c (sumW (segB xs i c)) (sumE (segB xs i c)) s).m ∧ (sumW (segB xs i c) ≤ wide → sumE (segB xs i c) ≤ (hvPut wide i c (sumW (segB xs i c)) (sumE (segB xs i c)) s).m) := by
  unfold hvPut
  split
  · rename_i h1
    refine ⟨⟨.inr ⟨i, c, rfl, rfl, hc, hl, h1.1, rfl⟩, fun h0 => ?_⟩, by show s.m ≤ sumE _; omega, fun _ => Int.le_refl _⟩
    have : (c : Int) = 0 := h0
    omega
  · rename_i h1
    refine ⟨h, Int.le_refl _, fun h2 => ?_⟩
    have : ¬ s.m < sumE (segB xs i c) := fun h3 => h1 ⟨h2, h3⟩
    omega
theorem segB_succ {xs : List Bk} {i c : Nat} (h : i + c < xs.length) : segB xs i (c + 1) = segB xs i c ++ [xs[i + c]] := by
  unfold segB
  rw [List.take_succ_eq_append_getElem (by rw [List.length_drop]; omega), List.getElem_drop]
theorem hvIn_inv {xs : List Bk} {wide : Int} {i : Nat} : ∀ (n c : Nat) {s : Hv}, i + c + n = xs.length → HvI xs wide s → HvI xs wide (hvIn wide i (xs.drop (i + c)) c (sumW (segB xs i c)) (sumE (segB xs i c)) s) ∧ s.m ≤ (hvIn wide i (xs.drop (i + c)) c (sumW (segB xs i c)) (sumE (segB xs i c)) s).m ∧ (1 ≤ n → sumW (segB xs i (c + 1)) ≤ wide → sumE (segB xs i (c + 1)) ≤ (hvIn wide i (xs.drop (i + c)) c (sumW (segB xs i c)) (sumE (segB xs i c)) s).m)
  | 0, c, s, hn, h => by
    rw [List.drop_eq_nil_of_le (by omega)]
    exact ⟨h, Int.le_refl _, fun h => absurd h (by omega)⟩
  | n + 1, c, s, hn, h => by
    have hlt : i + c < xs.length := by omega
    rw [List.drop_eq_getElem_cons hlt, hvIn]
    have e1 : sumW (segB xs i c) + xs[i + c].wi = sumW (segB xs i (c + 1)) := by rw [segB_succ hlt, sumW_snoc]
    have e2 : sumE (segB xs i c) + xs[i + c].we = sumE (segB xs i (c + 1)) := by rw [segB_succ hlt, sumE_snoc]
    rw [e1, e2]
    obtain ⟨p1, p2, p3⟩ := hvPut_inv (i := i) (c := c + 1) h (by omega) (by omega)
    obtain ⟨q1, q2, -⟩ := hvIn_inv (xs := xs) (wide := wide) (i := i) n (c + 1) (by omega) p1
    rw [show i + c + 1 = i + (c + 1) by omega]
    exact ⟨q1, Int.le_trans p2 q2, fun _ hw => Int.le_trans (p3 hw) q2⟩
theorem hvOut_inv {xs : List Bk} {wide : Int} : ∀ (n i : Nat) {s : Hv}, i + n = xs.length → HvI xs wide s → HvI xs wide (hvOut wide (xs.drop i) i s) ∧ s.m ≤ (hvOut wide (xs.drop i) i s).m ∧ ∀ k (h : k < xs.length), i ≤ k → xs[k].wi ≤ wide → xs[k].we ≤ (hvOut wide (xs.drop i) i s).m
  | 0, i, s, hn, h => by
    rw [List.drop_eq_nil_of_le (by omega)]
    exact ⟨h, Int.le_refl _, fun k hk hik => absurd hk (by omega)⟩
  | n + 1, i, s, hn, h => by
    have hlt : i < xs.length := by omega
    have hd : xs.drop i = xs[i] :: xs.drop (i + 1) := List.drop_eq_getElem_cons hlt
    obtain ⟨p1, p2, p3⟩ := hvIn_inv (wide := wide) (i := i) (n + 1) 0 (by omega) h
    have s0 : sumW (segB xs i 0) = 0 := by simp [segB, sumW]
    have s1 : sumE (segB xs i 0) = 0 := by simp [segB, sumE]
    have t0 : segB xs i (0 + 1) = [xs[i]] := by rw [segB_succ (by omega)]; simp [segB]
    have w1 : sumW [xs[i]] = xs[i].wi := by simp [sumW]
    have w2 : sumE [xs[i]] = xs[i].we := by simp [sumE]
    rw [s0, s1, Nat.add_zero] at p1 p2 p3
    rw [t0, w1, w2] at p3
    obtain ⟨q1, q2, q3⟩ := hvOut_inv n (i + 1) (by omega) p1
    have e : hvOut wide (xs.drop i) i s = hvOut wide (xs.drop (i + 1)) (i + 1) (hvIn wide i (xs.drop i) 0 0 0 s) := by
      rw [hd, hvOut, ← hd]
    rw [e]
    refine ⟨q1, Int.le_trans p2 q2, fun k hk hik hw => ?_⟩
    by_cases ek : k = i
    · subst ek
      exact Int.le_trans (p3 (by omega) hw) q2
    · exact q3 k hk (by omega) hw
theorem hvAll_inv (xs : List Bk) (wide : Int) : HvI xs wide (hvAll xs wide) ∧ ∀ k (h : k < xs.length), xs[k].wi ≤ wide → xs[k].we ≤ (hvAll xs wide).m := by
  obtain ⟨h1, -, h2⟩ := hvOut_inv (xs := xs) (wide := wide) xs.length 0 (s := ⟨0, 0, 0⟩) (by omega) ⟨.inl ⟨rfl, rfl, rfl⟩, fun _ => rfl⟩
  exact ⟨h1, fun k h hw => h2 k h (by omega) hw⟩
/-- What is told of books that are valid and a width in its bounds. -/
theorem hv_tell {xs : List Bk} {wide : Int} (ok : okB xs = true) (hw : inB wide 1 6000 = true) :
    (hvC xs wide = 6 ∧ ∀ k (h : k < xs.length), ¬ xs[k].wi ≤ wide) ∨
    (hvC xs wide = 0 ∧ (∃ i c : Nat, (hvV xs wide).f = i ∧ (hvV xs wide).c = c ∧ 1 ≤ c ∧ i + c ≤ xs.length ∧ sumW (segB xs i c) ≤ wide ∧ (hvV xs wide).m = sumE (segB xs i c)) ∧ ∀ k (h : k < xs.length), xs[k].wi ≤ wide → xs[k].we ≤ (hvV xs wide).m) := by
  obtain ⟨hi, hm⟩ := hvAll_inv xs wide
  rcases hv_cases xs wide with ⟨h, _⟩ | ⟨_, h, _⟩ | ⟨_, _, h3, h4, _⟩ | ⟨_, _, h3, h4, h5⟩
  · rw [ok] at h; cases h
  · rw [hw] at h; cases h
  · left
    refine ⟨h4, fun k hk hle => ?_⟩
    have h6 := hm k hk hle
    rw [hi.pos h3] at h6
    have hb : bookB xs[k] = true := by
      unfold okB at ok
      simp only [Bool.and_eq_true, List.all_eq_true] at ok
      exact ok.1 _ (List.getElem_mem hk)
    have := bookB_mk hb
    omega
  · right
    rw [h5]
    refine ⟨h4, ?_, hm⟩
    rcases hi.at_ with ⟨_, h, _⟩ | h
    · exact absurd h h3
    · exact h

/-! Wanted books -/
theorem plc_count (tl : Bk → Bk) (xs : List Bk) (k : Bk) : ∀ n, n ≤ xs.length → (plc tl xs k n).length = (xs.take n).countP fun y => decide (tl y = k)
  | 0, _ => by simp [plc]
  | n + 1, h => by
    rw [plc_succ, List.take_succ_eq_append_getElem (by omega), List.countP_append, ← plc_count tl xs k n (by omega), show xs.getD n default = xs[n] by simp [List.getD, List.getElem?_eq_getElem (show n < xs.length by omega)]]
    by_cases e : tl xs[n] = k
    · rw [if_pos e, List.length_append]; simp [e]
    · rw [if_neg e]; simp [e]
/-- What is a part of a list's stock is found in it. -/
theorem tk_sub {tl : Bk → Bk} {xs ws : List Bk} (h : ∀ p : Bk → Bool, ws.countP p ≤ xs.countP p) : TkOk tl xs ws ws.length := by
  intro i hi
  rw [plc_count tl xs _ xs.length (Nat.le_refl _), List.take_length]
  refine Nat.lt_of_lt_of_le ?_ (h _)
  unfold cntT
  have e : ws.getD i default = ws[i] := by simp [List.getD, List.getElem?_eq_getElem hi]
  rw [e]
  have h1 : (ws.take (i + 1)).countP (fun y => decide (tl y = tl ws[i])) ≤ ws.countP fun y => decide (tl y = tl ws[i]) := by
    exact List.Sublist.countP_le (List.take_sublist _ _)
  rw [List.take_succ_eq_append_getElem hi, List.countP_append] at h1
  simp at h1
  omega
theorem tk_get {tl : Bk → Bk} {xs ws : List Bk} : ∀ {n j : Nat}, j < n → (tkTo tl xs ws n).getD j 0 = (plc tl xs (tl (ws.getD j default)) xs.length).getD (cntT tl ws (tl (ws.getD j default)) j) 0
  | n + 1, j, h => by
    rw [tkTo]
    by_cases e : j = n
    · subst e
      simp only [List.getD]
      rw [List.getElem?_append_right (by rw [tk_len]; omega), tk_len, Nat.sub_self]
      simp
    · have h1 : j < (tkTo tl xs ws n).length := by rw [tk_len]; omega
      have ih := tk_get (tl := tl) (xs := xs) (ws := ws) (n := n) (j := j) (by omega)
      simp only [List.getD] at ih ⊢
      rw [List.getElem?_append_left h1]
      exact ih
/-- What is taken: a place of the list, of the same title, not taken before. -/
theorem tk_tell {tl : Bk → Bk} {xs ws : List Bk} (ho : TkOk tl xs ws ws.length) {j : Nat} (hj : j < ws.length) :
    ∃ a, (tkTo tl xs ws ws.length).getD j 0 = a ∧ a < xs.length ∧ tl (xs.getD a default) = tl (ws.getD j default) ∧ a ∉ tkTo tl xs ws j := by
  have hl := ho j hj
  refine ⟨_, tk_get hj, ?_⟩
  have hg : (plc tl xs (tl (ws.getD j default)) xs.length).getD (cntT tl ws (tl (ws.getD j default)) j) 0 = (plc tl xs (tl (ws.getD j default)) xs.length)[cntT tl ws (tl (ws.getD j default)) j] := by rw [List.getD_eq_getElem?_getD, List.getElem?_eq_getElem hl]; rfl
  rw [hg]
  have hm := List.getElem_mem hl
  obtain ⟨h1, h2⟩ := plc_mem.1 hm
  refine ⟨h1, h2, fun h3 => ?_⟩
  have h4 := (tk_mem (Nat.le_of_lt hj) (fun i hi => ho i (by omega)) _).1 h3
  rw [h2] at h4
  obtain ⟨q, hq, he⟩ := List.mem_take_iff_getElem.1 h4
  have hs := List.pairwise_iff_getElem.1 (plc_sorted tl xs (tl (ws.getD j default)) xs.length) q (cntT tl ws (tl (ws.getD j default)) j) (by omega) hl (by omega)
  omega
theorem tk_take {tl : Bk → Bk} {xs ws : List Bk} : ∀ {n j : Nat}, j ≤ n → (tkTo tl xs ws n).take j = tkTo tl xs ws j
  | 0, j, h => by obtain rfl : j = 0 := by omega
                  simp [tkTo]
  | n + 1, j, h => by
    by_cases e : j = n + 1
    · subst e
      rw [List.take_of_length_le (by rw [tk_len]; omega)]
    · rw [tkTo, List.take_append_of_le_length (by rw [tk_len]; omega)]
      exact tk_take (by omega)
/-- Every second book, from the last one on, beginning with the book below n. -/
def wantL (xs : List Bk) : Nat → List Bk
  | 0 => []
  | 1 => [xs.getD 0 default]
  | n + 2 => xs.getD (n + 1) default :: wantL xs n
theorem want_step (xs : List Bk) : ∀ m, wantL xs (m + 1) = xs.getD m default :: wantL xs (m - 1)
  | 0 => rfl
  | _ + 1 => rfl
theorem want_count (xs : List Bk) (p : Bk → Bool) : ∀ n, n ≤ xs.length → (wantL xs n).countP p ≤ (xs.take n).countP p
  | 0, _ => by simp [wantL]
  | 1, h => by
    rw [wantL, List.take_succ_eq_append_getElem (by omega)]
    simp [List.getD, List.getElem?_eq_getElem (show 0 < xs.length by omega)]
  | n + 2, h => by
    have ih := want_count xs p n (by omega)
    rw [wantL, List.take_succ_eq_append_getElem (show n + 1 < xs.length by omega), List.take_succ_eq_append_getElem (show n < xs.length by omega), List.countP_append, List.countP_append, List.countP_cons, show xs.getD (n + 1) default = xs[n + 1] by simp [List.getD, List.getElem?_eq_getElem (show n + 1 < xs.length by omega)]]
    simp only [List.countP_singleton]
    omega
theorem want_ok (xs : List Bk) {tl : Bk → Bk} : TkOk tl xs (wantL xs xs.length) (wantL xs xs.length).length := by
  refine tk_sub fun p => ?_
  have h := want_count xs p xs.length (Nat.le_refl _)
  rwa [List.take_length] at h
theorem want_len (xs : List Bk) : ∀ n, (wantL xs n).length ≤ n
  | 0 => by simp [wantL]
  | 1 => by simp [wantL]
  | n + 2 => by
    have := want_len xs n
    rw [wantL, List.length_cons]
    omega
theorem want_mem {xs : List Bk} {b : Bk} : ∀ {n}, n ≤ xs.length → b ∈ wantL xs n → b ∈ xs
  | 0, _, h => by simp [wantL] at h
  | 1, h0, h => by
    simp only [wantL, List.mem_singleton] at h
    rw [h, show xs.getD 0 default = xs[0] by simp [List.getD, List.getElem?_eq_getElem (show 0 < xs.length by omega)]]
    exact List.getElem_mem _
  | n + 2, h0, h => by
    simp only [wantL, List.mem_cons] at h
    rcases h with h | h
    · rw [h, show xs.getD (n + 1) default = xs[n + 1] by simp [List.getD, List.getElem?_eq_getElem (show n + 1 < xs.length by omega)]]
      exact List.getElem_mem _
    · exact want_mem (by omega) h
end Go.Proofs.Ytecpddkbbfpeeaa
