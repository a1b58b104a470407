/- ShelvesBound, by the model: a contract. Condition: numbers within their kinds, slices no longer than can be. -/
import Derived.Test.YtlphpajpjpohmabShv
import Derived.Test.YtlphpajpjpohmabGs
import Derived.IntWalk
namespace Go.Proofs.Ytlphpajpjpohmab
set_option linter.unusedSimpArgs false
set_option linter.unusedVariables false
set_option maxRecDepth 100000
open Go.RowKit

def wdL (xs : List Bk) (l : List Int) : List Int := l.map (fun j => (bkA xs j).wi)
def sumTo (ws : List Int) : Nat → Int
  | 0 => 0
  | k + 1 => sumTo ws k + ws.getD k 0
def bnF (a : Int) (ws : List Int) : Int := (sumTo ws ws.length + a - 1).tdiv a
def shTo (F : List Int → Int) (hs : List Int) (xs : List Bk) : Nat → List Int
  | 0 => []
  | i + 1 => shTo F hs xs i ++ [F (wdL xs (grP hs xs i xs.length))]
def shR (F : List Int → Int) (p : Pg) (hs : List Int) (xs : List Bk) (a : Int) : List Int := if shC p hs xs a = 0 then shTo F hs xs hs.length else []
theorem wdL_length (xs : List Bk) (l : List Int) : (wdL xs l).length = l.length := by simp [wdL]
theorem shTo_length (F : List Int → Int) (hs : List Int) (xs : List Bk) : ∀ k, (shTo F hs xs k).length = k
  | 0 => rfl
  | k + 1 => by rw [shTo, List.length_append, shTo_length F hs xs k]; rfl
theorem shR_len (F : List Int → Int) (p : Pg) (hs : List Int) (xs : List Bk) (a : Int) : (shR F p hs xs a).length ≤ hs.length := by
  unfold shR
  split
  · rw [shTo_length]; exact Nat.le_refl _
  · exact Nat.zero_le _
theorem wd_getD {xs : List Bk} {l : List Int} {k : Nat} (h : k < l.length) : (wdL xs l).getD k 0 = (bkA xs l[k]).wi := by
  rw [List.getD_eq_getElem?_getD, List.getElem?_eq_getElem (by rw [wdL_length]; exact h)]
  simp [wdL]
theorem sumTo_bd {ws : List Int} (h : ∀ z ∈ ws, 1 ≤ z ∧ z ≤ 100) : ∀ k, 0 ≤ sumTo ws k ∧ sumTo ws k ≤ 100 * (k : Int)
  | 0 => by simp [sumTo]
  | k + 1 => by
    have ih := sumTo_bd h k
    have : 0 ≤ ws.getD k 0 ∧ ws.getD k 0 ≤ 100 := by
      rw [List.getD_eq_getElem?_getD]
      rcases Nat.lt_or_ge k ws.length with hk | hk
      · rw [List.getElem?_eq_getElem hk]
        have := h _ (List.getElem_mem hk)
        simp only [Option.getD_some]
        omega
      · rw [List.getElem?_eq_none hk]
        simp
    rw [sumTo]
    omega
/-- The widths of a group lie between 1 and 100. -/
theorem wdL_bd {hs : List Int} {xs : List Bk} (ok : okB xs = true) (i : Nat) : ∀ z ∈ wdL xs (grP hs xs i xs.length), 1 ≤ z ∧ z ≤ 100 := by
  intro z hz
  obtain ⟨j, hj, rfl⟩ := List.mem_map.1 hz
  obtain ⟨n, rfl, hn, _⟩ := grP_mem xs.length (Nat.le_refl _) j hj
  have e : bkA xs n = xs[n] := by simp [bkA, List.getD, List.getElem?_eq_getElem hn]
  rw [e]
  exact (bookB_wh (okB_get ok (List.getElem_mem hn))).1
theorem own_at {w : World} {base : Nat} {t : TypeId} {v : Value} {l : List Int} (h : w.ownsRow base t 1 v l.length (l.map (Value.int .i64))) (h0 : 0 < l.length) : ∃ g c, v = .slice (some ⟨g, 0, none⟩) l.length c ∧ g < w.heap.size ∧ ∀ (k : Nat) (hk : k < l.length), w.cell? ⟨g, k, none⟩ = some (.int .i64 l[k]) := by
  obtain ⟨A, c, e, hf⟩ := ownInts h
  rcases h.2 with ⟨_, h1⟩ | ⟨g, cap, cur, rfl, _⟩
  · omega
  · obtain ⟨g', o', hA, hg, hat⟩ := hf h0
    injection e with e1 e2 e3
    rw [← e1] at hA
    injection hA with hA
    injection hA with q1 q2
    subst q1 q2
    refine ⟨g, cap, rfl, hg, fun k hk => ?_⟩
    have := hat k hk
    rwa [Nat.zero_add] at this
theorem TL.outer {w : World} {base : Nat} {o : Value} {vs : List Value} {gr : Nat → List Int} (h : TL w base o vs gr) (h0 : 0 < vs.length) : ∃ g c, o = .slice (some ⟨g, 0, none⟩) vs.length c ∧ g < w.heap.size ∧ ∀ (i : Nat) (hi : i < vs.length), w.cell? ⟨g, i, none⟩ = some vs[i] := by
  have h1 := h.1
  rcases h1.2 with ⟨_, h2⟩ | ⟨g, cap, cur, rfl, _, hg, _, _, hs, ht⟩
  · omega
  · refine ⟨g, cap, rfl, (Array.getElem?_eq_some_iff.1 hg).1, fun i hi => ?_⟩
    rw [cell_of_row w g i cur _ _ hg]
    have e : vs[i]? = some vs[i] := List.getElem?_eq_getElem hi
    obtain ⟨x, hx⟩ : ∃ x, vs[i] = x := ⟨_, rfl⟩
    rw [hx] at e ⊢
    rw [← ht, List.getElem?_take, if_pos (by omega), Array.getElem?_toList] at e
    exact e
theorem TL.get {w : World} {base : Nat} {o : Value} {vs : List Value} {gr : Nat → List Int} (h : TL w base o vs gr) {i : Nat} (hi : i < vs.length) : w.ownsRow base 2 1 vs[i] (gr i).length ((gr i).map (Value.int .i64)) := h.2.1 i _ (List.getElem?_eq_getElem hi)
theorem ownI0S (w : World) (base : Nat) (h : base ≤ w.heap.size) : (w.alloc (.cells #[] 2)).ownsRow base 2 1 (.slice (some ⟨w.heap.size, 0, none⟩) 0 0) ([] : List Int).length (([] : List Int).map (Value.int .i64)) := ⟨rfl, .inr ⟨w.heap.size, 0, #[], rfl, h, heap_alloc_new w _, Nat.le_refl _, Nat.zero_le _, rfl, rfl⟩⟩
theorem bnF_bd {S a : Int} (h1 : 0 ≤ S) (h2 : S ≤ 100000) (a1 : 1 ≤ a) (a2 : a ≤ 2000) : 0 ≤ (S + a - 1).tdiv a ∧ (S + a - 1).tdiv a ≤ 200000 := by
  rw [Int.tdiv_eq_ediv_of_nonneg (by omega)]
  constructor
  · exact Int.ediv_nonneg (by omega) (by omega)
  · have := Int.ediv_le_self (a := S + a - 1) a (by omega)
    omega

set_option maxHeartbeats 16000000 in
theorem specShelvesBound_any (p : Pg) (wf : p.Wf) (v v2 : Value) (hs : List Int) (xs : List Bk) (a : Int) (wz : ∀ z ∈ hs, (Lit.int .i64 z).wf = true) (wx : ∀ b ∈ xs, b.Wf) (w : World) (s1 : IntsOf .i64 w v hs) (s2 : SliceOf w v2 xs) (h1 : hs.length ≤ maxLen) (h2 : xs.length ≤ maxLen) :
    Calls Try.prog 23 #[.agg #[.int .i16 p.lo, .int .i16 p.st, .int .i16 p.bo], v, v2, .int .i64 a] w fun e w' => ∃ u, e = .returned (.tuple #[u, .int .i64 (shC p hs xs a)]) ∧ w'.ownsRow w.heap.size 2 1 u (shR (bnF a) p hs xs a).length ((shR (bnF a) p hs xs a).map (Value.int .i64)) ∧ Below w.heap.size w w' := by
  have G0 := Lib.hid (show Below w.heap.size w (w.alloc (.cells #[.int .i16 p.lo, .int .i16 p.st, .int .i16 p.bo] 40)) by go_grown)
  obtain ⟨i0, hi0, hz0, hz1, hz2⟩ := info_parts infoI64G
  have WF := Lib.hid wf
  have WZ := Lib.hid wz
  have WX := Lib.hid wx
  have S1 := Lib.hid (s1.below G0.out)
  have S2 := Lib.hid (s2.below G0.out)
  have z0 := G0.out.size
  clear wf wz wx s1
  obtain ⟨C, hC⟩ : ∃ C, shC p hs xs a = C := ⟨_, rfl⟩
  have HC := Lib.hid hC
  by_cases h0 : C = 0
  · subst h0
    obtain ⟨h3, h5, h6, h7⟩ : gaB p hs xs = true ∧ inB a 1 2000 = true ∧ allHB hs xs = true ∧ wdB xs a = true := by
      rcases sh_cases p hs xs a with ⟨_, h⟩ | ⟨_, _, h⟩ | ⟨_, _, _, h⟩ | ⟨_, _, _, _, h⟩ | ⟨h3, h5, h6, h7, _⟩
      · rw [h] at hC; cases hC
      · rw [h] at hC; cases hC
      · rw [h] at hC; cases hC
      · rw [h] at hC; cases hC
      · exact ⟨h3, h5, h6, h7⟩
    obtain ⟨k1, k2⟩ := gaB_true h3
    have l6 := (hsB_len k1).2.2
    have l60 := okB_len k2
    have ha : 1 ≤ a ∧ a ≤ 2000 := by unfold inB at h5; simpa using h5
    obtain ⟨a1, a2⟩ := ha
    have EL := Lib.hid (show shR (bnF a) p hs xs a = shTo (bnF a) hs xs hs.length by unfold shR; rw [HC.out]; rfl)
    have WB := Lib.hid (fun i => wdL_bd (hs := hs) k2 i)
    have GM := Lib.hid (fun i j hj => grP_mem (hs := hs) (xs := xs) (i := i) xs.length (Nat.le_refl _) j hj)
    have GL := Lib.hid (fun i => grP_len hs xs i xs.length)
    clear h3 h5 h6 h7 hC k1 k2
    go_enter Try.func23, Try.ntmps23
    go_wp2_with fail
    refine (l04Shelved_any p WF.out v v2 hs xs a WZ.out WX.out _ S1.out S2.out h1 h2).mono ?_
    rintro e w1 ⟨rfl, g1⟩
    rw [HC.out]
    have B1 := Lib.hid (bnext G0.out g1)
    go_wp2_with fail
    refine (l04Groups_any v v2 hs xs WX.out _ (S1.out.below g1) (S2.out.below g1) l6 l60).mono ?_
    rintro e w2 ⟨o, vs, rfl, hvl, htl, g2⟩
    have TT := Lib.hid htl
    have VL := Lib.hid hvl
    have B2 := Lib.hid (bnext B1.out g2)
    have z2 := B2.out.size
    have O0 := Lib.hid (show (w2.alloc (.cells #[] 2)).ownsRow w2.heap.size 2 1 (.slice (some ⟨w2.heap.size, 0, none⟩) 0 0) (shTo (bnF a) hs xs 0).length ((shTo (bnF a) hs xs 0).map (Value.int .i64)) from ownI0S w2 _ (Nat.le_refl _))
    obtain ⟨Ao, co, rfl⟩ := vlen_own1 htl.1
    obtain ⟨B, d, rfl, hat2⟩ := s2
    have H2 := Lib.hid hat2
    clear htl g1 g2 hvl hat2
    go_wp2
    go_loopw [12, 13] (fun u_ i_ wr => ∃ (u : Value) (i : Nat), u = u_ ∧ i ≤ hs.length ∧ i_ = .int .i64 (i : Int) ∧ wr.ownsRow w2.heap.size 2 1 u (shTo (bnF a) hs xs i).length ((shTo (bnF a) hs xs i).map (Value.int .i64)) ∧ Below w2.heap.size w2 wr) (fun _ i_ _ => hs.length - (intOf i_).toNat)
    case atStart => exact ⟨_, 0, rfl, Nat.zero_le _, rfl, O0.out, (Below.refl _ _).alloc (Nat.le_refl _) _⟩
    case round =>
      obtain ⟨u, i, rfl, hi, rfl, ho, hb⟩ := hrel
      have OW := Lib.hid ho
      have HB := Lib.hid hb
      have zr := hb.size
      have SL := Lib.hid (shTo_length (bnF a) hs xs i)
      clear ho hb
      by_cases hlt : i < hs.length
      · have hiv : i < vs.length := by have := VL.out; omega
        obtain ⟨go, co2, eo, hgo, hco⟩ := TT.out.outer (by omega)
        obtain ⟨rfl, rfl⟩ : Ao = some ⟨go, 0, none⟩ ∧ co = co2 := by injection eo with q1 q2 q3; exact ⟨q1, q3⟩
        have c1 := (HB.out.cell (p := ⟨go, i, none⟩) hgo).trans (hco i hiv)
        have OG := Lib.hid (TT.out.get hiv)
        have WBI := Lib.hid (WB.out i)
        have GMI := Lib.hid (GM.out i)
        have GLI := GL.out i
        obtain ⟨l, hl⟩ : ∃ l, grP hs xs i xs.length = l := ⟨_, rfl⟩
        have SE := Lib.hid (show shTo (bnF a) hs xs (i + 1) = shTo (bnF a) hs xs i ++ [bnF a (wdL xs l)] by rw [shTo, hl])
        have OG := Lib.hid (show w2.ownsRow w1.heap.size 2 1 vs[i] l.length (l.map (Value.int .i64)) by rw [← hl]; exact OG.out)
        rw [hl] at WBI GMI GLI
        obtain ⟨Ag, cg, hvg⟩ := vlen_own1 OG.out
        have OG := Lib.hid (show w2.ownsRow w1.heap.size 2 1 (.slice Ag l.length cg) l.length (l.map (Value.int .i64)) by rw [← hvg]; exact OG.out)
        rw [hvg] at c1
        have iv : (i : Int) < (vs.length : Int) := by omega
        have SB := Lib.hid (sumTo_bd WBI.out)
        have WLn := Lib.hid (wdL_length xs l)
        obtain ⟨wo, rfl⟩ : ∃ wo : World, wo = wr := ⟨_, rfl⟩
        have C1 := Lib.hid (fun (W : World) (hB : Below wo.heap.size wo W) => (hB.cell (p := ⟨go, i, none⟩) (Nat.lt_of_lt_of_le hgo zr)).trans c1)
        clear hl hvg hco eo c1
        go_wp2
        go_loopw [14, 15] (fun s_ k_ wx => ∃ k : Nat, k ≤ l.length ∧ k_ = .int .i64 (k : Int) ∧ s_ = .int .i64 (sumTo (wdL xs l) k) ∧ wx = wo) (fun _ k_ _ => l.length - (intOf k_).toNat)
        case atStart => exact ⟨0, Nat.zero_le _, rfl, rfl, rfl⟩
        case round =>
          obtain ⟨k, hk, rfl, rfl, rfl⟩ := hrel
          have c1 := C1.out _ (Below.refl _ _)
          have s0 := SB.out k
          by_cases hlk : k < l.length
          · obtain ⟨gg, cg2, eg, hgg, hcg⟩ := own_at OG.out (by omega)
            obtain ⟨rfl, rfl⟩ : Ag = some ⟨gg, 0, none⟩ ∧ cg = cg2 := by injection eg with q1 q2 q3; exact ⟨q1, q3⟩
            have c2 := (HB.out.cell (p := ⟨gg, k, none⟩) hgg).trans (hcg k hlk)
            obtain ⟨n', hn', hnl, -⟩ := GMI.out l[k] (List.getElem_mem hlk)
            obtain ⟨gb, ob, rfl, hgb, hcb⟩ := H2.out (by omega)
            have p5 := (booksAt_some (hcb.below (bnext B2.out HB.out) hgb) hnl).2.2.2.2.2.1
            have eb : bkA xs l[k] = xs[n'] := by rw [hn']; simp [bkA, List.getD, List.getElem?_eq_getElem hnl]
            have SS := Lib.hid (show sumTo (wdL xs l) (k + 1) = sumTo (wdL xs l) k + xs[n'].wi by rw [sumTo, wd_getD hlk, eb])
            have s1 := SB.out (k + 1)
            rw [SS.out] at s1
            rw [hn'] at c2
            have nn : (n' : Int) < (xs.length : Int) := by omega
            have kl : (k : Int) < (l.length : Int) := by omega
            obtain ⟨b1, b2⟩ := (WX.out _ (List.getElem_mem hnl)).wi
            clear hcb hcg hn' eb eg
            generalize xs[n'].wi = x at *
            generalize sumTo (wdL xs l) k = S at *
            obtain ⟨s01, s02⟩ := s0
            obtain ⟨s11, s12⟩ := s1
            go_wp2
            go_roundw
            case rel => exact ⟨k + 1, by omega, by go_num, by rw [SS.out], by first | rfl | trivial⟩
            case measure => simp [intOf]; omega
          · obtain rfl : k = l.length := by omega
            have BF := Lib.hid (show bnF a (wdL xs l) = (sumTo (wdL xs l) l.length + a - 1).tdiv a by unfold bnF; rw [WLn.out])
            obtain ⟨s01, s02⟩ := s0
            obtain ⟨q1, q2⟩ := bnF_bd (S := sumTo (wdL xs l) l.length) (a := a) s01 (by omega) a1 a2
            generalize sumTo (wdL xs l) l.length = S at *
            obtain ⟨q, hq⟩ : ∃ q, (S + a - 1).tdiv a = q := ⟨_, rfl⟩
            rw [hq] at q1 q2 BF
            have na : ¬ a = 0 := by omega
            have wq : IntKind.i64.wrap q = q := IntWalk.i64_in _ (by omega)
            have sl := SL.out
            go_wp2_with (at_builtin; refine wpList_append_own _ rfl _ _ _ rfl w2.heap.size 2 i0 (.int .i64 0) 1 8 Try.underlying35 hi0 hz0 hz1 hz2 rfl (by decide) _ _ _ rfl (OW.out.alloc _) ⟨_, 0, none⟩ 1 1 [.int .i64 q] rfl rfl (cell_one_new _ _ _) (by intro u hu; simp at hu; subst hu; rfl) (by unfold maxLen; omega) (by omega) (by simp; omega) ?_)
            intro v' w4 ho4 hg4 _
            have OW4 := Lib.hid (show w4.ownsRow w2.heap.size 2 1 v' (shTo (bnF a) hs xs (i + 1)).length ((shTo (bnF a) hs xs (i + 1)).map (Value.int .i64)) by rw [SE.out, BF.out, List.length_append, List.map_append, SL.out]; exact ho4)
            have B4 := Lib.hid ((HB.out.alloc zr _).grown hg4 (by simp; omega) (fun q hq => (OW.out.lt q hq).1))
            clear ho4 hg4 hq
            go_wp2
            go_roundw
            case rel => exact ⟨_, i + 1, rfl, by omega, by go_num, OW4.out, B4.out⟩
            case measure => simp [intOf]; omega
      · obtain rfl : i = hs.length := by omega
        have hnv : ¬ (hs.length : Int) < (vs.length : Int) := by have := VL.out; omega
        go_wp2
        go_ret2
        exact ⟨_, by rw [HC.out]; rfl, by rw [EL.out]; exact ownMono OW.out z2, bnext B2.out HB.out⟩
  · have EL := Lib.hid (show shR (bnF a) p hs xs a = [] by unfold shR; rw [HC.out, if_neg h0])
    have d1 : (C != 0) = true := by simpa using h0
    have d2 : (C == 0) = false := by simpa using h0
    clear s2
    go_enter Try.func23, Try.ntmps23
    go_wp2_with fail
    refine (l04Shelved_any p WF.out v v2 hs xs a WZ.out WX.out _ S1.out S2.out h1 h2).mono ?_
    rintro e w1 ⟨rfl, g1⟩
    rw [hC]
    have B1 := Lib.hid (bnext G0.out g1)
    have zz := B1.out.size
    clear hC g1
    go_wp2
    go_ret2
    exact ⟨_, by rw [HC.out]; rfl, by rw [EL.out]; exact ownI0S w1 _ zz, B1.out.alloc zz _⟩
end Go.Proofs.Ytlphpajpjpohmab
