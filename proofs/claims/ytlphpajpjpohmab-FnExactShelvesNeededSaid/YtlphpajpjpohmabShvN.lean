/- Shelves filled in turn, by the model: contracts. Condition: numbers within their kinds, slices no longer than can be. -/
import Derived.Test.YtlphpajpjpohmabShvC
namespace Go.Proofs.Ytlphpajpjpohmab
set_option linter.unusedSimpArgs false
set_option linter.unusedVariables false
set_option maxRecDepth 100000
open Go.RowKit

def ffA (a : Int) (us : List Int) (x : Int) : Nat := us.findIdx (fun u => decide (u + x ≤ a))
def ffS (a : Int) (us : List Int) (x : Int) : List Int := if ffA a us x < us.length then us.set (ffA a us x) (us.getD (ffA a us x) 0 + x) else us ++ [x]
def ffL (a : Int) (ws : List Int) : Nat → List Int
  | 0 => []
  | k + 1 => ffS a (ffL a ws k) (ws.getD k 0)
def ndF (a : Int) (ws : List Int) : Int := ((ffL a ws ws.length).length : Int)
theorem ffS_len (a : Int) (us : List Int) (x : Int) : (ffS a us x).length ≤ us.length + 1 := by
  unfold ffS
  split
  · simp
  · simp
theorem ffL_len (a : Int) (ws : List Int) : ∀ k, (ffL a ws k).length ≤ k
  | 0 => Nat.le_refl _
  | k + 1 => by
    have := ffL_len a ws k
    have := ffS_len a (ffL a ws k) (ws.getD k 0)
    rw [ffL]
    omega
theorem ffA_at {a : Int} {us : List Int} {x : Int} {j : Nat} (hj : j < us.length) (h : us[j] + x ≤ a) (hp : ∀ (t : Nat) (ht : t < us.length), t < j → a < us[t] + x) : ffA a us x = j := by
  unfold ffA
  refine (List.findIdx_eq hj).2 ⟨decide_eq_true h, fun t ht => decide_eq_false ?_⟩
  have := hp t (by omega) ht
  omega
theorem ffA_none {a : Int} {us : List Int} {x : Int} (hp : ∀ (t : Nat) (ht : t < us.length), a < us[t] + x) : ffA a us x = us.length := by
  unfold ffA
  rw [List.findIdx_eq_length]
  intro u hu
  obtain ⟨t, ht, rfl⟩ := List.getElem_of_mem hu
  have := hp t ht
  exact decide_eq_false (by omega)
theorem ffS_at {a : Int} {us : List Int} {x : Int} {j : Nat} (hj : j < us.length) (h : us[j] + x ≤ a) (hp : ∀ (t : Nat) (ht : t < us.length), t < j → a < us[t] + x) : ffS a us x = us.set j (us[j] + x) := by
  unfold ffS
  rw [ffA_at hj h hp, if_pos hj, List.getD_eq_getElem?_getD, List.getElem?_eq_getElem hj]
  rfl
theorem ffS_none {a : Int} {us : List Int} {x : Int} (hp : ∀ (t : Nat) (ht : t < us.length), a < us[t] + x) : ffS a us x = us ++ [x] := by
  unfold ffS
  rw [ffA_none hp, if_neg (Nat.lt_irrefl _)]
theorem ffL_bd {a : Int} {ws : List Int} (a2 : a ≤ 2000) (h : ∀ z ∈ ws, 1 ≤ z ∧ z ≤ 100) : ∀ k, ∀ u ∈ ffL a ws k, 0 ≤ u ∧ u ≤ 2000
  | 0, u, hu => by cases hu
  | k + 1, u, hu => by
    have ih := ffL_bd a2 h k
    have hw : 0 ≤ ws.getD k 0 ∧ ws.getD k 0 ≤ 100 := by
      rw [List.getD_eq_getElem?_getD]
      rcases Nat.lt_or_ge k ws.length with hk | hk
      · rw [List.getElem?_eq_getElem hk]
        have := h _ (List.getElem_mem hk)
        simp only [Option.getD_some]
        omega
      · rw [List.getElem?_eq_none hk]
        simp
    rw [ffL] at hu
    by_cases hj : ffA a (ffL a ws k) (ws.getD k 0) < (ffL a ws k).length
    · have hd : (ffL a ws k)[ffA a (ffL a ws k) (ws.getD k 0)] + ws.getD k 0 ≤ a := by
        have := List.findIdx_getElem (p := fun u => decide (u + ws.getD k 0 ≤ a)) (xs := ffL a ws k) (w := hj)
        exact of_decide_eq_true this
      unfold ffS at hu
      rw [if_pos hj] at hu
      rcases List.mem_or_eq_of_mem_set hu with h1 | h1
      · exact ih u h1
      · rw [List.getD_eq_getElem?_getD, List.getElem?_eq_getElem hj] at h1
        have h2 := ih _ (List.getElem_mem hj)
        simp only [Option.getD_some] at h1
        omega
    · unfold ffS at hu
      rw [if_neg hj, List.mem_append] at hu
      rcases hu with h1 | h1
      · exact ih u h1
      · have : u = ws.getD k 0 := by simpa using h1
        omega
theorem own_put {w : World} {base g cap : Nat} {t : TypeId} {l : List Int} {i : Nat} (z : Int) (h : w.ownsRow base t 1 (.slice (some ⟨g, 0, none⟩) l.length cap) l.length (l.map (Value.int .i64))) (hi : i < l.length) :
    (w.setCell ⟨g, i, none⟩ (.int .i64 z)).ownsRow base t 1 (.slice (some ⟨g, 0, none⟩) (l.set i z).length cap) (l.set i z).length ((l.set i z).map (Value.int .i64)) := by
  rcases h.2 with ⟨h1, _⟩ | ⟨g', cap', cur, e, hb, hg, hc, hm, hs, ht⟩
  · cases h1
  · injection e with e1 e2 e3
    injection e1 with e1
    injection e1 with e1 e4
    subst e1 e3
    refine ⟨by simp, .inr ⟨g, cap, cur.setIfInBounds i (.int .i64 z), rfl, hb, heap_setCell_same _ _ _ _ _ _ hg, by simpa using hc, hm, by simpa using hs, ?_⟩⟩
    rw [List.length_set, Array.toList_setIfInBounds, List.take_set, ht, List.map_set]
theorem own_at2 {w : World} {base : Nat} {t : TypeId} {v : Value} {l : List Int} (h : w.ownsRow base t 1 v l.length (l.map (Value.int .i64))) (h0 : 0 < l.length) : ∃ g c, v = .slice (some ⟨g, 0, none⟩) l.length c ∧ base ≤ g ∧ g < w.heap.size ∧ (∀ (k : Nat) (hk : k < l.length), w.cell? ⟨g, k, none⟩ = some (.int .i64 l[k])) ∧ ∀ k, w.frozen? ⟨g, k, none⟩ = false := by
  obtain ⟨g, c, e, hg, hc⟩ := own_at h h0
  subst e
  refine ⟨g, c, rfl, (h.lt g rfl).1, hg, hc, fun k => ?_⟩
  rcases h.2 with ⟨h1, _⟩ | ⟨g', cap', cur, e, hb, hh, _⟩
  · cases h1
  · injection e with e1 e2 e3
    injection e1 with e1
    injection e1 with e1 e4
    subst e1
    exact frozen_of_row w g k cur _ hh

set_option maxHeartbeats 16000000 in
theorem l04Needed_any (v v2 : Value) (hs : List Int) (xs : List Bk) (a : Int) (wx : ∀ b ∈ xs, b.Wf) (w : World) (s1 : IntsOf .i64 w v hs) (s2 : SliceOf w v2 xs) (l6 : hs.length ≤ 6) (ok : okB xs = true) (a1 : 1 ≤ a) (a2 : a ≤ 2000) :
    Calls Try.prog 35 #[v, v2, .int .i64 a] w fun e w' => ∃ u, e = .returned u ∧ w'.ownsRow w.heap.size 2 1 u (shTo (ndF a) hs xs hs.length).length ((shTo (ndF a) hs xs hs.length).map (Value.int .i64)) ∧ Below w.heap.size w w' := by
  obtain ⟨i0, hi0, hz0, hz1, hz2⟩ := info_parts infoI64G
  have WX := Lib.hid wx
  have S1 := Lib.hid s1
  have S2 := Lib.hid s2
  have l60 := okB_len ok
  have WB := Lib.hid (fun i => wdL_bd (hs := hs) ok i)
  have GM := Lib.hid (fun i j hj => grP_mem (hs := hs) (xs := xs) (i := i) xs.length (Nat.le_refl _) j hj)
  have GL := Lib.hid (fun i => grP_len hs xs i xs.length)
  obtain ⟨B, d, rfl, hat2⟩ := s2
  have H2 := Lib.hid hat2
  clear wx s1 hat2 ok
  go_enter Try.func35, Try.ntmps35
  go_wp2_with fail
  refine (l04Groups_any v _ hs xs WX.out _ S1.out S2.out l6 l60).mono ?_
  rintro e w2 ⟨o, vs, rfl, hvl, htl, g2⟩
  have TT := Lib.hid htl
  have VL := Lib.hid hvl
  have B2 := Lib.hid g2
  have z2 := g2.size
  have O0 := Lib.hid (show (w2.alloc (.cells #[] 2)).ownsRow w2.heap.size 2 1 (.slice (some ⟨w2.heap.size, 0, none⟩) 0 0) (shTo (ndF a) hs xs 0).length ((shTo (ndF a) hs xs 0).map (Value.int .i64)) from ownI0S w2 _ (Nat.le_refl _))
  obtain ⟨Ao, co, rfl⟩ := vlen_own1 htl.1
  clear htl g2 hvl
  go_wp2
  go_loopw [8, 9] (fun u_ i_ wr => ∃ (u : Value) (i : Nat), u = u_ ∧ i ≤ hs.length ∧ i_ = .int .i64 (i : Int) ∧ wr.ownsRow w2.heap.size 2 1 u (shTo (ndF a) hs xs i).length ((shTo (ndF a) hs xs i).map (Value.int .i64)) ∧ Below w2.heap.size w2 wr) (fun _ i_ _ => hs.length - (intOf i_).toNat)
  case atStart => exact ⟨_, 0, rfl, Nat.zero_le _, rfl, O0.out, (Below.refl _ _).alloc (Nat.le_refl _) _⟩
  case round =>
    obtain ⟨u, i, rfl, hi, rfl, ho, hb⟩ := hrel
    have OW := Lib.hid ho
    have HB := Lib.hid hb
    have zr := hb.size
    have SL := Lib.hid (shTo_length (ndF a) hs xs i)
    clear ho hb
    by_cases hlt : i < hs.length
    · have hiv : i < vs.length := by have := VL.out; omega
      obtain ⟨go, co2, eo, hgo, hco⟩ := TT.out.outer (by omega)
      obtain ⟨rfl, rfl⟩ : Ao = some ⟨go, 0, none⟩ ∧ co = co2 := by injection eo with q1 q2 q3; exact ⟨q1, q3⟩
      have c1 := (HB.out.cell (p := ⟨go, i, none⟩) hgo).trans (hco i hiv)
      have OG := Lib.hid (TT.out.get hiv)
      have WBI := Lib.hid (WB.out i)
      have GMI := Lib.hid (GM.out i)
      have GLI := GL.out i
      obtain ⟨l, hl⟩ : ∃ l, grP hs xs i xs.length = l := ⟨_, rfl⟩
      have SE := Lib.hid (show shTo (ndF a) hs xs (i + 1) = shTo (ndF a) hs xs i ++ [ndF a (wdL xs l)] by rw [shTo, hl])
      have OG := Lib.hid (show w2.ownsRow w.heap.size 2 1 vs[i] l.length (l.map (Value.int .i64)) by rw [← hl]; exact OG.out)
      rw [hl] at WBI GMI GLI
      obtain ⟨Ag, cg, hvg⟩ := vlen_own1 OG.out
      have OG := Lib.hid (show w2.ownsRow w.heap.size 2 1 (.slice Ag l.length cg) l.length (l.map (Value.int .i64)) by rw [← hvg]; exact OG.out)
      rw [hvg] at c1
      have iv : (i : Int) < (vs.length : Int) := by omega
      have WLn := Lib.hid (wdL_length xs l)
      have FB := Lib.hid (ffL_bd a2 WBI.out)
      have FN := Lib.hid (ffL_len a (wdL xs l))
      obtain ⟨wo, rfl⟩ : ∃ wo : World, wo = wr := ⟨_, rfl⟩
      have C1 := Lib.hid (fun (W : World) (hB : Below wo.heap.size wo W) => (hB.cell (p := ⟨go, i, none⟩) (Nat.lt_of_lt_of_le hgo zr)).trans c1)
      have P0 := Lib.hid (show (wo.alloc (.cells #[] 2)).ownsRow wo.heap.size 2 1 (.slice (some ⟨wo.heap.size, 0, none⟩) 0 0) (ffL a (wdL xs l) 0).length ((ffL a (wdL xs l) 0).map (Value.int .i64)) from ownI0S wo _ (Nat.le_refl _))
      clear hl hvg hco eo c1
      go_wp2
      go_loopw [10, 11] (fun u_ k_ wx => ∃ (uu : Value) (k : Nat), uu = u_ ∧ k ≤ l.length ∧ k_ = .int .i64 (k : Int) ∧ wx.ownsRow wo.heap.size 2 1 uu (ffL a (wdL xs l) k).length ((ffL a (wdL xs l) k).map (Value.int .i64)) ∧ Below wo.heap.size wo wx) (fun _ k_ _ => l.length - (intOf k_).toNat)
      case atStart => exact ⟨_, 0, rfl, Nat.zero_le _, rfl, P0.out, (Below.refl _ _).alloc (Nat.le_refl _) _⟩
      case round =>
        obtain ⟨uu, k, rfl, hk, rfl, ho, hb⟩ := hrel
        have OX := Lib.hid ho
        have HX := Lib.hid hb
        have zx := hb.size
        have fn := FN.out k
        have FBK := Lib.hid (FB.out k)
        have c1 := C1.out _ HX.out
        clear ho hb
        by_cases hlk : k < l.length
        · obtain ⟨gg, cg2, eg, hgg, hcg⟩ := own_at OG.out (by omega)
          obtain ⟨rfl, rfl⟩ : Ag = some ⟨gg, 0, none⟩ ∧ cg = cg2 := by injection eg with q1 q2 q3; exact ⟨q1, q3⟩
          have c2 := ((bnext HB.out HX.out).cell (p := ⟨gg, k, none⟩) hgg).trans (hcg k hlk)
          obtain ⟨n', hn', hnl, -⟩ := GMI.out l[k] (List.getElem_mem hlk)
          obtain ⟨gb, ob, rfl, hgb, hcb⟩ := H2.out (by omega)
          have p5 := (booksAt_some (hcb.below (bnext (bnext B2.out HB.out) HX.out) hgb) hnl).2.2.2.2.2.1
          have eb : bkA xs l[k] = xs[n'] := by rw [hn']; simp [bkA, List.getD, List.getElem?_eq_getElem hnl]
          have FS := Lib.hid (show ffL a (wdL xs l) (k + 1) = ffS a (ffL a (wdL xs l) k) xs[n'].wi by rw [ffL, wd_getD hlk, eb])
          have xb := WBI.out _ (show xs[n'].wi ∈ wdL xs l by rw [← eb]; exact List.mem_map.2 ⟨l[k], List.getElem_mem hlk, rfl⟩)
          rw [hn'] at c2
          have nn : (n' : Int) < (xs.length : Int) := by omega
          have kl : (k : Int) < (l.length : Int) := by omega
          clear hcb hcg hn' eb eg
          generalize xs[n'].wi = x at *
          obtain ⟨us, hus⟩ : ∃ us, ffL a (wdL xs l) k = us := ⟨_, rfl⟩
          rw [hus] at OX FBK fn FS
          obtain ⟨Au, cu, rfl⟩ := vlen_own1 OX.out
          obtain ⟨x1, x2⟩ := xb
          clear hus
          obtain ⟨wi, rfl⟩ : ∃ wi : World, wi = wr := ⟨_, rfl⟩
          go_wp2
          clear c1 c2 p5
          go_loopw [13] (fun j_ wy => ∃ j : Nat, j ≤ us.length ∧ j_ = .int .i64 (j : Int) ∧ (∀ (t : Nat) (ht : t < us.length), t < j → a < us[t] + x) ∧ wy = wi) (fun j_ _ => us.length - (intOf j_).toNat)
          case atStart => exact ⟨0, Nat.zero_le _, rfl, fun t ht h => absurd h (Nat.not_lt_zero _), rfl⟩
          case round =>
            obtain ⟨j, hj, rfl, hall, rfl⟩ := hrel
            have HALL := Lib.hid hall
            clear hall
            by_cases hju : j < us.length
            · have d1 : decide ((j : Int) < (us.length : Int)) = true := decide_eq_true (by omega)
              have d2 : (j : Int) < (us.length : Int) := by omega
              obtain ⟨gu, cu2, eu, hbu, hgu, hcu, hfu⟩ := own_at2 OX.out (by omega)
              obtain ⟨rfl, rfl⟩ : Au = some ⟨gu, 0, none⟩ ∧ cu = cu2 := by injection eu with q1 q2 q3; exact ⟨q1, q3⟩
              have cj := hcu j hju
              obtain ⟨u1, u2⟩ := FBK.out _ (List.getElem_mem hju)
              by_cases hx : a < us[j] + x
              · have ALL2 := Lib.hid (show ∀ (t : Nat) (ht : t < us.length), t < j + 1 → a < us[t] + x from fun t ht htj => by
                  by_cases e : t = j
                  · subst e; exact hx
                  · exact HALL.out t ht (by omega))
                have d3 : decide (a < us[j] + x) = true := decide_eq_true hx
                clear hcu eu
                generalize us[j] = uj at *
                go_wp2
                go_roundw
                case rel => exact ⟨j + 1, by omega, by go_num, ALL2.out, by first | rfl | trivial⟩
                case measure => simp [intOf]; omega
              · have FE := Lib.hid (show ffL a (wdL xs l) (k + 1) = us.set j (us[j] + x) by rw [FS.out]; exact ffS_at hju (by omega) HALL.out)
                have d3 : decide (a < us[j] + x) = false := decide_eq_false hx
                have d4 : ((j : Int) == (us.length : Int)) = false := by rw [beq_eq_false_iff_ne]; omega
                have OP := Lib.hid (own_put (us[j] + x) OX.out hju)
                have HP := Lib.hid (show Below wo.heap.size wo (wr.setCell ⟨gu, j, none⟩ (.int .i64 (us[j] + x))) from HX.out.setCell (p := ⟨gu, j, none⟩) hbu _)
                have ul : (us.set j (us[j] + x)).length = us.length := List.length_set
                rw [← FE.out] at OP
                have FEL := Lib.hid (show (ffL a (wdL xs l) (k + 1)).length = us.length by rw [FE.out, ul])
                clear hcu eu ul
                generalize us[j] = uj at *
                have hx2 : uj + x ≤ a := by omega
                have jn : ¬ (j : Int) = (us.length : Int) := by omega
                go_wp2
                go_roundw
                case rel => exact ⟨_, k + 1, rfl, by omega, by go_num, by have h := OP.out; rw [FEL.out] at h ⊢; exact h, HP.out⟩
                case measure => simp [intOf]; omega
            · obtain rfl : j = us.length := by omega
              have d1 : decide ((us.length : Int) < (us.length : Int)) = false := decide_eq_false (by omega)
              have FE := Lib.hid (show ffL a (wdL xs l) (k + 1) = us ++ [x] by rw [FS.out]; exact ffS_none (fun t ht => HALL.out t ht ht))
              go_wp2_with (at_builtin; refine wpList_append_own _ rfl _ _ _ rfl wo.heap.size 2 i0 (.int .i64 0) 1 8 Try.underlying35 hi0 hz0 hz1 hz2 rfl (by decide) _ _ _ rfl (OX.out.alloc _) ⟨_, 0, none⟩ 1 1 [.int .i64 0] rfl rfl (cell_one_new _ _ _) (by intro u hu; simp at hu; subst hu; rfl) (by unfold maxLen; omega) (by omega) (by simp; omega) ?_)
              intro v' w4 ho4 hg4 _
              have O4 := Lib.hid (show w4.ownsRow wo.heap.size 2 1 v' (us ++ [0]).length ((us ++ [0]).map (Value.int .i64)) by rw [List.length_append, List.map_append]; exact ho4)
              have H4 := Lib.hid ((HX.out.alloc zx _).grown hg4 (by simp; omega) (fun q hq => (OX.out.lt q hq).1))
              clear ho4 hg4
              have l4 : (us ++ [(0 : Int)]).length = us.length + 1 := by simp
              obtain ⟨gu, cu2, rfl, hbu, hgu, hcu, hfu⟩ := own_at2 O4.out (by omega)
              have cj := hcu us.length (by omega)
              rw [List.getElem_append_right (Nat.le_refl _)] at cj
              simp only [Nat.sub_self, List.getElem_cons_zero] at cj
              have OP := Lib.hid (own_put (i := us.length) x O4.out (by omega))
              have ES := Lib.hid (show (us ++ [(0 : Int)]).set us.length x = us ++ [x] by rw [List.set_append_right _ _ (Nat.le_refl _), Nat.sub_self]; rfl)
              rw [ES.out, ← FE.out] at OP
              have FEL := Lib.hid (show (ffL a (wdL xs l) (k + 1)).length = us.length + 1 by rw [FE.out]; simp)
              have HP := Lib.hid (show Below wo.heap.size wo (w4.setCell ⟨gu, us.length, none⟩ (.int .i64 x)) from H4.out.setCell (p := ⟨gu, us.length, none⟩) hbu _)
              rw [l4]
              have d5 : (us.length : Int) < (us.length : Int) + 1 := by omega
              clear hcu l4
              go_wp2
              go_roundw
              case rel => exact ⟨_, k + 1, rfl, by omega, by go_num, by have h := OP.out; rw [FEL.out] at h ⊢; exact h, by have h := HP.out; simpa using h⟩
              case measure => simp [intOf]; omega
        · obtain rfl : k = l.length := by omega
          have NF := Lib.hid (show ndF a (wdL xs l) = ((ffL a (wdL xs l) l.length).length : Int) by unfold ndF; rw [WLn.out])
          obtain ⟨Au, cu, rfl⟩ := vlen_own1 OX.out
          obtain ⟨m, hm⟩ : ∃ m, (ffL a (wdL xs l) l.length).length = m := ⟨_, rfl⟩
          rw [hm] at NF fn ⊢
          have OW7 := Lib.hid (ownBelow OW.out HX.out)
          have H7 := Lib.hid (bnext HB.out HX.out)
          have z7 := H7.out.size
          have sl := SL.out
          clear hm
          go_wp2_with (at_builtin; refine wpList_append_own _ rfl _ _ _ rfl w2.heap.size 2 i0 (.int .i64 0) 1 8 Try.underlying35 hi0 hz0 hz1 hz2 rfl (by decide) _ _ _ rfl (OW7.out.alloc _) ⟨_, 0, none⟩ 1 1 [.int .i64 (m : Int)] rfl rfl (cell_one_new _ _ _) (by intro u hu; simp at hu; subst hu; rfl) (by unfold maxLen; omega) (by omega) (by simp; omega) ?_)
          intro v' w8 ho8 hg8 _
          have O8 := Lib.hid (show w8.ownsRow w2.heap.size 2 1 v' (shTo (ndF a) hs xs (i + 1)).length ((shTo (ndF a) hs xs (i + 1)).map (Value.int .i64)) by rw [SE.out, NF.out, List.length_append, List.map_append]; first | exact ho8 | (rw [SL.out]; exact ho8))
          have H8 := Lib.hid ((H7.out.alloc z7 _).grown hg8 (by simp; omega) (fun q hq => (OW7.out.lt q hq).1))
          clear ho8 hg8 sl
          go_wp2
          go_roundw
          case rel => exact ⟨_, i + 1, rfl, by omega, by go_num, O8.out, H8.out⟩
          case measure => simp [intOf]; omega
    · obtain rfl : i = hs.length := by omega
      have hnv : ¬ (hs.length : Int) < (vs.length : Int) := by have := VL.out; omega
      go_wp2
      go_ret
      exact ⟨_, rfl, ownMono OW.out z2, bnext B2.out HB.out⟩
end Go.Proofs.Ytlphpajpjpohmab
