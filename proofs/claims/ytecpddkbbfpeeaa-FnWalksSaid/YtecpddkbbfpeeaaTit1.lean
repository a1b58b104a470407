/- Where wanted books stand, by the model: the plain form and a contract. Condition: lists no longer than can be, whose numbers lie within their kinds. -/
import Derived.Test.YtecpddkbbfpeeaaTit0
import Derived.Test.YtecpddkbbfpeeaaUse
import Derived.Test.YtecpddkbbfpeeaaHas
import Derived.Test.YtecpddkbbfpeeaaFields
import Derived.Test.YtecpddkbbfpeeaaQuiet
import Derived.Test.YtecpddkbbfpeeaaOwn
import Derived.Test.YtecpddkbbfpeeaaRuns2
import Derived.Maps.AppendAt
import Derived.BigQuiet
namespace Go.Proofs.Ytecpddkbbfpeeaa
set_option linter.unusedSimpArgs false
set_option linter.unusedVariables false
set_option maxRecDepth 100000
open Go.RowKit

/-- A book as it is told by its title. -/
def ttl (b : Bk) : Bk := ⟨b.c, b.m0, b.m1, b.m2, b.v, 0, 0, 0⟩
theorem usual_zero {a b : Bk} (wa : a.Wf) (wb : b.Wf) : usual a b = 0 ↔ ttl a = ttl b := by
  rw [usual_key a b wa wb]
  have hs : sgn (keyU a) (keyU b) = 0 ↔ keyU a = keyU b := by unfold sgn; split <;> (try split) <;> omega
  rw [hs]
  obtain ⟨a1, a2, a3, a4, a5, a6, a7, a8⟩ := a
  obtain ⟨b1, b2, b3, b4, b5, b6, b7, b8⟩ := b
  obtain ⟨p1, p2, p3, p4, p5, _⟩ := wa
  obtain ⟨q1, q2, q3, q4, q5, _⟩ := wb
  simp only at p1 p2 p3 p4 p5 q1 q2 q3 q4 q5
  simp only [keyU, ttl, Bk.mk.injEq, and_true]
  omega
def wtB (xs ws : List Bk) : Bool := (List.range ws.length).all fun i => decide (cntT ttl ws (ttl (ws.getD i default)) i < (plc ttl xs (ttl (ws.getD i default)) xs.length).length)
theorem wtB_iff {xs ws : List Bk} : wtB xs ws = true ↔ TkOk ttl xs ws ws.length := by
  unfold wtB TkOk
  rw [List.all_eq_true]
  constructor
  · intro h i hi
    simpa using h i (List.mem_range.2 hi)
  · intro h i hi
    simpa using h i (List.mem_range.1 hi)
def wtC (xs ws : List Bk) : Int := if okB xs = false then 1 else if okB ws = false then 1 else if wtB xs ws then 0 else 6
def wtL (xs ws : List Bk) : List Int := if wtC xs ws = 0 then (tkTo ttl xs ws ws.length).map (fun (n : Nat) => (n : Int)) else []
theorem wt_good {xs ws : List Bk} (h1 : okB xs = true) (h2 : okB ws = true) (h : TkOk ttl xs ws ws.length) : wtC xs ws = 0 ∧ wtL xs ws = (tkTo ttl xs ws ws.length).map (fun (n : Nat) => (n : Int)) := by
  have e : wtC xs ws = 0 := by unfold wtC; rw [if_neg (by rw [h1]; decide), if_neg (by rw [h2]; decide), wtB_iff.2 h]; rfl
  exact ⟨e, by unfold wtL; rw [if_pos e]⟩
theorem wt_none {xs ws : List Bk} (h1 : okB xs = true) (h2 : okB ws = true) (h : ¬ TkOk ttl xs ws ws.length) : wtC xs ws = 6 ∧ wtL xs ws = [] := by
  have hb : wtB xs ws = false := by
    cases q : wtB xs ws
    · rfl
    · exact absurd (wtB_iff.1 q) h
  have e : wtC xs ws = 6 := by unfold wtC; rw [if_neg (by rw [h1]; decide), if_neg (by rw [h2]; decide), hb]; rfl
  exact ⟨e, by unfold wtL; rw [e]; rfl⟩
theorem wt_inv {xs ws : List Bk} (h : okB xs = false ∨ okB ws = false) : wtC xs ws = 1 ∧ wtL xs ws = [] := by
  have e : wtC xs ws = 1 := by
    unfold wtC
    rcases h with h | h
    · rw [if_pos h]
    · by_cases q : okB xs = false
      · rw [if_pos q]
      · rw [if_neg q, if_pos h]
  exact ⟨e, by unfold wtL; rw [e]; rfl⟩
theorem wtL_len (xs ws : List Bk) : (wtL xs ws).length ≤ ws.length := by
  unfold wtL
  split
  · rw [List.length_map, tk_len]; exact Nat.le_refl _
  · exact Nat.zero_le _
def tkI (xs ws : List Bk) (j : Nat) : List Int := (tkTo ttl xs ws j).map (fun (n : Nat) => (n : Int))
theorem tkI_len (xs ws : List Bk) (j : Nat) : (tkI xs ws j).length = j := by unfold tkI; rw [List.length_map, tk_len]
theorem tkI_mem {xs ws : List Bk} {j k : Nat} : memB (tkI xs ws j) (k : Int) = decide (k ∈ tkTo ttl xs ws j) := by
  unfold memB tkI
  refine decide_eq_decide.2 ?_
  rw [List.mem_map]
  constructor
  · rintro ⟨a, ha, e⟩
    have : a = k := by omega
    rwa [← this]
  · exact fun h => ⟨k, h, rfl⟩
theorem own_emptyI (W : World) (B : Nat) (h : B ≤ W.heap.size) : (W.alloc (.cells #[] 2)).ownsRow B 2 1 (.slice (some ⟨W.heap.size, 0, none⟩) 0 0) 0 [] :=
  ⟨rfl, .inr ⟨W.heap.size, 0, #[], rfl, h, heap_alloc_new W _, Nat.le_refl _, Nat.zero_le _, rfl, rfl⟩⟩

set_option maxHeartbeats 8000000 in
theorem specWalkTo_any (v0 v1 : Value) (xs ws : List Bk) (wf : ∀ b ∈ xs, b.Wf) (wfw : ∀ b ∈ ws, b.Wf) (w : World) (hs : SliceOf w v0 xs) (hs1 : SliceOf w v1 ws) (hm : xs.length ≤ maxLen) (hmw : ws.length ≤ maxLen) :
    Calls Try.prog 16 #[v0, v1] w fun e w' => ∃ u, e = .returned (.tuple #[u, .int .i64 (wtC xs ws)]) ∧ w'.ownsRow w.heap.size 2 1 u (wtL xs ws).length ((wtL xs ws).map (Value.int .i64)) ∧ Below w.heap.size w w' := by
  have LO := Lib.hid (fun W (h : SliceOf W v0 xs) => l01Ok_any v0 xs wf W h hm)
  have LW := Lib.hid (fun W (h : SliceOf W v1 ws) => l01Ok_any v1 ws wfw W h hmw)
  have LH := Lib.hid (fun W v q n (h : IntsOf .i64 W v q) (hq : q.length ≤ maxLen) => l00Has_any v q n W h hq)
  have SL := Lib.hid hs
  have SW := Lib.hid hs1
  have WF := Lib.hid wf
  have WW := Lib.hid wfw
  obtain ⟨i0, hi0, hz0, hz1, hz2⟩ := info_parts infoInt64
  obtain ⟨A, c, rfl, hat⟩ := hs
  have HS := Lib.hid hat
  obtain ⟨A1, c1, rfl, hat1⟩ := hs1
  have HW := Lib.hid hat1
  clear hat hat1 wf wfw
  cases hok : okB xs
  · obtain ⟨e1, e2⟩ := wt_inv (ws := ws) (.inl hok)
    rw [e1, e2]
    rw [hok] at LO
    go_enter Try.func16, Try.ntmps16
    go_wp2_with fail
    refine (LO.out _ SL.out).mono ?_
    rintro e w1 ⟨rfl, h1⟩
    have O1 := Lib.hid (own_emptyI w1 w.heap.size h1.size)
    go_wp2
    go_ret2
    exact ⟨_, rfl, O1.out, h1.alloc h1.size _⟩
  · cases hokw : okB ws
    · obtain ⟨e1, e2⟩ := wt_inv (xs := xs) (.inr hokw)
      rw [e1, e2]
      rw [hok] at LO
      rw [hokw] at LW
      go_enter Try.func16, Try.ntmps16
      go_wp2_with fail
      refine (LO.out _ SL.out).mono ?_
      rintro e w1 ⟨rfl, h1⟩
      go_wp2_with fail
      refine (LW.out _ (SW.out.below h1)).mono ?_
      rintro e w2 ⟨rfl, h2⟩
      have B2 := Lib.hid (bnext h1 h2)
      have O1 := Lib.hid (own_emptyI w2 w.heap.size B2.out.size)
      go_wp2
      go_ret2
      exact ⟨_, rfl, O1.out, B2.out.alloc B2.out.size _⟩
    · have x60 : xs.length ≤ 60 := by have h := hok; unfold okB at h; simp at h; exact h.2
      have w60 : ws.length ≤ 60 := by have h := hokw; unfold okB at h; simp at h; exact h.2
      have OK := Lib.hid hok
      have OW := Lib.hid hokw
      rw [hok] at LO
      rw [hokw] at LW
      clear hok hokw
      go_enter Try.func16, Try.ntmps16
      go_wp2_with fail
      refine (LO.out _ SL.out).mono ?_
      rintro e w1 ⟨rfl, h1⟩
      go_wp2_with fail
      refine (LW.out _ (SW.out.below h1)).mono ?_
      rintro e w2 ⟨rfl, h2⟩
      have B2 := Lib.hid (bnext h1 h2)
      have O2 := Lib.hid (show (w2.alloc (.cells #[] 2)).ownsRow w.heap.size 2 1 (.slice (some ⟨w2.heap.size, 0, none⟩) 0 0) (tkI xs ws 0).length ((tkI xs ws 0).map (Value.int .i64)) from own_emptyI w2 w.heap.size B2.out.size)
      have B3 := Lib.hid (B2.out.alloc B2.out.size (.cells #[] 2))
      clear h1 h2 B2
      go_wp2
      go_loopw [6, 7] (fun v_ i_ wr => ∃ (v : Value) (j : Nat), v = v_ ∧ j ≤ ws.length ∧ i_ = .int .i64 (j : Int) ∧ TkOk ttl xs ws j ∧ wr.ownsRow w.heap.size 2 1 v (tkI xs ws j).length ((tkI xs ws j).map (Value.int .i64)) ∧ Below w.heap.size w wr) (fun _ i_ _ => ws.length - (intOf i_).toNat)
      case atStart => exact ⟨_, 0, rfl, Nat.zero_le _, rfl, (fun i hi => absurd hi (Nat.not_lt_zero _)), O2.out, B3.out⟩
      case round =>
        clear O2 B3
        obtain ⟨v, j, rfl, hj, rfl, hok2, hown, hb⟩ := hrel
        have TK := Lib.hid hok2
        have OA := Lib.hid hown
        have HB := Lib.hid hb
        have TL := tkI_len xs ws j
        clear hok2 hown hb
        by_cases hlt : j < ws.length
        · obtain ⟨gb, ob, rfl, hgb, hatw⟩ := HW.out (by omega)
          have HAW := Lib.hid hatw
          have WJ := Lib.hid (WW.out _ (List.getElem_mem hlt))
          have GJ := Lib.hid (getD_nth hlt)
          have OI := Lib.hid (ownInts OA.out)
          clear hatw
          go_wp2
          go_loopw [8] (fun k_ wr => ∃ (k : Nat), k ≤ xs.length ∧ k_ = .int .i64 (k : Int) ∧ (∀ b, b < k → ttl (xs.getD b default) = ttl (ws.getD j default) → b ∈ tkTo ttl xs ws j) ∧ wr.ownsRow w.heap.size 2 1 v (tkI xs ws j).length ((tkI xs ws j).map (Value.int .i64)) ∧ Below w.heap.size w wr) (fun k_ _ => xs.length - (intOf k_).toNat)
          case atStart => exact ⟨0, Nat.zero_le _, rfl, (fun b hb => absurd hb (Nat.not_lt_zero _)), OA.out, HB.out⟩
          case round =>
            clear OA HB OI
            obtain ⟨k, hk, rfl, hseen, hown, hb⟩ := hrel
            have HN := Lib.hid hseen
            have OA := Lib.hid hown
            have HB := Lib.hid hb
            clear hseen hown hb
            by_cases hkx : k < xs.length
            · obtain ⟨ga, oa, rfl, hga, hat⟩ := HS.out (by omega)
              have WK := Lib.hid (WF.out _ (List.getElem_mem hkx))
              have GK := Lib.hid (getD_nth hkx)
              have zg := Nat.lt_of_lt_of_le hga HB.out.size
              have zb := Nat.lt_of_lt_of_le hgb HB.out.size
              have A0 := Lib.hid ((hat.below HB.out hga).at_ zg hkx)
              have A2 := Lib.hid ((HAW.out.below HB.out hgb).at_ zb hlt)
              have UZ := Lib.hid (usual_zero WK.out WJ.out)
              have HI := Lib.hid (fun (p : BelowBy wr) => show Calls Try.prog 39 #[v, .int .i64 (k : Int)] p.W fun e w' => e = .returned (.bool (decide (k ∈ tkTo ttl xs ws j))) ∧ Below p.W.heap.size p.W w' by rw [← tkI_mem]; exact LH.out p.W v (tkI xs ws j) (k : Int) ((ownInts OA.out).below p.h) (by rw [TL]; unfold maxLen; omega))
              clear hat
              generalize xs[k] = xk at *
              generalize ws[j] = wj at *
              have LU := Lib.hid (fun W (h1 : BkAt W ga (oa + k * 8) xk) (h2 : BkAt W gb (ob + j * 8) wj) => l01Usual_any xk wj WK.out WJ.out _ _ _ _ W h1 h2)
              by_cases hu : usual xk wj = 0
              · have ET := Lib.hid (UZ.out.1 hu)
                rw [hu] at LU
                clear hu
                by_cases hin : k ∈ tkTo ttl xs ws j
                · rw [decide_eq_true hin] at HI
                  have HN2 := Lib.hid (show ∀ b, b < k + 1 → ttl (xs.getD b default) = ttl (ws.getD j default) → b ∈ tkTo ttl xs ws j from fun b hb he => by
                    by_cases q : b = k
                    · rw [q]; exact hin
                    · exact HN.out b (by omega) he)
                  clear hin
                  go_wp2
                  refine wp_region_below (by kernel_rfl) (by kernel_rfl) ?_
                  repeat (first | go_big_quiet_step ((first | (go_at_call 38; exact calls_below (LU.out _ (A0.out.next (BelowBy.h _)) (A2.out.next (BelowBy.h _)))) | (go_at_call 39; exact calls_below (HI.out _)))) | quiet_step ((first | (go_at_call 38; exact calls_below (LU.out _ (A0.out.next (BelowBy.h _)) (A2.out.next (BelowBy.h _)))) | (go_at_call 39; exact calls_below (HI.out _)))))
                  refine wpQuiet_nil ?_
                  rintro wq ⟨⟨_, hq⟩, rfl⟩
                  have B7 := Lib.hid (HB.out.trans (hq.mono HB.out.size))
                  have O7 := Lib.hid (ownBelow OA.out hq)
                  clear hq
                  go_wp2
                  go_roundw
                  case rel => exact ⟨k + 1, by omega, by go_num, HN2.out, O7.out, B7.out⟩
                  case measure => simp [intOf]; omega
                · obtain ⟨t1, t2⟩ := tk_first hlt TK.out hkx (by rw [GK.out, GJ.out]; exact ET.out) hin HN.out
                  rw [decide_eq_false hin] at HI
                  have T1 := Lib.hid t1
                  have T2 := Lib.hid (show tkI xs ws (j + 1) = tkI xs ws j ++ [(k : Int)] by unfold tkI; rw [t2, List.map_append]; rfl)
                  have hne : ¬ k = xs.length := by omega
                  clear hin t1 t2
                  go_wp2
                  refine wp_region_below (by kernel_rfl) (by kernel_rfl) ?_
                  repeat (first | go_big_quiet_step ((first | (go_at_call 38; exact calls_below (LU.out _ (A0.out.next (BelowBy.h _)) (A2.out.next (BelowBy.h _)))) | (go_at_call 39; exact calls_below (HI.out _)))) | quiet_step ((first | (go_at_call 38; exact calls_below (LU.out _ (A0.out.next (BelowBy.h _)) (A2.out.next (BelowBy.h _)))) | (go_at_call 39; exact calls_below (HI.out _)))))
                  refine wpQuiet_nil ?_
                  rintro wq ⟨⟨_, hq⟩, rfl⟩
                  have B7 := Lib.hid (HB.out.trans (hq.mono HB.out.size))
                  have O7 := Lib.hid (ownBelow OA.out hq)
                  clear hq
                  have z7 := B7.out.size
                  go_wp2_with (at_builtin; refine wpList_append_own _ rfl (.tmp 51) (.tmp 53) _ rfl w.heap.size 2 i0 (.int .i64 0) 1 8 Try.underlying24 hi0 hz0 hz1 hz2 rfl (by decide) _ _ _ rfl (O7.out.alloc _) ⟨wq.heap.size, 0, none⟩ 1 1 [.int .i64 (k : Int)] rfl rfl ?c1 ?c2 ?c3 ?c4 ?c5 ?_)
                  case c1 => exact cell_one_new _ _ _
                  case c2 => (intro u hu; simp at hu; subst hu; rfl)
                  case c3 => (unfold maxLen; omega)
                  case c4 => omega
                  case c5 => (simp; omega)
                  intro v' w4 hown' hgrow' _
                  have OC := Lib.hid (show w4.ownsRow w.heap.size 2 1 v' (tkI xs ws (j + 1)).length ((tkI xs ws (j + 1)).map (Value.int .i64)) by rw [T2.out, List.length_append, List.map_append, TL]; exact hown')
                  have B9 := Lib.hid ((B7.out.alloc z7 _).grown hgrow' (by simp; omega) (fun k hk => (O7.out.lt k hk).1))
                  clear hown' hgrow'
                  go_wp2
                  go_roundw
                  case rel => exact ⟨_, j + 1, rfl, by omega, by go_num, T1.out, OC.out, B9.out⟩
                  case measure => simp [intOf]; omega
              · have hu2 : (usual xk wj != 0) = true := by simpa using hu
                have HN2 := Lib.hid (show ∀ b, b < k + 1 → ttl (xs.getD b default) = ttl (ws.getD j default) → b ∈ tkTo ttl xs ws j from fun b hb he => by
                  by_cases q : b = k
                  · rw [q, GK.out, GJ.out] at he
                    exact absurd (UZ.out.2 he) hu
                  · exact HN.out b (by omega) he)
                generalize usual xk wj = u at *
                go_wp2
                refine wp_region_below (by kernel_rfl) (by kernel_rfl) ?_
                repeat (first | go_big_quiet_step ((first | (go_at_call 38; exact calls_below (LU.out _ (A0.out.next (BelowBy.h _)) (A2.out.next (BelowBy.h _)))) | (go_at_call 39; exact calls_below (HI.out _)))) | quiet_step ((first | (go_at_call 38; exact calls_below (LU.out _ (A0.out.next (BelowBy.h _)) (A2.out.next (BelowBy.h _)))) | (go_at_call 39; exact calls_below (HI.out _)))))
                refine wpQuiet_nil ?_
                rintro wq ⟨⟨_, hq⟩, rfl⟩
                have B7 := Lib.hid (HB.out.trans (hq.mono HB.out.size))
                have O7 := Lib.hid (ownBelow OA.out hq)
                clear hq
                go_wp2
                go_roundw
                case rel => exact ⟨k + 1, by omega, by go_num, HN2.out, O7.out, B7.out⟩
                case measure => simp [intOf]; omega
            · obtain rfl : k = xs.length := by omega
              obtain ⟨e1, e2⟩ := wt_none OK.out OW.out (tk_stop (tk_none hlt TK.out HN.out) (by omega : j + 1 ≤ ws.length))
              have E := Lib.hid (And.intro e1 e2)
              clear e1 e2
              go_wp2
              refine wp_region_below (by kernel_rfl) (by kernel_rfl) ?_
              repeat (first | go_big_quiet_step ((first | (go_at_call 38; exact calls_below (LU.out _ (A0.out.next (BelowBy.h _)) (A2.out.next (BelowBy.h _)))) | (go_at_call 39; exact calls_below (HI.out _)))) | quiet_step ((first | (go_at_call 38; exact calls_below (LU.out _ (A0.out.next (BelowBy.h _)) (A2.out.next (BelowBy.h _)))) | (go_at_call 39; exact calls_below (HI.out _)))))
              refine wpQuiet_nil ?_
              rintro wq ⟨⟨_, hq⟩, rfl⟩
              have B7 := Lib.hid (HB.out.trans (hq.mono HB.out.size))
              have O7 := Lib.hid (ownBelow OA.out hq)
              clear hq
              have O9 := Lib.hid (own_emptyI wq w.heap.size B7.out.size)
              have B9 := Lib.hid (B7.out.alloc B7.out.size (.cells #[] 2))
              go_wp2
              go_ret2
              exact ⟨_, by rw [E.out.1]; rfl, by rw [E.out.2]; exact O9.out, B9.out⟩
        · obtain rfl : j = ws.length := by omega
          obtain ⟨e1, e2⟩ := wt_good OK.out OW.out TK.out
          have E := Lib.hid (And.intro e1 (show wtL xs ws = tkI xs ws ws.length from e2))
          clear e1 e2
          go_wp2
          go_ret2
          exact ⟨_, by rw [E.out.1]; rfl, by rw [E.out.2]; exact OA.out, HB.out⟩
end Go.Proofs.Ytecpddkbbfpeeaa
