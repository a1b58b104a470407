/- A case made of heights and counts, by the model: a contract. Condition: numbers within their kinds, slices no longer than can be. -/
import Derived.Test.YtblgoflkcomncaaCf0
import Derived.Test.YtblgoflkcomncaaCsM
import Derived.Test.YtblgoflkcomncaaOwnsI
import Derived.Maps.AppendAt
import Derived.Shelf.GgSortFunc.RowK
import Derived.Deep.AppendLies
import Derived.Deep.RegionHeldLaw
import Derived.Deep.RegionLaw
import Derived.Deep.Cut
import Derived.Laws.ResultCell
import Derived.IntWalk
namespace Go.Proofs.Ytblgoflkcomncaa
set_option linter.unusedSimpArgs false
set_option linter.unusedVariables false
set_option maxRecDepth 100000
open Go.RowKit Go.Sort

/-- What CaseFrom leaves. -/
def MadeCs (c : Cs) (k : Int) (w : World) (e : Ending) (w' : World) : Prop := ∃ u, e = .returned (.tuple #[.agg #[.int .i16 c.wi, .int .i32 c.lo, u], .int .i64 k]) ∧ w'.ownsRow w.heap.size 22 1 u c.hs.length (c.hs.map (Value.int .i16)) ∧ Below w.heap.size w w'
theorem madeCs_mk {c : Cs} {k : Int} {w w' : World} {e : Ending} (u : Value) (h1 : e = .returned (.tuple #[.agg #[.int .i16 c.wi, .int .i32 c.lo, u], .int .i64 k])) (h2 : w'.ownsRow w.heap.size 22 1 u c.hs.length (c.hs.map (Value.int .i16))) (h3 : Below w.heap.size w w') : MadeCs c k w e w' := ⟨u, h1, h2, h3⟩
theorem madeCs_none {c : Cs} {k k' : Int} {w w' : World} {e : Ending} (hc : c = ⟨0, 0, []⟩) (hk : k = k') (h1 : e = .returned (.tuple #[.agg #[.int .i16 0, .int .i32 0, .slice none 0 0], .int .i64 k'])) (h3 : Below w.heap.size w w') : MadeCs c k w e w' := by
  subst hc hk
  exact ⟨.slice none 0 0, h1, ⟨rfl, .inl ⟨rfl, rfl⟩⟩, h3⟩
theorem KB.drew {W : World} {g : Nat} {a b : Int} {hv : Value} (h : KB W g a b hv) : KB W.drew g a b hv := h
theorem KB.alloc {W : World} {g : Nat} {a b : Int} {hv : Value} (h : KB W g a b hv) (o : Obj) : KB (W.alloc o) g a b hv := (Below.heap_alloc W o g h.lt).trans h
theorem KB.other {W : World} {g : Nat} {a b : Int} {hv : Value} (h : KB W g a b hv) {g' : Nat} (hne : g ≠ g') (o : Nat) (v : Value) : KB (W.setCell ⟨g', o, none⟩ v) g a b hv := (Below.heap_setCell W ⟨g', o, none⟩ v g (by simpa using hne)).trans h
theorem kb_new (W : World) (a b : Int) (hv : Value) : KB (W.alloc (.cells #[.int .i16 a, .int .i32 b, hv] 28)) W.heap.size a b hv := heap_alloc_new W _
theorem own_sets {w : World} {B n : Nat} {t : TypeId} {v : Value} {l : List Value} (h : w.ownsRow B t 1 v n l) (g : Nat) (hne : ∀ k, v.ownBlock = some k → k ≠ g) (x y z : Value) : (((w.setCell ⟨g, 0, none⟩ x).setCell ⟨g, 1, none⟩ y).setCell ⟨g, 2, none⟩ z).ownsRow B t 1 v n l := by
  have st : ∀ (W : World) (o : Nat) (u : Value), W.ownsRow B t 1 v n l → (W.setCell ⟨g, o, none⟩ u).ownsRow B t 1 v n l := fun W o u hW => ownOther hW (only_set2 (World.grownBy.refl W (some g)) o u) (fun k hk e => hne k hk (by injection e))
  exact st _ 2 z (st _ 1 y (st _ 0 x h))
set_option maxHeartbeats 8000000 in
theorem specCaseFrom_any (p : Pg) (wf : p.Wf) (v v2 : Value) (hs ss : List Int) (wi lo : Int) (wz : ∀ z ∈ hs, (Lit.int .i64 z).wf = true) (wz2 : ∀ z ∈ ss, (Lit.int .i64 z).wf = true) (w : World) (s1 : IntsOf .i64 w v hs) (s2 : IntsOf .i64 w v2 ss) (h1 : hs.length ≤ maxLen) (h2 : ss.length ≤ maxLen) :
    Calls Try.prog 15 #[.agg #[.int .i16 p.lo, .int .i16 p.st, .int .i16 p.bo], v, v2, .int .i64 wi, .int .i64 lo] w (MadeCs (cfV p hs ss wi lo) (cfC p hs ss wi lo) w) := by
  have HN := Lib.hid ((PegIn.new w p 31).below (Below.refl _ _ |>.alloc (Nat.le_refl _) (.cells #[.int .i16 0, .int .i32 0, .slice none 0 0] 28)) (by simp))
  have G0 := Lib.hid (show Below w.heap.size w ((w.alloc (.cells #[.int .i16 p.lo, .int .i16 p.st, .int .i16 p.bo] 31)).alloc (.cells #[.int .i16 0, .int .i32 0, .slice none 0 0] 28)) by go_grown)
  have K0 := Lib.hid (show KB ((w.alloc (.cells #[.int .i16 p.lo, .int .i16 p.st, .int .i16 p.bo] 31)).alloc (.cells #[.int .i16 0, .int .i32 0, .slice none 0 0] 28)) (w.heap.size + 1) 0 0 (.slice none 0 0) by simpa using kb_new (w.alloc (.cells #[.int .i16 p.lo, .int .i16 p.st, .int .i16 p.bo] 31)) 0 0 (.slice none 0 0))
  have WF := Lib.hid wf
  have WZ := Lib.hid wz
  have S1 := Lib.hid (s1.below G0.out)
  have S2 := Lib.hid (s2.below G0.out)
  obtain ⟨A, q, rfl, ha⟩ := s1
  obtain ⟨A2, q2, rfl, ha2⟩ := s2
  have HA := Lib.hid ha
  have HA2 := Lib.hid ha2
  clear wf wz ha ha2
  have OK := Lib.hid (fun W (h : IntsOf .i64 W (.slice A hs.length q) hs) => l04Ok_any p WF.out (.slice A hs.length q) hs WZ.out W h h1)
  have OC := Lib.hid (fun W (h : IntsOf .i64 W (.slice A hs.length q) hs) (h' : IntsOf .i64 W (.slice A2 ss.length q2) ss) => l04Counts_any (.slice A hs.length q) (.slice A2 ss.length q2) hs ss 12 W h h' h1 h2)
  cases hb : hsB p hs
  · obtain ⟨E1, E2⟩ := cf_one ss wi lo hb
    have E1 := Lib.hid E1
    have E2 := Lib.hid E2
    rw [hb] at OK
    go_enter Try.func15, Try.ntmps15
    go_wp2_with fail
    generalize World.alloc (World.alloc _ _) _ = W0 at HN G0 K0 S1 S2 ⊢
    refine (OK.out _ S1.out).mono ?_
    rintro e w1 ⟨rfl, g1⟩
    have K1 := Lib.hid (K0.out.below g1)
    have G1 := Lib.hid (bnext G0.out g1)
    have fz := K1.out.fz
    have c0 := K1.out.c0
    have c1 := K1.out.c1
    have c2 := K1.out.c2
    go_wp2
    (try simp only [Exit.inBlock, Exit.then])
    refine bodyPost_ret (v := .tuple #[.agg #[.int .i16 0, .int .i32 0, .slice none 0 0], .int .i64 1]) (by rw [results_cell_tmp rfl]; go_simp) rfl ?_
    exact madeCs_none E2.out E1.out rfl (((G1.out.setCell (p := ⟨w.heap.size + 1, 0, none⟩) (Nat.le_succ _) _).setCell (p := ⟨w.heap.size + 1, 1, none⟩) (Nat.le_succ _) _).setCell (p := ⟨w.heap.size + 1, 2, none⟩) (Nat.le_succ _) _)
  · rw [hb] at OK
    have IW := Lib.hid (fun W => l00In_any wi 1 2000 W)
    have IL := Lib.hid (fun W => l00In_any lo 1 200000 W)
    go_enter Try.func15, Try.ntmps15
    go_wp2_with fail
    generalize World.alloc (World.alloc _ _) _ = W0 at HN G0 K0 S1 S2 ⊢
    refine (OK.out _ S1.out).mono ?_
    rintro e w1 ⟨rfl, g1⟩
    have K1 := Lib.hid (K0.out.below g1)
    have G1 := Lib.hid (bnext G0.out g1)
    cases ha : inB wi 1 2000
    · obtain ⟨E1, E2⟩ := cf_two (p := p) (hs := hs) (ss := ss) (wi := wi) (lo := lo) hb (by rw [ha]; rfl)
      have E1 := Lib.hid E1
      have E2 := Lib.hid E2
      rw [ha] at IW
      have fz := K1.out.fz
      have c0 := K1.out.c0
      have c1 := K1.out.c1
      have c2 := K1.out.c2
      go_wp2_with (go_at_call 70; (first | (with_reducible refine (IW.out _).mono ?_) | (with_reducible refine (IL.out _).mono ?_)); rintro e w' ⟨rfl, rfl⟩)
      (try simp only [Exit.inBlock, Exit.then])
      refine bodyPost_ret (v := .tuple #[.agg #[.int .i16 0, .int .i32 0, .slice none 0 0], .int .i64 2]) (by rw [results_cell_tmp rfl]; go_simp) rfl ?_
      exact madeCs_none E2.out E1.out rfl (((G1.out.setCell (p := ⟨w.heap.size + 1, 0, none⟩) (Nat.le_succ _) _).setCell (p := ⟨w.heap.size + 1, 1, none⟩) (Nat.le_succ _) _).setCell (p := ⟨w.heap.size + 1, 2, none⟩) (Nat.le_succ _) _)
    · rw [ha] at IW
      cases hc : cntB hs ss 12
      · obtain ⟨E1, E2⟩ := cf_two (p := p) (hs := hs) (ss := ss) (wi := wi) (lo := lo) hb (by rw [ha, hc]; cases inB lo 1 200000 <;> rfl)
        have E1 := Lib.hid E1
        have E2 := Lib.hid E2
        rw [hc] at OC
        go_wp2_with (first | (go_at_call 70; (first | (with_reducible refine (IW.out _).mono ?_) | (with_reducible refine (IL.out _).mono ?_)); rintro e w' ⟨rfl, rfl⟩) | (go_at_call 71; refine (OC.out _ (S1.out.below g1) (S2.out.below g1)).mono ?_; rintro e w2 ⟨rfl, g2⟩; have K2 := Lib.hid (K1.out.below g2); have G2 := Lib.hid (bnext G1.out g2); have fz2 := K2.out.fz; have d0 := K2.out.c0; have d1 := K2.out.c1; have d2 := K2.out.c2))
        (try simp only [Exit.inBlock, Exit.then])
        refine bodyPost_ret (v := .tuple #[.agg #[.int .i16 0, .int .i32 0, .slice none 0 0], .int .i64 2]) (by rw [results_cell_tmp rfl]; go_simp) rfl ?_
        exact madeCs_none E2.out E1.out rfl (((G2.out.setCell (p := ⟨w.heap.size + 1, 0, none⟩) (Nat.le_succ _) _).setCell (p := ⟨w.heap.size + 1, 1, none⟩) (Nat.le_succ _) _).setCell (p := ⟨w.heap.size + 1, 2, none⟩) (Nat.le_succ _) _)
      · rw [hc] at OC
        cases hl : inB lo 1 200000
        · obtain ⟨E1, E2⟩ := cf_two (p := p) (hs := hs) (ss := ss) (wi := wi) (lo := lo) hb (by rw [ha, hc, hl]; rfl)
          have E1 := Lib.hid E1
          have E2 := Lib.hid E2
          rw [hl] at IL
          go_wp2_with (first | (go_at_call 70; (first | (with_reducible refine (IW.out _).mono ?_) | (with_reducible refine (IL.out _).mono ?_)); rintro e w' ⟨rfl, rfl⟩) | (go_at_call 71; refine (OC.out _ (S1.out.below g1) (S2.out.below g1)).mono ?_; rintro e w2 ⟨rfl, g2⟩; have K2 := Lib.hid (K1.out.below g2); have G2 := Lib.hid (bnext G1.out g2); have fz2 := K2.out.fz; have d0 := K2.out.c0; have d1 := K2.out.c1; have d2 := K2.out.c2))
          (try simp only [Exit.inBlock, Exit.then])
          refine bodyPost_ret (v := .tuple #[.agg #[.int .i16 0, .int .i32 0, .slice none 0 0], .int .i64 2]) (by rw [results_cell_tmp rfl]; go_simp) rfl ?_
          exact madeCs_none E2.out E1.out rfl (((G2.out.setCell (p := ⟨w.heap.size + 1, 0, none⟩) (Nat.le_succ _) _).setCell (p := ⟨w.heap.size + 1, 1, none⟩) (Nat.le_succ _) _).setCell (p := ⟨w.heap.size + 1, 2, none⟩) (Nat.le_succ _) _)
        · rw [hl] at IL
          have HALL := Lib.hid (show (inB wi 1 2000 && (inB lo 1 200000 && cntB hs ss 12)) = true by rw [ha, hc, hl]; rfl)
          have HBB := Lib.hid hb
          obtain ⟨hlen, hcb⟩ := cnt_of hc
          have HL := Lib.hid hlen
          have HCB := Lib.hid hcb
          have HC := Lib.hid hc
          obtain ⟨-, hb1, hb6⟩ := hsB_len hb
          have HH := Lib.hid (hsB_bounds hb)
          have wb : 1 ≤ wi ∧ wi ≤ 2000 := by unfold inB at ha; simpa using ha
          have lb : 1 ≤ lo ∧ lo ≤ 200000 := by unfold inB at hl; simpa using hl
          have hw1 : IntKind.i16.wrap wi = wi := IntWalk.i16_in _ (by omega)
          have hw2 : wrap32 lo = lo := IntWalk.wrap32_in _ (by omega)
          have hw3 : IntKind.i32.wrap lo = lo := IntWalk.i32_in _ (by omega)
          clear hb ha hc hl hlen hcb
          obtain ⟨i0, hi0, hz0, hz1, hz2⟩ := info_parts infoI16
          go_wp2_with (first | (go_at_call 70; (first | (with_reducible refine (IW.out _).mono ?_) | (with_reducible refine (IL.out _).mono ?_)); rintro e w' ⟨rfl, rfl⟩) | (go_at_call 71; refine (OC.out _ (S1.out.below g1) (S2.out.below g1)).mono ?_; rintro e w2 ⟨rfl, g2⟩; have K2 := Lib.hid (K1.out.below g2); have G2 := Lib.hid (bnext G1.out g2); have fz2 := K2.out.fz; have d0 := K2.out.c0; have d1 := K2.out.c1; have d2 := K2.out.c2))
          have bz := K2.out.lt
          have KC := Lib.hid (kb_new w2 wi lo (.slice none 0 0))
          have K3 := Lib.hid (K2.out.alloc (.cells #[.int .i16 wi, .int .i32 lo, .slice none 0 0] 28))
          have G3 := Lib.hid (G2.out.alloc G2.out.size (.cells #[.int .i16 wi, .int .i32 lo, .slice none 0 0] 28))
          clear d0 d1 d2 fz2
          go_loopw [13] (fun i_ wr => ∃ (i d : Nat) (z : Int) (vv : Value), i + d = hs.length ∧ i_ = .int .i64 z ∧ z = (i : Int) - 1 ∧ KB wr w2.heap.size wi lo vv ∧ wr.ownsRow (w2.heap.size + 1) 22 1 vv (cfTo hs ss d).length ((cfTo hs ss d).map (Value.int .i16)) ∧ KB wr (w.heap.size + 1) 0 0 (.slice none 0 0) ∧ Below w.heap.size w wr ∧ w2.heap.size + 1 ≤ wr.heap.size) (fun i_ _ => (intOf i_ + 1).toNat)
          case atStart => exact ⟨hs.length, 0, _, .slice none 0 0, rfl, rfl, rfl, KC.out, ⟨rfl, .inl ⟨rfl, rfl⟩⟩, K3.out, G3.out, by simp⟩
          case round =>
            obtain ⟨i, d, z, vv, hid, rfl, hz, hkb, hown, hkr, hb, hsz⟩ := hrel
            have HKB := Lib.hid hkb
            have OW := Lib.hid hown
            have HKR := Lib.hid hkr
            have HB := Lib.hid hb
            have HID := Lib.hid hid
            clear hkb hown hkr
            rcases i with _ | j
            · have hz1 : ¬ (0 ≤ z) := by omega
              have hz2 : z < 0 := by omega
              have hz3 : decide (0 ≤ z) = false := by simpa using hz2
              obtain rfl : d = hs.length := by omega
              have OL := Lib.hid (show wr.ownsRow (w2.heap.size + 1) 22 1 vv (cfL hs ss).length ((cfL hs ss).map (Value.int .i16)) from OW.out)
              have LC := Lib.hid (cfTo_len HC.out hs.length (Nat.le_refl _))
              have CB := Lib.hid (cf_case HBB.out HALL.out)
              have CW := Lib.hid (show (⟨wi, lo, cfL hs ss⟩ : Cs).Wf from ⟨by dsimp only; omega, by dsimp only; omega, fun x hx => by have := cfTo_in HL.out HH.out _ (Nat.le_refl _) x hx; omega⟩)
              have IV := Lib.hid (ownInts OL.out)
              have CA := Lib.hid (show CaseAt wr w2.heap.size ⟨wi, lo, cfL hs ss⟩ vv from ⟨HKB.out.c0, HKB.out.c1, HKB.out.c2, HKB.out.lt, IV.out⟩)
              have LM : (⟨wi, lo, cfL hs ss⟩ : Cs).hs.length ≤ maxLen := by
                have := LC.out
                show (cfL hs ss).length ≤ maxLen
                unfold cfL maxLen
                omega
              obtain ⟨Av, cv, rfl⟩ := own_slK OL.out
              go_wp2_with fail
              refine (l02Ok_any ⟨wi, lo, cfL hs ss⟩ _ CW.out w2.heap.size wr CA.out LM).mono ?_
              rintro e w' ⟨rfl, rfl⟩
              rw [CB.out]
              clear CA
              cases h12 : inB ((cfL hs ss).length : Int) 1 12
              · obtain ⟨E1, E2⟩ := cf_three (p := p) (hs := hs) (ss := ss) (wi := wi) (lo := lo) HBB.out HALL.out h12
                have E1 := Lib.hid E1
                have E2 := Lib.hid E2
                have fz := HKR.out.fz
                have c0 := HKR.out.c0
                have c1 := HKR.out.c1
                have c2 := HKR.out.c2
                go_wp2
                (try simp only [Exit.inBlock, Exit.then])
                refine bodyPost_ret (v := .tuple #[.agg #[.int .i16 0, .int .i32 0, .slice none 0 0], .int .i64 3]) (by rw [results_cell_tmp rfl]; go_simp) rfl ?_
                exact madeCs_none E2.out E1.out rfl (((HB.out.setCell (p := ⟨w.heap.size + 1, 0, none⟩) (Nat.le_succ _) _).setCell (p := ⟨w.heap.size + 1, 1, none⟩) (Nat.le_succ _) _).setCell (p := ⟨w.heap.size + 1, 2, none⟩) (Nat.le_succ _) _)
              · obtain ⟨E1, E2⟩ := cf_good (p := p) (hs := hs) (ss := ss) (wi := wi) (lo := lo) HBB.out HALL.out h12
                have E1 := Lib.hid E1
                have E2 := Lib.hid E2
                have fz := HKR.out.fz
                have c0 := HKR.out.c0
                have c1 := HKR.out.c1
                have c2 := HKR.out.c2
                have e0 := HKB.out.c0
                have e1 := HKB.out.c1
                have e2 := HKB.out.c2
                have ol := OL.out.lt
                have S3 := Lib.hid (own_sets OL.out (w.heap.size + 1) (fun k hk e => by have := (ol k hk).1; omega) (.int .i16 wi) (.int .i32 lo) (.slice Av (cfL hs ss).length cv))
                clear ol
                go_wp2
                (try simp only [Exit.inBlock, Exit.then])
                refine bodyPost_ret (v := .tuple #[.agg #[.int .i16 wi, .int .i32 lo, .slice Av (cfL hs ss).length cv], .int .i64 0]) (by rw [results_cell_tmp rfl]; go_simp) rfl ?_
                rw [E1.out, E2.out]
                exact madeCs_mk (.slice Av (cfL hs ss).length cv) rfl (ownMono S3.out (by omega)) (((HB.out.setCell (p := ⟨w.heap.size + 1, 0, none⟩) (Nat.le_succ _) _).setCell (p := ⟨w.heap.size + 1, 1, none⟩) (Nat.le_succ _) _).setCell (p := ⟨w.heap.size + 1, 2, none⟩) (Nat.le_succ _) _)
            · obtain rfl : z = (j : Int) := by omega
              have hj : j < hs.length := by omega
              have hj2 : j < ss.length := by have := HL.out; omega
              obtain ⟨ga, oa, rfl, hga, hca⟩ := HA.out (by omega)
              obtain ⟨gb, ob, rfl, hgb, hcb⟩ := HA2.out (by omega)
              have HCA := Lib.hid hca
              have HCBB := Lib.hid hcb
              obtain ⟨h50, h1000⟩ := HH.out _ (List.getElem_mem hj)
              obtain ⟨s0, s12⟩ := HCB.out j hj2
              have SC := Lib.hid (cfTo_succ HL.out (d := d) hj (by have := HID.out; omega) hj2)
              have LD := Lib.hid (cfTo_len HC.out d (by omega))
              have E0 := Lib.hid (show hs[j] = hs[j] from rfl)
              have QA := Lib.hid (fun (W : World) (hB : Below w.heap.size w W) => (hca.below hB hga) j hj)
              have QB := Lib.hid (fun (W : World) (hB : Below w.heap.size w W) => (hcb.below hB hgb) j hj2)
              clear hca hcb hz hid
              generalize hs[j] = h at h50 h1000 SC QA
              obtain ⟨m, hm⟩ : ∃ m : Nat, ss[j] = (m : Int) := ⟨ss[j].toNat, by omega⟩
              rw [hm] at SC QB s12
              rw [Int.toNat_natCast] at SC
              have hjs : (j : Int) < (ss.length : Int) := by omega
              have hjh : (j : Int) < (hs.length : Int) := by omega
              have n16 : IntKind.i16.wrap h = h := IntWalk.i16_in _ (by omega)
              clear hm s0
              obtain ⟨wo, rfl⟩ : ∃ wo : World, wo = wr := ⟨_, rfl⟩
              have zo : ga < wo.heap.size := Nat.lt_of_lt_of_le hga hb.size
              have zo2 : gb < wo.heap.size := Nat.lt_of_lt_of_le hgb hb.size
              go_wp2
              go_loopw [14] (fun k_ wr => ∃ (k : Nat) (vv : Value), k ≤ m ∧ k_ = .int .i64 (k : Int) ∧ KB wr w2.heap.size wi lo vv ∧ wr.ownsRow (w2.heap.size + 1) 22 1 vv (cfTo hs ss d ++ List.replicate k h).length ((cfTo hs ss d ++ List.replicate k h).map (Value.int .i16)) ∧ KB wr (w.heap.size + 1) 0 0 (.slice none 0 0) ∧ Below w.heap.size w wr ∧ w2.heap.size + 1 ≤ wr.heap.size) (fun k_ _ => m - (intOf k_).toNat)
              case atStart => exact ⟨0, vv, Nat.zero_le _, rfl, HKB.out, by simpa using OW.out, HKR.out, HB.out, hsz⟩
              case round =>
                clear HKB OW HKR HB hsz hb zo zo2
                obtain ⟨k, vv, hk, rfl, hkb, hown, hkr, hb, hsz⟩ := hrel
                have HKB := Lib.hid hkb
                have OW := Lib.hid hown
                have HKR := Lib.hid hkr
                have HB := Lib.hid hb
                have qb := QB.out _ hb
                have zb : gb < wr.heap.size := Nat.lt_of_lt_of_le hgb hb.size
                clear hkb hown hkr
                by_cases hlt : k < m
                · have qa := QA.out _ hb
                  have za : ga < wr.heap.size := Nat.lt_of_lt_of_le hga hb.size
                  have cR := HKB.out.c2
                  have fR := HKB.out.fz 2
                  have hvl := Lib.hid (fun p hp => OW.out.lt p hp)
                  have d9 : Below wr.heap.size wr (wr.drew.alloc (.cells #[.int .i16 h] 22)) := ((Below.refl _ _).drew).alloc (Nat.le_refl _) _
                  have zB : w2.heap.size < wr.heap.size := by omega
                  have c9 : (wr.alloc (.cells #[.int .i16 h] 22)).cell? ⟨w2.heap.size, 2, none⟩ = some vv := (((Below.refl wr.heap.size wr).alloc (Nat.le_refl _) _).cell (p := ⟨w2.heap.size, 2, none⟩) zB).trans cR
                  have c10 : (wr.alloc (.cells #[.int .i16 h] 22)).drew.cell? ⟨w2.heap.size, 2, none⟩ = some vv := c9
                  have OD := Lib.hid (ownBelow OW.out ((Below.refl _ wr).drew))
                  have K9 := Lib.hid (HKB.out.below d9)
                  have R9 := Lib.hid (HKR.out.below d9)
                  have B9 := Lib.hid (bnext HB.out d9)
                  have LK := Lib.hid (show (cfTo hs ss d ++ List.replicate k h).length ≤ 200 by have := LD.out; have := HID.out; simp; omega)
                  have PT := Lib.hid (show cfTo hs ss d ++ List.replicate (k + 1) h = (cfTo hs ss d ++ List.replicate k h) ++ [h] by rw [List.replicate_succ', List.append_assoc])
                  generalize cfTo hs ss d ++ List.replicate k h = xsf at OW OD LK PT hvl
                  have lk := LK.out
                  clear d9
                  go_wp2
                  go_region_law (
                    refine step_append_lies _ (by rfl) (.tmp 56) (.tmp 62) _ (by rfl) (w2.heap.size + 1) 22 i0 (.int .i16 0) 1 2 Try.underlying26 hi0 hz0 hz1 hz2 rfl (by decide) vv _ _ (by rfl) (OD.out.alloc _) ⟨wr.heap.size, 0, none⟩ 1 1 [.int .i16 h] (by rfl) rfl (cell_one_new _ _ _) (by intro u hu; simp at hu; subst hu; rfl) (by decide) (by unfold maxLen; omega) (by omega) (by simp; omega) _ rfl ?_
                    intro g4 cap w4 ho4 hg4 ha4 hl4
                    have hneB : some w2.heap.size ≠ vv.ownBlock := fun e => by have := (hvl.out _ e.symm).1; omega
                    have hneR : some (w.heap.size + 1) ≠ vv.ownBlock := fun e => by have := (hvl.out _ e.symm).1; omega
                    have K4 := Lib.hid (show KB w4 w2.heap.size wi lo vv from (hg4.block _ (by simp; omega) hneB).trans K9.out)
                    have R4 := Lib.hid (show KB w4 (w.heap.size + 1) 0 0 (.slice none 0 0) from (hg4.block _ (by simp; omega) hneR).trans R9.out)
                    have c4 := K4.out.c2
                    have f4 := K4.out.fz 2
                    have hc4 : w4.ownsRow (w2.heap.size + 1) 22 1 (.slice (some ⟨g4, 0, none⟩) (xsf.length + 1) cap) (xsf ++ [h]).length ((xsf ++ [h]).map (Value.int .i16)) := by
                      rw [List.length_append, List.map_append]
                      exact ho4
                    have hg4' : w2.heap.size + 1 ≤ g4 := (hc4.lt g4 rfl).1
                    have S0 := Lib.hid (K4.out.s2 (.slice (some ⟨g4, 0, none⟩) (xsf.length + 1) cap))
                    have S1' := Lib.hid (R4.out.other (g' := w2.heap.size) (by omega) 2 (.slice (some ⟨g4, 0, none⟩) (xsf.length + 1) cap))
                    have S2' := Lib.hid (ownOther hc4 (only_set2 (World.grownBy.refl w4 (some w2.heap.size)) 2 (.slice (some ⟨g4, 0, none⟩) (xsf.length + 1) cap)) (fun p hp e => by
                      have h1 : g4 = p := by injection hp
                      have h2 : p = w2.heap.size := by injection e
                      omega))
                    have S4 : w2.heap.size + 1 ≤ w4.heap.size := by have := hg4.size; simp at this; omega
                    have S5 := Lib.hid (show Below w.heap.size w (w4.setCell ⟨w2.heap.size, 2, none⟩ (.slice (some ⟨g4, 0, none⟩) (xsf.length + 1) cap)) from (B9.out.grown hg4 B9.out.size (fun p hp => by have := (hvl.out p hp).1; omega)).setCell (p := ⟨w2.heap.size, 2, none⟩) (by show w.heap.size ≤ w2.heap.size; omega) _)
                    clear ho4 hg4 ha4 hl4 hneB hneR hc4)
                  all_goals
                    go_wp2
                    go_roundw
                    case rel => exact ⟨k + 1, _, by omega, by go_num, S0.out, by rw [PT.out]; exact S2'.out, S1'.out, S5.out, by simpa [World.setCell] using S4⟩
                    case measure => simp [intOf]; omega
                · obtain rfl : k = m := by omega
                  have OW := Lib.hid (show wr.ownsRow (w2.heap.size + 1) 22 1 vv (cfTo hs ss (d + 1)).length ((cfTo hs ss (d + 1)).map (Value.int .i16)) by rw [SC.out]; exact OW.out)
                  go_wp2
                  go_roundw
                  case rel => exact ⟨j, d + 1, _, vv, by have := HID.out; omega, rfl, rfl, HKB.out, OW.out, HKR.out, HB.out, hsz⟩
                  case measure => simp [intOf] <;> omega
end Go.Proofs.Ytblgoflkcomncaa
