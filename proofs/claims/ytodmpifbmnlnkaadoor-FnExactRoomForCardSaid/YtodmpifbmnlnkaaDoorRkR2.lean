/- Room for a book in a rack, by the program: contracts. Condition: at most 1048576 books, whose numbers lie within their kinds; the two error variables hold errors of errors.New's make. -/
import Derived.Test.YtodmpifbmnlnkaaDoorRkR
import Derived.Deep.Cut
namespace Go.Proofs.YtodmpifbmnlnkaaDoor
set_option linter.unusedSimpArgs false
set_option linter.unusedVariables false
set_option maxRecDepth 100000
open Go.RowKit Go.Sort

theorem plc_wf {n : Nat} {ps : List Pl} (wf : ∀ x ∈ ps, x.Wf) : ∀ x ∈ plc n ps, x.b.Wf := by
  have h : ∀ k, ∀ x ∈ plcTo n ps k, x.b.Wf := by
    intro k
    induction k with
    | zero =>
      intro x hx
      rw [plcTo, List.mem_replicate] at hx
      rw [hx.2]
      exact ⟨by decide, by decide, by decide, by decide, by decide, by decide, by decide, by decide⟩
    | succ k ih =>
      intro x hx
      rw [plcTo] at hx
      rcases List.mem_or_eq_of_mem_set hx with h | h
      · exact ih x h
      · rw [h]
        simp only
        by_cases hk : k < ps.length
        · rw [getD_pl hk]; exact (wf _ (List.getElem_mem hk)).b
        · rw [List.getD_eq_getElem?_getD, List.getElem?_eq_none (by omega)]
          exact ⟨by decide, by decide, by decide, by decide, by decide, by decide, by decide, by decide⟩
  exact h _
theorem frs_succ {b : Bk} {q : List Pc} {k : Nat} (h : k < q.length) : frs b q (k + 1) = if q[k].t = true ∧ 0 ≤ usual b q[k].b then (k : Int) + 1 else frs b q k := by
  rw [frs, getD_pc (List.getElem?_eq_getElem h)]

set_option maxHeartbeats 8000000 in
theorem roomForP_any (v0 : Value) (q : List Pc) (wq : ∀ x ∈ q, x.b.Wf) (b : Bk) (wb : b.Wf) (fn rn : Nat) (w : World) (hs : PcsOf w v0 q) (hn : q.length ≤ 60)
    (h1 : frs b q q.length = (fn : Int)) (h2 : fn ≤ rn) (h3 : rn ≤ q.length) (h4 : ∀ (j : Nat) (hj : j < q.length), fn ≤ j → j < rn → q[j].t = false) (h5 : ∀ (h : rn < q.length), q[rn].t = true) :
    Calls Tryd.prog 71 #[v0, .agg #[.int .i16 b.c, .int .u8 b.m0, .int .u8 b.m1, .int .u8 b.m2, .int .i16 b.v, .int .i16 b.wi, .int .i16 b.hi, .int .i16 b.we]] w fun e w' => e = .returned (.tuple #[.int .i64 (fn : Int), .int .i64 ((rn : Int) - (fn : Int))]) ∧ Below w.heap.size w w' := by
  have HQ := Lib.hid hs
  obtain ⟨A, c, rfl, hs⟩ := hs
  have HS := Lib.hid hs
  have WQ := Lib.hid wq
  have WB := Lib.hid wb
  have H1 := Lib.hid h1
  have H4 := Lib.hid h4
  have H5 := Lib.hid h5
  have bx := bkAt_new w b 51
  have BX := Lib.hid bx
  have G0 := Lib.hid (show Below w.heap.size w (w.alloc (.cells #[.int .i16 b.c, .int .u8 b.m0, .int .u8 b.m1, .int .u8 b.m2, .int .i16 b.v, .int .i16 b.wi, .int .i16 b.hi, .int .i16 b.we] 51)) by go_grown)
  clear hs wq wb h1 h4 h5 bx
  go_enter Tryd.func71, Tryd.ntmps71
  go_wp2
  generalize World.alloc w _ = w0 at G0 BX ⊢
  go_loopw [6, 12] (fun f_ i_ wr => ∃ (k : Nat) (f : Int), f = frs b q k ∧ k ≤ q.length ∧ i_ = .int .i64 (k : Int) ∧ f_ = .int .i64 f ∧ BkAt wr w.heap.size 0 b ∧ Below w.heap.size w wr) (fun _ i_ _ => q.length - (intOf i_).toNat)
  case atStart => exact ⟨0, 0, rfl, Nat.zero_le _, rfl, rfl, BX.out, G0.out⟩
  case round =>
    obtain ⟨k, f, hf, hk, rfl, rfl, hbx, hb⟩ := hrel
    have HF := Lib.hid hf
    have BR := Lib.hid hbx
    have HB := Lib.hid hb
    have hz := hb.size
    have hfb := frs_bd b q k
    rw [← hf] at hfb
    obtain ⟨f0, f1⟩ := hfb
    clear hf hbx hb
    by_cases hlt : k < q.length
    · obtain ⟨ga, oa, rfl, hga, hat⟩ := HS.out (by omega)
      have hlt' := hlt
      obtain ⟨p0, p1, p2, p3, p4, p5, p6, p7, p8⟩ := pcAt_some (hat.below HB.out hga) hlt
      have FS := Lib.hid (frs_succ (b := b) hlt)
      have WX := Lib.hid (WQ.out _ (List.getElem_mem hlt))
      clear hat
      generalize q[k] = x at FS WX p0 p1 p2 p3 p4 p5 p6 p7 p8
      have d1 : Below wr.heap.size wr (wr.alloc (.cells #[.bool x.t, .int .i16 x.b.c, .int .u8 x.b.m0, .int .u8 x.b.m1, .int .u8 x.b.m2, .int .i16 x.b.v, .int .i16 x.b.wi, .int .i16 x.b.hi, .int .i16 x.b.we] 101)) := (Below.refl _ _).alloc (Nat.le_refl _) _
      have X1 := Lib.hid (heap_alloc_new wr (.cells #[.bool x.t, .int .i16 x.b.c, .int .u8 x.b.m0, .int .u8 x.b.m1, .int .u8 x.b.m2, .int .i16 x.b.v, .int .i16 x.b.wi, .int .i16 x.b.hi, .int .i16 x.b.we] 101))
      have D1 := Lib.hid d1
      have BR1 := Lib.hid (BR.out.next d1)
      clear d1
      cases ht : x.t
      · have FE := Lib.hid (show frs b q (k + 1) = frs b q k by rw [FS.out, ht]; simp)
        rw [ht] at X1 D1 BR1 p0
        go_upto_region 5 with (fail)
        generalize World.alloc wr _ = W1 at X1 D1 BR1 ⊢
        have e0 := cell_of_row W1 _ 0 _ _ _ X1.out
        simp only [List.getElem?_toArray, List.getElem?_cons_zero] at e0
        clear p0 p1 p2 p3 p4 p5 p6 p7 p8 ht
        have HB1 := Lib.hid (bnext HB.out D1.out)
        go_wp2
        go_roundw
        case rel => exact ⟨k + 1, f, by rw [FE.out]; exact HF.out, by omega, by go_num, rfl, BR1.out, HB1.out⟩
        case measure => simp [intOf]; omega
      · rw [ht] at X1 D1 BR1 p0
        go_upto_region 5 with (fail)
        generalize World.alloc wr _ = W1 at X1 D1 BR1 ⊢
        have e0 := cell_of_row W1 _ 0 _ _ _ X1.out
        have e1 := cell_of_row W1 _ 1 _ _ _ X1.out
        have e2 := cell_of_row W1 _ 2 _ _ _ X1.out
        have e3 := cell_of_row W1 _ 3 _ _ _ X1.out
        have e4 := cell_of_row W1 _ 4 _ _ _ X1.out
        have e5 := cell_of_row W1 _ 5 _ _ _ X1.out
        have e6 := cell_of_row W1 _ 6 _ _ _ X1.out
        have e7 := cell_of_row W1 _ 7 _ _ _ X1.out
        have e8 := cell_of_row W1 _ 8 _ _ _ X1.out
        simp only [List.getElem?_toArray, List.getElem?_cons_zero, List.getElem?_cons_succ] at e0 e1 e2 e3 e4 e5 e6 e7 e8
        clear p0 p1 p2 p3 p4 p5 p6 p7 p8
        obtain ⟨-, q0, q1, q2, q3, q4, q5, q6, q7⟩ := BR1.out
        have HB1 := Lib.hid (bnext HB.out D1.out)
        have HT := Lib.hid ht
        clear ht
        go_wp2_with fail
        refine (compareBooks_any b x.b WB.out WX.out _).mono ?_
        rintro e w2 ⟨rfl, g2⟩
        clear q0 q1 q2 q3 q4 q5 q6 q7 e0 e1 e2 e3 e4 e5 e6 e7 e8
        have BR2 := Lib.hid (BR1.out.next g2)
        have HB2 := Lib.hid (bnext HB1.out g2)
        by_cases hu : 0 ≤ usual b x.b
        · have FE := Lib.hid (show frs b q (k + 1) = (k : Int) + 1 by rw [FS.out, if_pos ⟨HT.out, hu⟩])
          generalize usual b x.b = z at hu ⊢
          go_wp2
          go_roundw
          case rel => exact ⟨k + 1, (k : Int) + 1, by rw [FE.out], by omega, by go_num, rfl, BR2.out, HB2.out⟩
          case measure => simp [intOf]; omega
        · have FE := Lib.hid (show frs b q (k + 1) = frs b q k by rw [FS.out, if_neg (fun h => hu h.2)])
          generalize usual b x.b = z at hu ⊢
          have hu' : z < 0 := by omega
          go_wp2
          go_roundw
          case rel => exact ⟨k + 1, f, by rw [FE.out]; exact HF.out, by omega, by go_num, rfl, BR2.out, HB2.out⟩
          case measure => simp [intOf]; omega
    · obtain rfl : k = q.length := by omega
      obtain rfl : f = (fn : Int) := by rw [← H1.out]; exact HF.out
      obtain ⟨wo, rfl⟩ : ∃ wo, wo = wr := ⟨_, rfl⟩
      go_wp2
      go_loopw [9] (fun c_ wr => ∃ m : Nat, fn + m ≤ rn ∧ c_ = .int .i64 (m : Int) ∧ wr = wo) (fun c_ _ => rn - fn - (intOf c_).toNat)
      case atStart => exact ⟨0, by omega, rfl, rfl⟩
      case round =>
        obtain ⟨m, hm, rfl, rfl⟩ := hrel
        have n1 : IntKind.i64.wrap ((fn : Int) + (m : Int)) = ((fn + m : Nat) : Int) := by rw [show (fn : Int) + (m : Int) = ((fn + m : Nat) : Int) by omega]; exact IntWalk.i64_in _ (by omega)
        have n2 : (fn : Int) + (m : Int) = ((fn + m : Nat) : Int) := by omega
        obtain ⟨j, hj⟩ : ∃ j, fn + m = j := ⟨_, rfl⟩
        rw [hj] at n1 n2
        have HJ := Lib.hid hj
        by_cases hlt : m < rn - fn
        · have hjl : j < q.length := by omega
          obtain ⟨ga, oa, rfl, hga, hat⟩ := HS.out (by omega)
          obtain ⟨p0, -⟩ := pcAt_some (hat.below HB.out hga) hjl
          rw [H4.out j hjl (by omega) (by omega)] at p0
          have j1 : (j : Int) < (q.length : Int) := by omega
          have j0 : (0 : Int) ≤ (j : Int) := by omega
          have d1 : decide (j < q.length) = true := by simpa using hjl
          have d2 : decide ((j : Int) < (q.length : Int)) = true := by simpa using hjl
          clear hat hj
          go_wp2
          go_roundw
          case rel => exact ⟨m + 1, by omega, by go_num, by first | rfl | trivial⟩
          case measure => simp [intOf]; omega
        · have hme : (m : Int) = (rn : Int) - (fn : Int) := by omega
          have ME := Lib.hid hme
          clear hme
          have hjr : j = rn := by omega
          subst hjr
          by_cases hjl : j < q.length
          · obtain ⟨ga, oa, rfl, hga, hat⟩ := HS.out (by omega)
            obtain ⟨p0, -⟩ := pcAt_some (hat.below HB.out hga) hjl
            rw [H5.out hjl] at p0
            have j1 : (j : Int) < (q.length : Int) := by omega
            have j0 : (0 : Int) ≤ (j : Int) := by omega
            have d1 : decide (j < q.length) = true := by simpa using hjl
            have d2 : decide ((j : Int) < (q.length : Int)) = true := by simpa using hjl
            clear hat hj
            go_wp2
            go_ret2
            exact ⟨by rw [← ME.out]; rfl, HB.out⟩
          · have j1 : ¬ (j : Int) < (q.length : Int) := by omega
            have d1 : decide (j < q.length) = false := by simpa using hjl
            have d2 : decide ((j : Int) < (q.length : Int)) = false := by simpa using hjl
            clear hj
            go_wp2
            go_ret2
            exact ⟨by rw [← ME.out]; rfl, HB.out⟩
theorem roomQ {n : Nat} {ps : List Pl} {m : Nat} (hp : PosTo n ps ps.length) (hm : m ≤ ps.length) (fn rn : Nat) (hf : lstP ps m = (fn : Int)) (hr : rmTo n ps m = (rn : Int)) :
    fn ≤ rn ∧ rn ≤ (plc n ps).length ∧ (∀ (j : Nat) (hj : j < (plc n ps).length), fn ≤ j → j < rn → (plc n ps)[j].t = false) ∧ (∀ (h : rn < (plc n ps).length), (plc n ps)[rn].t = true) := by
  have h := room_le hp hm
  have hl := plc_length n ps
  have tk : ∀ (j : Nat) (hj : j < (plc n ps).length), (plc n ps)[j].t = tkB ps j := fun j hj => by
    have := plc_tk hp (j := j) (by omega)
    rwa [getD_pc (List.getElem?_eq_getElem hj)] at this
  refine ⟨by omega, by omega, fun j hj h1 h2 => ?_, fun h1 => ?_⟩
  · rw [tk]
    exact room_free hp hm (by omega) (by omega)
  · rw [tk]
    have hml : m < ps.length := by
      rcases Nat.lt_or_ge m ps.length with h2 | h2
      · exact h2
      · have : rmTo (n : Int) ps m = n := by unfold rmTo; rw [if_neg (by omega)]
        omega
    exact room_end hml hr.symm
set_option maxHeartbeats 4000000 in
theorem roomFor_any (r : Rk) (hv : Value) (wf : r.Wf) (b : Bk) (wb : b.Wf) (w : World) (s i : Addr) (he : Er2 w s i) (hs : PlsOf w hv r.ps) (hn : r.ps.length ≤ 1048576) :
    Calls Tryd.prog 37 #[.agg #[.int .i16 r.n, hv], .agg #[.int .i16 b.c, .int .u8 b.m0, .int .u8 b.m1, .int .u8 b.m2, .int .i16 b.v, .int .i16 b.wi, .int .i16 b.hi, .int .i16 b.we]] w fun e w' => e = .returned (.tuple #[.int .i64 (rfA r b), .int .i64 (rfN r b), .int .i64 (rfC r b)]) ∧ Below w.heap.size w w' := by
  have HE := Lib.hid he
  have WF := Lib.hid wf
  have WB := Lib.hid wb
  have HS := Lib.hid hs
  have ba := bkAt_new (w.alloc (.cells #[.int .i16 r.n, hv] 30)) b 51
  have BA := Lib.hid (by rw [World.size_alloc] at ba; exact ba)
  obtain ⟨A, c, rfl, -⟩ := hs
  have G0 := Lib.hid (show Below w.heap.size w ((w.alloc (.cells #[.int .i16 r.n, .slice A r.ps.length c] 30)).alloc (.cells #[.int .i16 b.c, .int .u8 b.m0, .int .u8 b.m1, .int .u8 b.m2, .int .i16 b.v, .int .i16 b.wi, .int .i16 b.hi, .int .i16 b.we] 51)) by go_grown)
  clear he wf wb ba
  rcases rf_cases r b with ⟨hk, e1, e2, e3⟩ | ⟨hk, hb, e1, e2, e3⟩ | ⟨hk, hb, e1, e2, e3⟩
  · have E := Lib.hid (And.intro e1 (And.intro e2 e3))
    have HC := Lib.hid (show rkC r = 1 by unfold rkC; rw [hk]; rfl)
    clear e1 e2 e3 hk
    go_enter Tryd.func37, Tryd.ntmps37
    go_wp2_with fail
    generalize (w.alloc _).alloc _ = w0 at G0 BA ⊢
    refine (placesOf_any r _ WF.out _ s i (HE.out.below G0.out) (HS.out.below G0.out) hn).mono ?_
    rintro e w1 ⟨v, rfl, -, g1⟩
    rw [HC.out]
    have B1 := Lib.hid (bnext G0.out g1)
    go_wp2
    go_ret3
    exact ⟨by rw [E.out.1, E.out.2.1, E.out.2.2]; rfl, B1.out⟩
  · have E := Lib.hid (And.intro e1 (And.intro e2 e3))
    have HC := Lib.hid (show rkC r = 0 by unfold rkC; rw [hk]; rfl)
    clear e1 e2 e3 hk
    go_enter Tryd.func37, Tryd.ntmps37
    go_wp2_with fail
    generalize (w.alloc _).alloc _ = w0 at G0 BA ⊢
    refine (placesOf_any r _ WF.out _ s i (HE.out.below G0.out) (HS.out.below G0.out) hn).mono ?_
    rintro e w1 ⟨v, rfl, -, g1⟩
    rw [HC.out]
    have B1 := Lib.hid (bnext G0.out g1)
    obtain ⟨-, q0, q1, q2, q3, q4, q5, q6, q7⟩ := BA.out.next g1
    go_wp2_with fail
    refine (validBook_any b _).mono ?_
    rintro e w2 ⟨rfl, rfl⟩
    rw [hb]
    clear hb q0 q1 q2 q3 q4 q5 q6 q7
    go_wp2
    go_ret3
    exact ⟨by rw [E.out.1, E.out.2.1, E.out.2.2]; rfl, B1.out.alloc B1.out.size _⟩
  · have E := Lib.hid (And.intro e1 (And.intro e2 e3))
    have HC := Lib.hid (show rkC r = 0 by unfold rkC; rw [hk]; rfl)
    obtain ⟨en, en1, en2, e4⟩ := rk_nat hk
    have hrm := rIdx_le r.ps b
    have hrl := room_le e4 hrm
    obtain ⟨fn, hfn⟩ : ∃ fn : Nat, lstP r.ps (rIdx r.ps b) = (fn : Int) := ⟨(lstP r.ps (rIdx r.ps b)).toNat, by omega⟩
    obtain ⟨rn, hrn⟩ : ∃ rn : Nat, rmTo (r.n.toNat : Int) r.ps (rIdx r.ps b) = (rn : Int) := ⟨(rmTo (r.n.toNat : Int) r.ps (rIdx r.ps b)).toNat, by omega⟩
    have RQ := Lib.hid (roomQ e4 hrm fn rn hfn hrn)
    have hno := none_of (rkB_of hk).2.2.2
    rw [bks_length] at hno
    have FR := Lib.hid (show frs b (plc r.n.toNat r.ps) (plc r.n.toNat r.ps).length = (fn : Int) by rw [plc_length, ← hfn]; exact frs_all e4 (parts_of WF.out.ps WB.out hno))
    have EA := Lib.hid (show rfA r b = (fn : Int) by rw [e1]; exact hfn)
    have EN := Lib.hid (show rfN r b = (rn : Int) - (fn : Int) by rw [e2]; unfold rmN; rw [hfn]; congr 1; rw [← hrn, ← en])
    have EC := Lib.hid e3
    have HK := Lib.hid hk
    clear e1 e2 e3 hk hfn hrn hrl hrm hno e4 en E
    go_enter Tryd.func37, Tryd.ntmps37
    go_wp2_with fail
    generalize (w.alloc _).alloc _ = w0 at G0 BA ⊢
    refine (placesOf_any r _ WF.out _ s i (HE.out.below G0.out) (HS.out.below G0.out) hn).mono ?_
    rintro e w1 ⟨v, rfl, hpl, g1⟩
    rw [HC.out]
    obtain ⟨g, rfl, hg, hr⟩ := hpl.ok HK.out
    have HR := Lib.hid hr
    have B1 := Lib.hid (bnext G0.out g1)
    have BA1 := Lib.hid (BA.out.next g1)
    clear hr hpl
    obtain ⟨-, q0, q1, q2, q3, q4, q5, q6, q7⟩ := BA1.out
    have d2 : Below w1.heap.size w1 (w1.alloc (.cells #[.int .i16 b.c, .int .u8 b.m0, .int .u8 b.m1, .int .u8 b.m2, .int .i16 b.v, .int .i16 b.wi, .int .i16 b.hi, .int .i16 b.we] 51)) := (Below.refl _ _).alloc (Nat.le_refl _) _
    have HR2 := Lib.hid (HR.out.below d2 HR.out.lt)
    have BA2 := Lib.hid (BA1.out.next d2)
    have B2 := Lib.hid (bnext B1.out d2)
    clear d2
    go_wp2_with fail
    refine (validBook_any b _).mono ?_
    rintro e w2 ⟨rfl, hw2⟩
    rw [hb]
    clear hb q0 q1 q2 q3 q4 q5 q6 q7
    rw [hw2] at HR2 BA2 B2
    clear hw2
    obtain ⟨-, q0, q1, q2, q3, q4, q5, q6, q7⟩ := BA2.out
    go_wp2_with fail
    refine (roomForP_any _ (plc r.n.toNat r.ps) (plc_wf WF.out.ps) b WB.out fn rn _ (RowN.sl HR2.out (plc_length _ _)) (by rw [plc_length]; exact en2) FR.out RQ.out.1 RQ.out.2.1 RQ.out.2.2.1 RQ.out.2.2.2).mono ?_
    rintro e w3 ⟨rfl, g3⟩
    clear q0 q1 q2 q3 q4 q5 q6 q7
    go_wp2
    go_ret3
    exact ⟨by rw [EA.out, EN.out, EC.out]; rfl, bnext B2.out g3⟩
end Go.Proofs.YtodmpifbmnlnkaaDoor
