/- MayLend, by the program: contracts. Condition: no longer than slices can be, numbers within their kinds. -/
import Derived.Test.YtmafjncaigllbabDkL
namespace Go.Proofs.Ytmafjncaigllbab
set_option linter.unusedSimpArgs false
set_option linter.unusedVariables false
set_option maxRecDepth 100000
open Go.RowKit

set_option maxHeartbeats 4000000 in
theorem closMayLend1_any (x : Cp) (who : Int) (A4 : Option Addr) (c4 : Nat) (u : Value) (hu : u = .slice A4 x.q.length c4) (B : Nat) (w : World) (hc : w.cell? ⟨B, 0, none⟩ = some (.int .i64 who)) (hB : B < w.heap.size) :
    Calls Try.prog 27 #[.agg #[.int .i64 x.st, .int .i64 x.who, .int .i64 x.due, .int .i64 x.ren, u], .pointer (some ⟨B, 0, none⟩)] w fun e w' => e = .returned (.bool (lentTo who x)) ∧ Below w.heap.size w w' := by
  subst hu
  have A0 := Lib.hid (show Below w.heap.size w (w.alloc (.cells #[.int .i64 x.st, .int .i64 x.who, .int .i64 x.due, .int .i64 x.ren, .slice A4 x.q.length c4] 47)) from (Below.refl _ _).alloc (Nat.le_refl _) _)
  have hc' := (A0.out.cell (p := ⟨B, 0, none⟩) hB).trans hc
  go_enter Try.func27, Try.ntmps27
  go_wp2_with fail
  refine (lentTo_any x who _).mono ?_
  rintro e w1 ⟨rfl, k1⟩
  have G1 := Lib.hid (bnext A0.out k1)
  clear k1 hc'
  go_wp2
  go_ret
  exact ⟨rfl, G1.out⟩

set_option maxHeartbeats 8000000 in
theorem whereMayLend1_any (xs : List Cp) (wfx : ∀ c ∈ xs, c.Wf) (qmx : ∀ c ∈ xs, c.q.length ≤ maxLen) (day0 : Int) (who : Int) (v : Value) (base : Nat) (B : Nat) (w : World) (hit : ItsOf w base v xs) (h60 : xs.length ≤ 60) (hc : w.cell? ⟨B, 0, none⟩ = some (.int .i64 who)) (hB : B < w.heap.size) :
    Calls Try.prog 26 #[.agg #[.int .i64 day0, v, .int .i64 0], .func (.func 27) #[] #[.pointer (some ⟨B, 0, none⟩)]] w fun e w' => ∃ u, e = .returned u ∧ w'.ownsRow w.heap.size 2 1 u (wh xs (lentTo who)).length ((wh xs (lentTo who)).map (Value.int .i64)) ∧ Below w.heap.size w w' := by
  have IT := Lib.hid hit
  obtain ⟨A, c, rfl⟩ := hit.form
  have WX := Lib.hid wfx
  have QX := Lib.hid qmx
  obtain ⟨i0, hi0, hz0, hz1, hz2⟩ := info_parts infoI64d
  have H0 := Lib.hid (show (w.alloc (.cells #[.int .i64 day0, .slice A xs.length c, .int .i64 0] 42)).ownsRow w.heap.size 2 1 (.slice none 0 0) (whTo xs (lentTo who) 0).length ((whTo xs (lentTo who) 0).map (Value.int .i64)) from nilOwn _ _)
  have G0 := Lib.hid (show Below w.heap.size w (w.alloc (.cells #[.int .i64 day0, .slice A xs.length c, .int .i64 0] 42)) from (Below.refl _ _).alloc (Nat.le_refl _) _)
  clear hit wfx qmx
  go_enter Try.func26, Try.ntmps26
  go_wp2
  generalize World.alloc w _ = W at H0 G0 ⊢
  go_loopw [5, 11] (fun v_ i_ wr => ∃ i : Nat, i ≤ xs.length ∧ i_ = .int .i64 (i : Int) ∧ wr.ownsRow w.heap.size 2 1 v_ (whTo xs (lentTo who) i).length ((whTo xs (lentTo who) i).map (Value.int .i64)) ∧ Below w.heap.size w wr) (fun _ i_ _ => xs.length - (intOf i_).toNat)
  case atStart => exact ⟨0, Nat.zero_le _, rfl, H0.out, G0.out⟩
  case round =>
    obtain ⟨i, hi, rfl, hown, hb⟩ := hrel
    have OW := Lib.hid hown
    obtain ⟨A3, c3, rfl⟩ := vlen_own1 hown
    have WL := Lib.hid (whTo_len xs (lentTo who) i)
    have HB := Lib.hid hb
    have hsz := hb.size
    clear hown hb
    by_cases hlt : i < xs.length
    · obtain ⟨ga, rfl, -, hga, p0, p1, p2, p3, u, p4, hq⟩ := (IT.out.below HB.out).at_ hlt
      have HQ := Lib.hid hq.ints
      obtain ⟨A4, c4, rfl⟩ := hq.form
      have WK := Lib.hid (WX.out _ (List.getElem_mem hlt))
      have QM := Lib.hid (QX.out _ (List.getElem_mem hlt))
      have WY := Lib.hid (fun h => whTo_yes (p := lentTo who) hlt h)
      have WN := Lib.hid (fun h => whTo_no (p := lentTo who) hlt h)
      clear hq
      obtain ⟨x, hx⟩ : ∃ x, x = xs[i] := ⟨_, rfl⟩
      rw [← hx] at p0 p1 p2 p3 p4 HQ WK QM WY WN
      clear hx
      have A5 := Lib.hid (show Below wr.heap.size wr (wr.alloc (.cells #[.int .i64 x.st, .int .i64 x.who, .int .i64 x.due, .int .i64 x.ren, .slice A4 x.q.length c4] 47)) from (Below.refl _ _).alloc (Nat.le_refl _) _)
      go_wp2_with fail
      generalize World.alloc wr _ = W5 at A5 ⊢
      refine (closMayLend1_any x who A4 c4 _ rfl B W5 ((bnext HB.out A5.out).cell (p := ⟨B, 0, none⟩) hB |>.trans hc) (Nat.lt_of_lt_of_le hB (bnext HB.out A5.out).size)).mono ?_
      rintro e w6 ⟨rfl, k6⟩
      have B6 := Lib.hid (bnext HB.out (bnext A5.out k6))
      have O6 := Lib.hid (ownBelow OW.out (bnext A5.out k6))
      have z6 := B6.out.size
      clear k6 p0 p1 p2 p3 p4
      generalize hr : lentTo who x = r at WY WN ⊢
      clear hr
      cases r
      · have NN := Lib.hid (WN.out rfl)
        clear WY WN
        go_wp2
        go_roundw
        case rel => exact ⟨i + 1, by omega, by go_num, by rw [NN.out]; exact O6.out, B6.out⟩
        case measure => simp [intOf]; omega
      · have YS := Lib.hid (WY.out rfl)
        have hml := WL.out
        clear WY WN
        generalize whTo xs (lentTo who) i = L at O6 YS hml ⊢
        go_wp2_with (at_builtin; refine wpList_append_own _ rfl (.tmp 19) (.tmp 21) _ rfl w.heap.size 2 i0 (.int .i64 0) 1 8 Try.underlying45 hi0 hz0 hz1 hz2 rfl (by decide) _ _ _ rfl (O6.out.alloc _) ⟨w6.heap.size, 0, none⟩ 1 1 [.int .i64 (i : Int)] rfl rfl ?c1 ?c2 ?c3 ?c4 ?c5 ?_)
        case c1 => exact cell_one_new _ _ _
        case c2 => (intro u hu; simp at hu; subst hu; rfl)
        case c3 => (unfold maxLen; omega)
        case c4 => omega
        case c5 => (simp; omega)
        intro v' w4 hown' hgrow' _
        have OW' := Lib.hid hown'
        have g4 : Below w.heap.size w w4 := (B6.out.alloc z6 _).grown hgrow' (by simp; omega) (fun k hk => (O6.out.lt k hk).1)
        clear hown' hgrow'
        go_wp2
        go_roundw
        case rel => exact ⟨i + 1, by omega, by go_num, by rw [YS.out]; simpa using OW'.out, g4⟩
        case measure => simp [intOf]; omega
    · obtain rfl : i = xs.length := by omega
      go_wp2
      go_ret
      exact ⟨_, rfl, OW.out, HB.out⟩


/-- Where the pointer to the counter lies, and the counter. -/
structure CtAt (w : World) (P B : Nat) (day : Int) (v : Value) : Prop where
  p : w.cell? ⟨P, 0, none⟩ = some (.pointer (some ⟨B, 0, none⟩))
  hP : P < w.heap.size
  c0 : w.cell? ⟨B, 0, none⟩ = some (.int .i64 day)
  c1 : w.cell? ⟨B, 1, none⟩ = some v
  hB : B < w.heap.size
theorem CtAt.below {w w' : World} {P B : Nat} {day : Int} {v : Value} (h : CtAt w P B day v) (hb : Below w.heap.size w w') : CtAt w' P B day v :=
  ⟨(hb.cell (p := ⟨P, 0, none⟩) h.hP).trans h.p, Nat.lt_of_lt_of_le h.hP hb.size, (hb.cell (p := ⟨B, 0, none⟩) h.hB).trans h.c0, (hb.cell (p := ⟨B, 1, none⟩) h.hB).trans h.c1, Nat.lt_of_lt_of_le h.hB hb.size⟩

set_option maxHeartbeats 4000000 in
theorem closOv_any (xs : List Cp) (wfx : ∀ c ∈ xs, c.Wf) (v : Value) (base : Nat) (day : Int) (hdy : -32768 ≤ day ∧ day ≤ 32767) (j : Nat) (hj : j < xs.length) (P B : Nat) (w : World) (hit : ItsOf w base v xs) (hc : CtAt w P B day v) :
    Calls Try.prog 30 #[.int .i64 (j : Int), .pointer (some ⟨P, 0, none⟩)] w fun e w' => e = .returned (.bool (overB day xs[j])) ∧ Below w.heap.size w w' := by
  obtain ⟨A, c, rfl⟩ := hit.form
  obtain ⟨ga, rfl, -, hga, p0, p1, p2, p3, -⟩ := hit.at_ hj
  have WK := wfx _ (List.getElem_mem hj)
  generalize xs[j] = x at *
  have E := Lib.hid (over_late x day)
  have CL := Lib.hid (fun (p : BelowBy w) => late_any x WK day hdy p.W)
  generalize lateI x day = lt at E CL
  obtain ⟨k0, hP, k1, k2, hB⟩ := hc
  have p0 := belowBy_cell hga p0
  have p1 := belowBy_cell hga p1
  have p2 := belowBy_cell hga p2
  have p3 := belowBy_cell hga p3
  have k0 := belowBy_cell hP k0
  have k1 := belowBy_cell hB k1
  have k2 := belowBy_cell hB k2
  clear hit WK wfx
  go_enter Try.func30, Try.ntmps30
  go_wp2_with fail
  refine wp_region_below (by kernel_rfl) (by kernel_rfl) ?_
  iterate 15 (first | go_big_quiet_step ((go_at_call 31; with_reducible exact calls_below (CL.out _))) | quiet_step ((go_at_call 31; with_reducible exact calls_below (CL.out _))))
  refine wpQuiet_nil ?_
  rintro wq ⟨⟨_, hq⟩, rfl⟩
  clear p0 p1 p2 p3 k0 k1 k2
  go_wp2
  go_ret
  exact ⟨by rw [← E.out]; first | rfl | simp, hq⟩

set_option maxHeartbeats 8000000 in
theorem indexOv_any (xs : List Cp) (wfx : ∀ c ∈ xs, c.Wf) (v : Value) (base : Nat) (day : Int) (hdy : -32768 ≤ day ∧ day ≤ 32767) (P B : Nat) (w : World) (hit : ItsOf w base v xs) (hc : CtAt w P B day v) (u : Value) (L : List Int) (hl : IntsOf .i64 w u L) (hm : ∀ x ∈ L, ∃ i : Nat, i < xs.length ∧ x = (i : Int)) (hn : L.length ≤ maxLen) :
    Calls Try.prog 39 #[u, .func (.func 30) #[] #[.pointer (some ⟨P, 0, none⟩)]] w fun e w' => ∃ r : Int, e = .returned (.int .i64 r) ∧ decide (0 ≤ r) = ovAny day xs L ∧ Below w.heap.size w w' := by
  have IT := Lib.hid hit
  obtain ⟨A, c, rfl, hat⟩ := hl
  have HAT := Lib.hid hat
  have HM := Lib.hid hm
  have HC := Lib.hid hc
  unfold maxLen at hn
  have CO := Lib.hid (fun (j : Nat) (hj : j < xs.length) W (h : Below w.heap.size w W) => closOv_any xs wfx v base day hdy j hj P B W (hit.below h) (hc.below h))
  clear hat hm hc hit wfx
  go_enter Try.func39, Try.ntmps39
  go_wp2
  go_loopw [8] (fun i_ wr => ∃ i : Nat, i ≤ L.length ∧ i_ = .int .i64 (i : Int) ∧ ovAny day xs (L.take i) = false ∧ Below w.heap.size w wr) (fun i_ _ => L.length - (intOf i_).toNat)
  case atStart => exact ⟨0, Nat.zero_le _, rfl, rfl, Below.refl _ _⟩
  case round =>
    obtain ⟨i, hi, rfl, hno, hb⟩ := hrel
    have NO := Lib.hid hno
    have HB := Lib.hid hb
    clear hno hb
    by_cases hlt : i < L.length
    · obtain ⟨gl, ol, rfl, hgl, hcl⟩ := HAT.out (by omega)
      have r0 := (HB.out.cell (p := ⟨gl, ol + i, none⟩) hgl).trans (hcl i hlt)
      obtain ⟨j, hj, je⟩ := HM.out _ (List.getElem_mem hlt)
      have OT := Lib.hid (ovAny_take (day := day) (cs := xs) hlt)
      have OY := Lib.hid (fun h => ovAny_yes (day := day) (cs := xs) hlt h)
      rw [je, ovAt_nat hj] at OY
      rw [je, ovAt_nat hj, NO.out] at OT
      rw [je] at r0
      have CJ := Lib.hid (CO.out j hj _ HB.out)
      clear je hcl
      generalize overB day xs[j] = r at CJ OT OY
      go_wp2_with fail
      refine CJ.out.mono ?_
      rintro e w2 ⟨rfl, k2⟩
      have B2 := Lib.hid (bnext HB.out k2)
      clear k2 r0
      cases r
      · have O2 := Lib.hid (OT.out.trans rfl)
        go_wp2
        go_roundw
        case rel => exact ⟨i + 1, by omega, by go_num, O2.out, B2.out⟩
        case measure => simp [intOf]; omega
      · have O2 := Lib.hid (OY.out rfl)
        go_wp2
        go_ret
        exact ⟨_, rfl, by rw [O2.out]; simp, B2.out⟩
    · obtain rfl : i = L.length := by omega
      have O2 := Lib.hid (show ovAny day xs L = false by have := NO.out; rwa [List.take_length] at this)
      go_wp2
      go_ret
      exact ⟨_, rfl, by rw [O2.out]; simp, HB.out⟩

set_option maxHeartbeats 2000000 in
theorem containsOv_any (xs : List Cp) (wfx : ∀ c ∈ xs, c.Wf) (v : Value) (base : Nat) (day : Int) (hdy : -32768 ≤ day ∧ day ≤ 32767) (P B : Nat) (w : World) (hit : ItsOf w base v xs) (hc : CtAt w P B day v) (u : Value) (L : List Int) (hl : IntsOf .i64 w u L) (hm : ∀ x ∈ L, ∃ i : Nat, i < xs.length ∧ x = (i : Int)) (hn : L.length ≤ maxLen) :
    Calls Try.prog 29 #[u, .func (.func 30) #[] #[.pointer (some ⟨P, 0, none⟩)]] w fun e w' => e = .returned (.bool (ovAny day xs L)) ∧ Below w.heap.size w w' := by
  have IX := Lib.hid (indexOv_any xs wfx v base day hdy P B w hit hc u L hl hm hn)
  clear hit hc hl hm wfx
  generalize ovAny day xs L = b at IX ⊢
  go_enter Try.func29, Try.ntmps29
  go_wp2_with fail
  refine IX.out.mono ?_
  rintro e w1 ⟨r, rfl, hr, g1⟩
  have HR := Lib.hid hr
  clear hr
  go_wp2
  go_ret
  exact ⟨by rw [← HR.out]; rfl, g1⟩

set_option maxHeartbeats 8000000 in
theorem mayLend_any (d : Dk) (wf : d.Wf ∧ ∀ c ∈ d.cs, c.q.length ≤ maxLen) (h60 : d.cs.length ≤ 60) (who : Int) (x : Cp) (B base : Nat) (A : Option Addr) (c : Nat) (A4 : Option Addr) (c4 : Nat) (w : World) (hit : ItsOf w base (.slice A d.cs.length c) d.cs) (hb : w.heap[B]? = some (.cells #[.int .i64 d.day, .slice A d.cs.length c, .int .i64 0] 42 (0, 0))) :
    Calls Try.prog 14 #[.pointer (some ⟨B, 0, none⟩), .int .i64 who, .agg #[.int .i64 x.st, .int .i64 x.who, .int .i64 x.due, .int .i64 x.ren, .slice A4 x.q.length c4]] w fun e w' => e = .returned (.bool (lendsB d who x)) ∧ Below w.heap.size w w' := by
  have IT := Lib.hid hit
  have WF := Lib.hid wf
  have DI := Lib.hid wf.1.day
  have HBX := Lib.hid hb
  have hB := (Array.getElem?_eq_some_iff.1 hb).1
  have b0 : w.cell? ⟨B, 0, none⟩ = some (.int .i64 d.day) := cell_of_row w _ 0 _ _ _ hb
  have b1 : w.cell? ⟨B, 1, none⟩ = some (.slice A d.cs.length c) := cell_of_row w _ 1 _ _ _ hb
  have b2 : w.cell? ⟨B, 2, none⟩ = some (.int .i64 0) := cell_of_row w _ 2 _ _ _ hb
  have EL := Lib.hid (show lendsB d who x = (headB who x && (!ovAny d.day d.cs (wh d.cs (lentTo who)) && decide ((wh d.cs (lentTo who)).length < 3))) from rfl)
  have WM := Lib.hid (fun (y : Int) (hy : y ∈ wh d.cs (lentTo who)) => (whTo_mem d.cs.length y hy).2.2)
  have WL := Lib.hid (wh_len d.cs (lentTo who))
  have HH : (headB who x = false ∧ (x.st != 0) = true ∧ heldFor who x = false) ∨ (headB who x = true ∧ (x.st != 0) = false) ∨ (headB who x = true ∧ (x.st != 0) = true ∧ heldFor who x = true) := by
    unfold headB
    by_cases h0 : x.st = 0
    · exact .inr (.inl ⟨by simp [h0], by simp [h0]⟩)
    · cases hh : heldFor who x
      · exact .inl ⟨by simp [h0], by simpa using h0, rfl⟩
      · exact .inr (.inr ⟨by simp, by simpa using h0, rfl⟩)
  generalize lendsB d who x = res at EL ⊢
  have WW := Lib.hid (fun day0 v base B w hit hc hB => whereMayLend1_any d.cs wf.1.cs wf.2 day0 who v base B w hit h60 hc hB)
  have CC := Lib.hid (fun v base P B w hit hc u hl => containsOv_any d.cs wf.1.cs v base d.day wf.1.day P B w hit hc u (wh d.cs (lentTo who)) hl (fun y hy => by obtain ⟨i, hi, e, _⟩ := WM.out y hy; exact ⟨i, hi, e⟩) (by have := WL.out; unfold maxLen; omega))
  have HF := Lib.hid (fun W => heldFor_any x who W)
  generalize heldFor who x = hf at HH HF
  generalize headB who x = hd at HH EL
  clear wf hit hb
  have R3 := Lib.hid (alloc3d w (.cells #[.pointer (some ⟨B, 0, none⟩)] 67) (.cells #[.int .i64 who] 2) (.cells #[.int .i64 x.st, .int .i64 x.who, .int .i64 x.due, .int .i64 x.ren, .slice A4 x.q.length c4] 47))
  rcases HH with ⟨rfl, c0, rfl⟩ | ⟨rfl, c0⟩ | ⟨rfl, c0, rfl⟩
  · have E := Lib.hid (show res = false by rw [EL.out]; rfl)
    go_enter Try.func14, Try.ntmps14
    go_wp2_with fail
    generalize hW : World.alloc (World.alloc (World.alloc w _) _) _ = W
    have G0 := Lib.hid (show Below w.heap.size w W by rw [← hW]; exact (((Below.refl _ _).alloc (Nat.le_refl _) _).alloc (by simp) _).alloc (by simp; omega) _)
    have D0 := Lib.hid (show W.heap[w.heap.size]? = some (.cells #[.pointer (some ⟨B, 0, none⟩)] 67 (0, 0)) by rw [← hW]; exact R3.out.1)
    have D1 := Lib.hid (show W.heap[w.heap.size + 1]? = some (.cells #[.int .i64 who] 2 (0, 0)) by rw [← hW]; exact R3.out.2.1)
    have z2 : w.heap.size + 2 < W.heap.size := by rw [← hW]; simp
    have z1 : w.heap.size + 1 < W.heap.size := by omega
    have z0 : w.heap.size < W.heap.size := by omega
    clear hW
    refine (HF.out _).mono ?_
    rintro e w1 ⟨rfl, k1⟩
    have G1 := Lib.hid (bnext G0.out k1)
    have D0 := Lib.hid ((k1.block _ z0).trans D0.out)
    have D1 := Lib.hid ((k1.block _ z1).trans D1.out)
    have z0 := Nat.lt_of_lt_of_le z0 k1.size
    have z1 := Nat.lt_of_lt_of_le z1 k1.size
    have d0 : w1.cell? ⟨w.heap.size, 0, none⟩ = some (.pointer (some ⟨B, 0, none⟩)) := cell_of_row w1 _ 0 _ _ _ D0.out
    have X1 := Lib.hid ((G1.out.block _ hB).trans HBX.out)
    have b0 : w1.cell? ⟨B, 0, none⟩ = some (.int .i64 d.day) := cell_of_row w1 _ 0 _ _ _ X1.out
    have b1 : w1.cell? ⟨B, 1, none⟩ = some (.slice A d.cs.length c) := cell_of_row w1 _ 1 _ _ _ X1.out
    have b2 : w1.cell? ⟨B, 2, none⟩ = some (.int .i64 0) := cell_of_row w1 _ 2 _ _ _ X1.out
    clear k1
    go_wp2
    go_ret
    exact ⟨by rw [E.out]; rfl, G1.out⟩
  · skip
    have E := Lib.hid (show res = (!ovAny d.day d.cs (wh d.cs (lentTo who)) && decide ((wh d.cs (lentTo who)).length < 3)) by rw [EL.out]; rfl)
    clear EL
    have GA := Lib.hid (show Below w.heap.size w (World.alloc (World.alloc (World.alloc w (.cells #[.pointer (some ⟨B, 0, none⟩)] 67)) (.cells #[.int .i64 who] 2)) (.cells #[.int .i64 x.st, .int .i64 x.who, .int .i64 x.due, .int .i64 x.ren, .slice A4 x.q.length c4] 47)) from (((Below.refl _ _).alloc (Nat.le_refl _) _).alloc (by simp) _).alloc (by simp; omega) _)
    have q0 := (GA.out.cell (p := ⟨B, 0, none⟩) hB).trans b0
    have q1 := (GA.out.cell (p := ⟨B, 1, none⟩) hB).trans b1
    have q2 := (GA.out.cell (p := ⟨B, 2, none⟩) hB).trans b2
    go_enter Try.func14, Try.ntmps14
    go_wp2_with fail
    clear q0 q1 q2 GA
    generalize hW : World.alloc (World.alloc (World.alloc w _) _) _ = W
    have G0 := Lib.hid (show Below w.heap.size w W by rw [← hW]; exact (((Below.refl _ _).alloc (Nat.le_refl _) _).alloc (by simp) _).alloc (by simp; omega) _)
    have D0 := Lib.hid (show W.heap[w.heap.size]? = some (.cells #[.pointer (some ⟨B, 0, none⟩)] 67 (0, 0)) by rw [← hW]; exact R3.out.1)
    have D1 := Lib.hid (show W.heap[w.heap.size + 1]? = some (.cells #[.int .i64 who] 2 (0, 0)) by rw [← hW]; exact R3.out.2.1)
    have z2 : w.heap.size + 2 < W.heap.size := by rw [← hW]; simp
    have z1 : w.heap.size + 1 < W.heap.size := by omega
    have z0 : w.heap.size < W.heap.size := by omega
    clear hW
    refine (WW.out d.day _ base (w.heap.size + 1) W (IT.out.below G0.out) (cell_of_row W _ 0 _ _ _ D1.out) z1).mono ?_
    rintro e w5 ⟨u5, rfl, ho, k5⟩
    have HO := Lib.hid (ownInts ho)
    obtain ⟨A6, c6, rfl⟩ := vlen_own1 ho
    have G5 := Lib.hid (bnext G0.out k5)
    have CT := Lib.hid (show CtAt w5 w.heap.size B d.day (.slice A d.cs.length c) from
      have D5 := (k5.block _ z0).trans D0.out
      have X5 := (G5.out.block _ hB).trans HBX.out
      ⟨cell_of_row w5 _ 0 _ _ _ D5, Nat.lt_of_lt_of_le z0 k5.size, cell_of_row w5 _ 0 _ _ _ X5, cell_of_row w5 _ 1 _ _ _ X5, Nat.lt_of_lt_of_le hB G5.out.size⟩)
    clear ho k5
    go_wp2_with fail
    refine (CC.out _ base w.heap.size B w5 (IT.out.below G5.out) CT.out _ HO.out).mono ?_
    rintro e w6 ⟨rfl, k6⟩
    have G6 := Lib.hid (bnext G5.out k6)
    clear k6
    generalize ovAny d.day d.cs (wh d.cs (lentTo who)) = ov at E ⊢
    generalize (wh d.cs (lentTo who)).length = m at E ⊢
    by_cases h3 : m < 3
    · have h3' : (m : Int) < 3 := by omega
      go_wp2
      go_ret
      exact ⟨by rw [E.out, decide_eq_true h3]; cases ov <;> rfl, G6.out⟩
    · have h3' : ¬ (m : Int) < 3 := by omega
      go_wp2
      go_ret
      exact ⟨by rw [E.out, decide_eq_false h3]; cases ov <;> rfl, G6.out⟩
  · skip
    have E := Lib.hid (show res = (!ovAny d.day d.cs (wh d.cs (lentTo who)) && decide ((wh d.cs (lentTo who)).length < 3)) by rw [EL.out]; rfl)
    clear EL
    go_enter Try.func14, Try.ntmps14
    go_wp2_with fail
    generalize hW : World.alloc (World.alloc (World.alloc w _) _) _ = W
    have G0 := Lib.hid (show Below w.heap.size w W by rw [← hW]; exact (((Below.refl _ _).alloc (Nat.le_refl _) _).alloc (by simp) _).alloc (by simp; omega) _)
    have D0 := Lib.hid (show W.heap[w.heap.size]? = some (.cells #[.pointer (some ⟨B, 0, none⟩)] 67 (0, 0)) by rw [← hW]; exact R3.out.1)
    have D1 := Lib.hid (show W.heap[w.heap.size + 1]? = some (.cells #[.int .i64 who] 2 (0, 0)) by rw [← hW]; exact R3.out.2.1)
    have z2 : w.heap.size + 2 < W.heap.size := by rw [← hW]; simp
    have z1 : w.heap.size + 1 < W.heap.size := by omega
    have z0 : w.heap.size < W.heap.size := by omega
    clear hW
    refine (HF.out _).mono ?_
    rintro e w1 ⟨rfl, k1⟩
    have G1 := Lib.hid (bnext G0.out k1)
    have D0 := Lib.hid ((k1.block _ z0).trans D0.out)
    have D1 := Lib.hid ((k1.block _ z1).trans D1.out)
    have z0 := Nat.lt_of_lt_of_le z0 k1.size
    have z1 := Nat.lt_of_lt_of_le z1 k1.size
    have d0 : w1.cell? ⟨w.heap.size, 0, none⟩ = some (.pointer (some ⟨B, 0, none⟩)) := cell_of_row w1 _ 0 _ _ _ D0.out
    have X1 := Lib.hid ((G1.out.block _ hB).trans HBX.out)
    have b0 : w1.cell? ⟨B, 0, none⟩ = some (.int .i64 d.day) := cell_of_row w1 _ 0 _ _ _ X1.out
    have b1 : w1.cell? ⟨B, 1, none⟩ = some (.slice A d.cs.length c) := cell_of_row w1 _ 1 _ _ _ X1.out
    have b2 : w1.cell? ⟨B, 2, none⟩ = some (.int .i64 0) := cell_of_row w1 _ 2 _ _ _ X1.out
    clear k1
    go_wp2_with fail
    refine (WW.out d.day _ base (w.heap.size + 1) w1 (IT.out.below G1.out) (cell_of_row w1 _ 0 _ _ _ D1.out) z1).mono ?_
    rintro e w5 ⟨u5, rfl, ho, k5⟩
    have HO := Lib.hid (ownInts ho)
    obtain ⟨A6, c6, rfl⟩ := vlen_own1 ho
    have G5 := Lib.hid (bnext G1.out k5)
    have CT := Lib.hid (show CtAt w5 w.heap.size B d.day (.slice A d.cs.length c) from
      have D5 := (k5.block _ z0).trans D0.out
      have X5 := (G5.out.block _ hB).trans HBX.out
      ⟨cell_of_row w5 _ 0 _ _ _ D5, Nat.lt_of_lt_of_le z0 k5.size, cell_of_row w5 _ 0 _ _ _ X5, cell_of_row w5 _ 1 _ _ _ X5, Nat.lt_of_lt_of_le hB G5.out.size⟩)
    clear ho k5
    go_wp2_with fail
    refine (CC.out _ base w.heap.size B w5 (IT.out.below G5.out) CT.out _ HO.out).mono ?_
    rintro e w6 ⟨rfl, k6⟩
    have G6 := Lib.hid (bnext G5.out k6)
    clear k6
    generalize ovAny d.day d.cs (wh d.cs (lentTo who)) = ov at E ⊢
    generalize (wh d.cs (lentTo who)).length = m at E ⊢
    by_cases h3 : m < 3
    · have h3' : (m : Int) < 3 := by omega
      go_wp2
      go_ret
      exact ⟨by rw [E.out, decide_eq_true h3]; cases ov <;> rfl, G6.out⟩
    · have h3' : ¬ (m : Int) < 3 := by omega
      go_wp2
      go_ret
      exact ⟨by rw [E.out, decide_eq_false h3]; cases ov <;> rfl, G6.out⟩

set_option maxHeartbeats 4000000 in
theorem implMayLend_any (d : Dk) (wf : d.Wf ∧ ∀ c ∈ d.cs, c.q.length ≤ maxLen) (who book : Int) (g : Nat) (w : World) (hs : CRowK w g g d.cs d.cs.length d.cs.length) (hn : d.cs.length ≤ maxLen) :
    Calls Try.prog 7 #[.agg #[.int .i16 d.day, .slice (some ⟨g, 0, none⟩) d.cs.length d.cs.length], .int .i64 who, .int .i64 book] w fun e w' => e = .returned (.tuple #[.bool (mayB d who book), .int .i64 (askC d who book)]) ∧ Below w.heap.size w w' := by
  have CW := Lib.hid (fun W (h : Below w.heap.size w W) => counterWith_any d wf who book g W (hs.below h) hn)
  have G0 := Lib.hid (show Below w.heap.size w (w.alloc (.cells #[.int .i16 d.day, .slice (some ⟨g, 0, none⟩) d.cs.length d.cs.length] 31)) from (Below.refl _ _).alloc (Nat.le_refl _) _)
  have ME := Lib.hid (mayLend_any d wf)
  clear wf hs
  have KK : (¬ askC d who book = 0 ∧ mayB d who book = false) ∨ (askC d who book = 0 ∧ askDay d who book = d.day ∧ askCs d who book = d.cs ∧ d.cs.length ≤ 60 ∧ mayB d who book = lendsB d who (askP d who book)) := by
    rcases ask_cn d who book with ⟨h1, h2, -⟩ | ⟨-, -, -, -, -, h2, -⟩ | ⟨-, -, -, h6, -, h2, h3, h4, -⟩
    · exact .inl ⟨by rw [h2]; exact h1, if_neg (by rw [h2]; exact h1)⟩
    · exact .inl ⟨by omega, if_neg (by omega)⟩
    · exact .inr ⟨h2, h3, h4, h6, if_pos h2⟩
  rcases KK with ⟨h1, h2⟩ | ⟨h1, h2, h3, h60, h4⟩
  · rw [h2]
    generalize askC d who book = k at h1 CW ⊢
    generalize askP d who book = x at CW
    have hk : (k == 0) = false := by simpa using h1
    clear h1 h2
    go_enter Try.func7, Try.ntmps7
    go_wp2_with fail
    generalize World.alloc w _ = W2 at G0 ⊢
    refine (CW.out _ G0.out).mono ?_
    rintro e w1 ⟨v, u, rfl, hit, hq, k1⟩
    obtain ⟨A3, c3, rfl⟩ := hit.form
    obtain ⟨A4, c4, rfl⟩ := hq.form
    have G1 := Lib.hid (bnext G0.out k1)
    clear hit hq k1
    go_wp2
    go_ret2
    exact ⟨rfl, (G1.out.alloc G1.out.size _).alloc (by have := G1.out.size; simp; omega) _⟩
  · rw [h4]
    rw [h1, h2, h3] at CW
    rw [h1]
    clear h1 h2 h3 h4
    generalize askP d who book = x at CW ⊢
    go_enter Try.func7, Try.ntmps7
    go_wp2_with fail
    generalize World.alloc w _ = W2 at G0 ⊢
    refine (CW.out _ G0.out).mono ?_
    rintro e w1 ⟨v, u, rfl, hit, hq, k1⟩
    obtain ⟨A3, c3, rfl⟩ := hit.form
    obtain ⟨A4, c4, rfl⟩ := hq.form
    have G1 := Lib.hid (bnext G0.out k1)
    have HIT := Lib.hid hit
    clear hit hq k1
    go_wp2_with fail
    generalize hW : World.alloc (World.alloc w1 _) _ = W4
    have A1 := Lib.hid (show Below w1.heap.size w1 W4 by rw [← hW]; exact ((Below.refl _ _).alloc (Nat.le_refl _) _).alloc (by simp) _)
    have X1 := Lib.hid (show W4.heap[w1.heap.size]? = some (.cells #[.int .i64 d.day, .slice A3 d.cs.length c3, .int .i64 0] 42 (0, 0)) by rw [← hW]; exact (alloc2 w1 _ _).1)
    clear hW
    refine (ME.out h60 who x w1.heap.size _ A3 c3 A4 c4 W4 (HIT.out.below A1.out) X1.out).mono ?_
    rintro e w5 ⟨rfl, k5⟩
    have G5 := Lib.hid (bnext (bnext G1.out A1.out) k5)
    clear k5
    go_wp2
    go_ret2
    exact ⟨rfl, G5.out⟩
end Go.Proofs.Ytmafjncaigllbab
