/- FnLabels, walked. No condition. -/
import Derived.Test.YtimojjkblofhnaaFlS
import Derived.Test.YtimojjkblofhnaaLabZ2
import Derived.Test.YtimojjkblofhnaaLabY
import Derived.Test.YtimojjkblofhnaaNlO
import Derived.Test.YtimojjkblofhnaaNlI
import Derived.Test.YtimojjkblofhnaaNlS
import Derived.Deep.CutBlock
namespace Go.Proofs.Ytimojjkblofhnaa
set_option linter.unusedSimpArgs false
set_option linter.unusedVariables false
set_option maxRecDepth 100000
open Go.RowKit

theorem strs_at {w : World} {A : Option Addr} {n c : Nat} {ss : List (List UInt8)} (h : StrsOf w (.slice A n c) ss) (h0 : 0 < ss.length) : ∃ g o, A = some ⟨g, o, none⟩ ∧ g < w.heap.size ∧ StrsAt w g o ss := by
  obtain ⟨A', c', e, hat⟩ := h
  obtain ⟨g, o, hA, hg, ha⟩ := hat h0
  refine ⟨g, o, ?_, hg, ha⟩
  injection e with e1 e2 e3
  rw [e1, hA]
theorem dfc_le (s t : List UInt8) : ∀ k, dfc s t k ≤ k
  | 0 => Nat.le_refl _
  | k + 1 => by
    have := dfc_le s t k
    rw [dfc]
    split <;> omega
theorem dfc_same {s t : List UInt8} {k : Nat} (h1 : k < s.length) (h2 : k < t.length) (e : s[k] = t[k]) : dfc s t (k + 1) = dfc s t k := by
  rw [dfc, List.getElem?_eq_getElem h1, List.getElem?_eq_getElem h2, e, if_pos rfl]; rfl
theorem dfc_diff {s t : List UInt8} {k : Nat} (h1 : k < s.length) (h2 : k < t.length) (e : s[k] ≠ t[k]) : dfc s t (k + 1) = dfc s t k + 1 := by
  rw [dfc, List.getElem?_eq_getElem h1, List.getElem?_eq_getElem h2, if_neg (by simpa using e)]
theorem take_mem_step {T : List UInt8} {ms : List (List UInt8)} {n : Nat} (h : n < ms.length) : decide (T ∈ ms.take (n + 1)) = (decide (T ∈ ms.take n) || decide (ms[n] = T)) := by
  rw [List.take_succ_eq_append_getElem h, ← Bool.decide_or]
  refine decide_eq_decide.2 ?_
  rw [List.mem_append, List.mem_singleton]
  exact or_congr Iff.rfl ⟨fun e => e.symm, fun e => e.symm⟩
theorem labR_eq {b : Bk} (h : bookB b = true) : labR b = tB (labT b) := by unfold labR; rw [h]; rfl
theorem bookB_wf {b : Bk} (h : bookB b = true) : b.Wf := by
  unfold bookB markB inB at h
  simp only [Bool.and_eq_true, decide_eq_true_eq] at h
  constructor <;> omega
set_option maxRecDepth 1000000 in
set_option maxHeartbeats 16000000 in
theorem walkFnLabels (v0 v1 : Value) (zs0 zs1 : List Int) (w : World) (c0 : IntsOf .u8 w v0 zs0) (c1 : IntsOf .u8 w v1 zs1) (b0 : ∀ z ∈ zs0, 0 ≤ z ∧ z ≤ 255) (b1 : ∀ z ∈ zs1, 0 ≤ z ∧ z ≤ 255) :
    Calls Try.prog 3 #[v0, v1] w fun e w' => e = .returned (.bool true) ∧ Below w.heap.size w w' := by
  have C0 := Lib.hid c0
  have C1 := Lib.hid c1
  have HB0 := Lib.hid b0
  have HB1 := Lib.hid b1
  obtain ⟨A0, k0, rfl, -⟩ := c0
  obtain ⟨A1, k1, rfl, -⟩ := c1
  clear b0 b1
  by_cases h0 : 4096 < (zs0.length : Int)
  · have d0 : decide (4096 < (zs0.length : Int)) = true := decide_eq_true h0
    go_enter Try.func3, Try.ntmps3
    go_wp2_with fail
    refine (f6big_any _ _ _ _).mono ?_
    rintro e w' ⟨rfl, rfl⟩
    rw [d0]
    go_wp2
    go_ret
    exact ⟨rfl, Below.refl _ _⟩
  by_cases h1 : 4096 < (zs1.length : Int)
  · have d0 : decide (4096 < (zs0.length : Int)) = false := decide_eq_false h0
    have d1 : decide (4096 < (zs1.length : Int)) = true := decide_eq_true h1
    go_enter Try.func3, Try.ntmps3
    go_wp2_with fail
    refine (f6big_any _ _ _ _).mono ?_
    rintro e w' ⟨rfl, rfl⟩
    rw [d0]
    go_wp2_with fail
    refine (f6big_any _ _ _ _).mono ?_
    rintro e w' ⟨rfl, rfl⟩
    rw [d1]
    go_wp2
    go_ret
    exact ⟨rfl, Below.refl _ _⟩
  have l0 : zs0.length ≤ 1048576 := by omega
  have l1 : zs1.length ≤ 1048576 := by omega
  have d0 : decide (4096 < (zs0.length : Int)) = false := decide_eq_false h0
  have d1 : decide (4096 < (zs1.length : Int)) = false := decide_eq_false h1
  have PB := Lib.hid (p6Book_any C0.out HB0.out l0)
  have PK0 := Lib.hid (fun W (hb : Below w.heap.size w W) n h1 h2 => p6Pick_any (C0.out.below hb) HB0.out l0 n h1 h2)
  have PK1 := Lib.hid (fun W (hb : Below w.heap.size w W) n h1 h2 => p6Pick_any (C1.out.below hb) HB1.out l1 n h1 h2)
  clear h0 h1 l0 l1
  go_enter Try.func3, Try.ntmps3
  go_wp2_with fail
  refine (f6big_any _ _ _ _).mono ?_
  rintro e w' ⟨rfl, rfl⟩
  rw [d0]
  go_wp2_with fail
  refine (f6big_any _ _ _ _).mono ?_
  rintro e w' ⟨rfl, rfl⟩
  rw [d1]
  clear d0 d1
  go_wp2_with fail
  refine PB.out.mono ?_
  rintro e w1 ⟨b, rfl, kb, h1⟩
  have wb := bookB_wf kb
  have E0 := labR_eq kb
  obtain ⟨r1, r2, r3, r4⟩ := rd_lab kb
  have I0 := isB_lab kb
  have T9 := Lib.hid (labT_len b)
  have IS := Lib.hid (fun (i : Nat) (hi : i ∈ digA) (x : UInt8) (hx : 48 ≤ x.toNat ∧ x.toNat ≤ 57) (hne : ∀ hl : i < (labT b).length, x ≠ (labT b)[i]) => isB_set kb hi hx hne)
  have DN := Lib.hid (fun (i : Nat) (hi : i < 9) (x : UInt8) (hd : ∀ hl : i < (labT b).length, 48 ≤ ((labT b)[i]).toNat ∧ ((labT b)[i]).toNat ≤ 57) (hne : ∀ hl : i < (labT b).length, x ≠ (labT b)[i]) => due_near kb hi hd hne)
  have DG := Lib.hid (fun (i : Nat) (hi : i ∈ digA) (hl : i < (labT b).length) => lab_dig kb hi hl)
  have LO := Lib.hid (fun W => labelOf_any b wb W)
  have SLO := Lib.hid (fun W => specLabelOf_any b wb W)
  have RL := Lib.hid (fun W => readLabel_any (tB (labT b)) (by rw [tB_size, labT_len]; unfold maxLen; omega) W)
  have CL := Lib.hid (fun W => checkLabel_any (tB (labT b)) (by rw [tB_size, labT_len]; unfold maxLen; omega) W)
  rw [E0] at LO SLO
  rw [r1, r2, r3, r4] at RL
  rw [I0] at CL
  have M0 := Lib.hid wb.m0
  have M1 := Lib.hid wb.m1
  have M2 := Lib.hid wb.m2
  obtain ⟨cb1, cb2⟩ := wb.c
  obtain ⟨vb1, vb2⟩ := wb.v
  clear r1 r2 r3 r4 I0 E0 kb wb
  generalize labT b = T at LO SLO RL CL T9 IS DN DG
  have ba := (Below.refl w1.heap.size w1).alloc (Nat.le_refl _) (.cells #[.int .i16 b.c, .int .u8 b.m0, .int .u8 b.m1, .int .u8 b.m2, .int .i16 b.v, .int .i16 b.wi, .int .i16 b.hi, .int .i16 b.we] 27)
  have B1 := Lib.hid (bnext h1 ba)
  have K1 := Lib.hid (show K8 (w1.alloc (.cells #[.int .i16 b.c, .int .u8 b.m0, .int .u8 b.m1, .int .u8 b.m2, .int .i16 b.v, .int .i16 b.wi, .int .i16 b.hi, .int .i16 b.we] 27)) w1.heap.size b.c b.m0 b.m1 b.m2 b.v b.wi b.hi b.we from heap_alloc_new w1 _)
  clear ba h1
  go_upto_region 4 with (fail)
  generalize World.alloc w1 _ = W1 at B1 K1 ⊢
  generalize w1.heap.size = p at K1 ⊢
  obtain ⟨S, hS⟩ : ∃ S, tB T = S := ⟨_, rfl⟩
  have HS := Lib.hid hS
  rw [hS] at LO SLO RL CL
  have S9 : S.size = 9 := by rw [← hS, tB_size, T9.out]
  clear hS
  have q0 := K1.out.c0
  have q1 := K1.out.c1
  have q2 := K1.out.c2
  have q3 := K1.out.c3
  have q4 := K1.out.c4
  have q5 := K1.out.c5
  have q6 := K1.out.c6
  have q7 := K1.out.c7
  go_wp2_with fail
  refine (LO.out _).mono ?_
  rintro e W2 ⟨rfl, h2⟩
  have K2 := Lib.hid (K1.out.below h2)
  have B2 := Lib.hid (bnext B1.out h2)
  clear h2 q0 q1 q2 q3 q4 q5 q6 q7
  have q0 := K2.out.c0
  have q1 := K2.out.c1
  have q2 := K2.out.c2
  have q3 := K2.out.c3
  have q4 := K2.out.c4
  have q5 := K2.out.c5
  have q6 := K2.out.c6
  have q7 := K2.out.c7
  go_wp2_with fail
  refine (SLO.out _).mono ?_
  rintro e W3 ⟨rfl, h3⟩
  have K3 := Lib.hid (K2.out.below h3)
  have B3 := Lib.hid (bnext B2.out h3)
  clear h3 q0 q1 q2 q3 q4 q5 q6 q7
  go_wp2_with fail
  refine (RL.out _).mono ?_
  rintro e W4 ⟨rfl, h4⟩
  have K4 := Lib.hid (K3.out.below h4)
  have B4 := Lib.hid (bnext B3.out h4)
  clear h4
  have e0 : (S.toList == S.toList) = true := by simp
  go_wp2_with fail
  refine (CL.out _).mono ?_
  rintro e W5 ⟨rfl, h5⟩
  have K5 := Lib.hid (K4.out.below h5)
  have B5 := Lib.hid (bnext B4.out h5)
  clear h5
  have q0 := K5.out.c0
  have q1 := K5.out.c1
  have q2 := K5.out.c2
  have q3 := K5.out.c3
  have q4 := K5.out.c4
  obtain ⟨MB, hMB⟩ : ∃ MB, tB (bytesOf [b.m0, b.m1, b.m2]) = MB := ⟨_, rfl⟩
  have DM : (convert 22 9 (.slice (some ⟨p, 1, none⟩) 3 3)).run Try.prog W5 = .ok (.string MB) W5 := by
    rw [← hMB]
    exact run_convert_bytes_back (P := Try.prog) W5 22 9 5 ⟨p, 1, none⟩ 3 (bytesOf [b.m0, b.m1, b.m2]) Try.underlying22 Try.underlying5 Try.underlying9 (fun j hj => by
        rw [Addr.add_lit]
        have hj' : j = 0 ∨ j = 1 ∨ j = 2 := by rw [bytesOf_len] at hj; simp only [List.length_cons, List.length_nil] at hj; omega
        rcases hj' with rfl | rfl | rfl
        · rw [show (bytesOf [b.m0, b.m1, b.m2])[0] = UInt8.ofNat b.m0.toNat from rfl, utoNat M0.out]; exact q1
        · rw [show (bytesOf [b.m0, b.m1, b.m2])[1] = UInt8.ofNat b.m1.toNat from rfl, utoNat M1.out]; exact q2
        · rw [show (bytesOf [b.m0, b.m1, b.m2])[2] = UInt8.ofNat b.m2.toNat from rfl, utoNat M2.out]; exact q3)
  rw [hMB]
  have e1 : (MB.toList == MB.toList) = true := by simp
  clear hMB
  go_upto_region 9 with (fail)
  clear q0 q1 q2 q3 q4 e0 e1 DM cb1 cb2 vb1 vb2
  have ba := (Below.refl W5.heap.size W5).alloc (Nat.le_refl _) (.cells #[.int .i64 0, .int .i64 1, .int .i64 2, .int .i64 6, .int .i64 7, .int .i64 8] 3)
  have B6 := Lib.hid (bnext B5.out ba)
  have D6 := Lib.hid (heap_alloc_new W5 (.cells #[.int .i64 0, .int .i64 1, .int .i64 2, .int .i64 6, .int .i64 7, .int .i64 8] 3))
  clear ba
  go_upto_region 10 with (fail)
  generalize World.alloc W5 _ = W6 at B6 D6 ⊢
  obtain ⟨dg, hdg⟩ : ∃ dg, W5.heap.size = dg := ⟨_, rfl⟩
  rw [hdg] at D6 ⊢
  clear hdg
  go_wp2_with fail
  refine (PK1.out _ B6.out 6 (by omega) (by omega)).mono ?_
  rintro e W7 ⟨z, rfl, ⟨za, zb⟩, h7⟩
  have D7 := Lib.hid ((h7.block dg (Array.getElem?_eq_some_iff.1 D6.out).1).trans D6.out)
  have B7 := Lib.hid (bnext B6.out h7)
  clear h7
  obtain ⟨j, rfl⟩ : ∃ j : Nat, z = (j : Int) := ⟨z.toNat, by omega⟩
  obtain ⟨i, hi, ci⟩ : ∃ i : Nat, i ∈ digA ∧ W7.cell? ⟨dg, j, none⟩ = some (.int .i64 (i : Int)) := by
    have hj : j = 0 ∨ j = 1 ∨ j = 2 ∨ j = 3 ∨ j = 4 ∨ j = 5 := by omega
    rcases hj with rfl | rfl | rfl | rfl | rfl | rfl
    · exact ⟨0, by decide, cell_of_row W7 _ 0 _ _ _ D7.out⟩
    · exact ⟨1, by decide, cell_of_row W7 _ 1 _ _ _ D7.out⟩
    · exact ⟨2, by decide, cell_of_row W7 _ 2 _ _ _ D7.out⟩
    · exact ⟨6, by decide, cell_of_row W7 _ 3 _ _ _ D7.out⟩
    · exact ⟨7, by decide, cell_of_row W7 _ 4 _ _ _ D7.out⟩
    · exact ⟨8, by decide, cell_of_row W7 _ 5 _ _ _ D7.out⟩
  have HI := Lib.hid hi
  have i9 : i < 9 := by
    simp only [digA, List.mem_cons, List.not_mem_nil, or_false] at hi
    omega
  clear hi
  have hil : i < T.length := by rw [T9.out]; exact i9
  have his : i < S.size := by omega
  have GT := Lib.hid (show S[i] = T[i] by
    have := HS.out
    subst this
    exact tB_get T i his hil)
  have DI := Lib.hid (DG.out i HI.out hil)
  go_wp2_with fail
  refine (PK0.out _ B7.out 9 (by omega) (by omega)).mono ?_
  rintro e W8 ⟨k, rfl, ⟨ka, kb⟩, h8⟩
  have B8 := Lib.hid (bnext B7.out h8)
  clear h8 ci
  obtain ⟨cap, W9, hrun, hy, hcap, hb9⟩ := toBytes T W8
  rw [HS.out, T9.out] at hrun
  rw [T9.out] at hcap
  have Y9 := Lib.hid hy
  have B9 := Lib.hid (bnext B8.out hb9)
  clear hy hb9
  go_upto_region 13 with (fail)
  obtain ⟨gb, hgb⟩ : ∃ gb, W8.heap.size = gb := ⟨_, rfl⟩
  have gbl : w.heap.size ≤ gb := by rw [← hgb]; exact B8.out.size
  rw [hgb] at Y9 ⊢
  clear hrun hgb
  obtain ⟨di1, di2⟩ := DI.out
  have gs1 : 48 ≤ (S[i]).toNat := by rw [GT.out]; exact di1
  have gs2 : (S[i]).toNat ≤ 57 := by rw [GT.out]; exact di2
  have hu0 := Y9.out.cell i hil
  have fz := Y9.out.frozen i hil
  go_upto_region 14 with (fail)
  obtain ⟨x, hx⟩ : ∃ x : UInt8, (x.toNat : Int) = 48 + (((S[i]).toNat : Int) - 48 + (1 + k)) % 10 := ⟨UInt8.ofNat (48 + (((S[i]).toNat : Int) - 48 + (1 + k)) % 10).toNat, utoNat (by omega)⟩
  have xd : 48 ≤ x.toNat ∧ x.toNat ≤ 57 := by omega
  have xn : ∀ hl : i < T.length, x ≠ T[i] := fun hl e => by
    rw [GT.out] at hx
    rw [e] at hx
    omega
  have I1 := IS.out i HI.out x xd xn
  have N1 := DN.out i i9 x (fun hl => DG.out i HI.out hl) xn
  have Y10 := Lib.hid (Y9.out.put i hil x)
  have B10 := Lib.hid (B9.out.setCell (p := ⟨gb, i, none⟩) gbl (.int .u8 (x.toNat : Int)))
  have X9 : (T.set i x).length = 9 := by rw [List.length_set, T9.out]
  rw [← hx]
  clear hx xd xn hu0 fz gs1 gs2 di1 di2
  generalize World.setCell W9 _ _ = W10 at Y10 B10 ⊢
  generalize T.set i x = X at I1 N1 X9 Y10
  have RC := Lib.hid (show rdC (tB X) = 0 ∧ rdM (tB X) = ⟨#[]⟩ ∧ rdV (tB X) = 0 ∧ rdE (tB X) = 5 by unfold rdC rdM rdV rdE; rw [I1]; exact ⟨rfl, rfl, rfl, rfl⟩)
  have NC := Lib.hid (show nlC X = 0 by unfold nlC; rw [if_pos X9])
  have XM : X.length ≤ maxLen := by unfold maxLen; omega
  have NI := Lib.hid (fun W => nearLabels_any X XM W)
  have NS := Lib.hid (fun W => specNear_any X XM W)
  have WI := Lib.hid (fun W => swappedLabels_any X XM W)
  have WS := Lib.hid (fun W => specSwapped_any X XM W)
  have RX := Lib.hid (fun W => readLabel_any (tB X) (by rw [tB_size]; exact XM) W)
  have CX := Lib.hid (fun W => checkLabel_any (tB X) (by rw [tB_size]; exact XM) W)
  have CA := Lib.hid (fun (t : List UInt8) (h : t.length = 9) W => checkLabel_any (tB t) (by rw [tB_size, h]; unfold maxLen; omega) W)
  rw [NC.out] at NI NS WI WS
  rw [RC.out.1, RC.out.2.1, RC.out.2.2.1, RC.out.2.2.2] at RX
  rw [I1] at CX
  obtain ⟨nr1, nr2⟩ := near_all X9
  have sw2 := swap_all X9
  have nl : (nrL X).length ≤ 400 := by unfold nrL; rw [if_pos X9]; exact Nat.le_trans (lbs_len _ _ _) (by omega)
  have wl : (swL X).length ≤ 400 := by unfold swL; rw [if_pos X9]; exact Nat.le_trans (lbs_len _ _ _) (by omega)
  have NR := Lib.hid nr1
  have NA := Lib.hid nr2
  have SA := Lib.hid sw2
  have ND := Lib.hid N1
  have X9h := Lib.hid X9
  clear nr1 nr2 sw2 N1 I1 XM RC NC IS DN DG
  generalize nrL X = ms at NI NS nl NR NA ND
  generalize swL X = ks at WI WS wl SA
  have TX : (convert 22 9 (.slice (some ⟨gb, 0, none⟩) 9 cap)).run Try.prog W10 = .ok (.string (tB X)) W10 := Y10.out.text X9
  obtain ⟨R, hR⟩ : ∃ R, tB X = R := ⟨_, rfl⟩
  have HR := Lib.hid hR
  have R9 : R.size = 9 := by rw [← hR, tB_size, X9]
  rw [hR] at TX NI NS WI WS RX CX
  clear hR X9
  go_upto_region 15 with (fail)
  clear TX
  go_wp2_with fail
  refine (NI.out _).mono ?_
  rintro e W11 ⟨u1, rfl, o1, h11⟩
  have U1 := Lib.hid (ownStrs o1 rfl)
  have B11 := Lib.hid (bnext B10.out h11)
  clear o1 h11
  go_wp2_with fail
  refine (NS.out _).mono ?_
  rintro e W12 ⟨u2, rfl, o2, h12⟩
  have U1 := Lib.hid (U1.out.below h12)
  have U2 := Lib.hid o2
  have B12 := Lib.hid (bnext B11.out h12)
  clear o2 h12
  go_wp2_with fail
  refine (WI.out _).mono ?_
  rintro e W13 ⟨u3, rfl, o3, h13⟩
  have U1 := Lib.hid (U1.out.below h13)
  have U2 := Lib.hid (U2.out.below h13)
  have U3 := Lib.hid (ownStrs o3 rfl)
  have B13 := Lib.hid (bnext B12.out h13)
  clear o3 h13
  go_wp2_with fail
  refine (WS.out _).mono ?_
  rintro e W14 ⟨u4, rfl, o4, h14⟩
  have U1 := Lib.hid (U1.out.below h14)
  have U2 := Lib.hid (U2.out.below h14)
  have U3 := Lib.hid (U3.out.below h14)
  have U4 := Lib.hid o4
  have B14 := Lib.hid (bnext B13.out h14)
  clear o4 h14
  go_wp2_with fail
  refine (RX.out _).mono ?_
  rintro e W15 ⟨rfl, h15⟩
  have U1 := Lib.hid (U1.out.below h15)
  have U2 := Lib.hid (U2.out.below h15)
  have U3 := Lib.hid (U3.out.below h15)
  have U4 := Lib.hid (U4.out.below h15)
  have B15 := Lib.hid (bnext B14.out h15)
  clear h15
  go_wp2_with fail
  refine (CX.out _).mono ?_
  rintro e W16 ⟨rfl, h16⟩
  have U1 := Lib.hid (U1.out.below h16)
  have U2 := Lib.hid (U2.out.below h16)
  have U3 := Lib.hid (U3.out.below h16)
  have U4 := Lib.hid (U4.out.below h16)
  have B16 := Lib.hid (bnext B15.out h16)
  clear h16
  go_wp2_with fail
  refine (sameTexts_any _ _ ms _ U1.out U2.out nl).mono ?_
  rintro e W17 ⟨rfl, h17⟩
  have U2 := Lib.hid (U2.out.below h17)
  have U3 := Lib.hid (U3.out.below h17)
  have U4 := Lib.hid (U4.out.below h17)
  have B17 := Lib.hid (bnext B16.out h17)
  clear h17
  go_wp2_with fail
  refine (sameTexts_any _ _ ks _ U3.out U4.out wl).mono ?_
  rintro e W18 ⟨rfl, h18⟩
  have U2 := Lib.hid (U2.out.below h18)
  have U4 := Lib.hid (U4.out.below h18)
  have B18 := Lib.hid (bnext B17.out h18)
  clear h18 U1 U3
  obtain ⟨A2, c2, rfl, -⟩ := U2.out
  obtain ⟨A4, c4, rfl, -⟩ := U4.out
  go_upto_region 22 with (fail)
  clear LO SLO RL CL NI NS WI WS RX CX PB PK0 PK1 HB0 HB1 C0 C1 DI GT his hil i9 gbl
  have z18 := B18.out.size
  go_wp2
  go_loopw [29, 30] (fun s_ n_ wr => ∃ n : Nat, n ≤ ms.length ∧ n_ = .int .i64 (n : Int) ∧ s_ = .bool (decide (T ∈ ms.take n)) ∧ Below W18.heap.size W18 wr) (fun _ n_ _ => ms.length - (intOf n_).toNat)
  case atStart => exact ⟨0, Nat.zero_le _, rfl, by simp, Below.refl _ _⟩
  case round =>
    obtain ⟨n, hn, rfl, rfl, hb⟩ := hrel
    have HB := Lib.hid hb
    by_cases hlt : n < ms.length
    · obtain ⟨g2, o2, rfl, hg2, hat⟩ := strs_at U2.out (by omega)
      have AT := Lib.hid (hat.below hb hg2)
      have p0 := AT.out n hlt
      have hg3 := Nat.lt_of_lt_of_le hg2 hb.size
      obtain ⟨l1, l9, df⟩ := NA.out _ (List.getElem_mem hlt)
      have TS := Lib.hid (take_mem_step (T := T) hlt)
      have L1 := Lib.hid l1
      have DF := Lib.hid df
      have C9 := Lib.hid (fun W => CA.out ms[n] l9 W)
      have LT := Lib.hid (fun (h : 0 < n) => (List.pairwise_iff_getElem.1 NR.out) (n - 1) n (by omega) hlt (by omega))
      have PV := Lib.hid (fun (h : 0 < n) => AT.out (n - 1) (by omega))
      clear hat l1 df hb
      obtain ⟨sn, hsn⟩ : ∃ sn, ms[n] = sn := ⟨_, rfl⟩
      rw [hsn] at p0 l9 TS L1 DF C9 LT
      clear hsn
      obtain ⟨Q, hQ⟩ : ∃ Q, tB sn = Q := ⟨_, rfl⟩
      have HQ := Lib.hid hQ
      have Q9 : Q.size = 9 := by rw [← hQ, tB_size, l9]
      rw [hQ] at p0 C9
      clear hQ
      have GQ := Lib.hid (fun k (h : k < Q.size) (h2 : k < sn.length) => show Q[k]'h = sn[k] by
        have := HQ.out
        subst this
        exact tB_get sn k h h2)
      have GR := Lib.hid (fun k (h : k < R.size) (h2 : k < X.length) => show R[k]'h = X[k] by
        have := HR.out
        subst this
        exact tB_get X k h h2)
      go_wp2
      go_loopw [31, 32] (fun d_ a_ wr2 => ∃ a : Nat, a ≤ 9 ∧ a_ = .int .i64 (a : Int) ∧ d_ = .int .i64 (dfc sn X a : Int) ∧ Below wr.heap.size wr wr2) (fun _ a_ _ => 9 - (intOf a_).toNat)
      case atStart => exact ⟨0, by omega, by first | rfl | go_num, by first | rfl | simp [dfc], Below.refl _ _⟩
      case round =>
        obtain ⟨a, ha, rfl, rfl, hb2⟩ := hrel
        have p1 := (hb2.cell (p := ⟨g2, o2 + n, none⟩) hg3).trans p0
        have dle := dfc_le sn X a
        by_cases hla : a < 9
        · have h1 : a < Q.size := by omega
          have h2 : a < R.size := by omega
          have hs1 : a < sn.length := by omega
          have hs2 : a < X.length := by rw [X9h.out]; exact hla
          by_cases e : sn[a] = X[a]
          · have ee := Lib.hid (dfc_same hs1 hs2 e)
            have eq : (((Q[a]).toNat : Int) != ((R[a]).toNat : Int)) = false := by rw [GQ.out a h1 hs1, GR.out a h2 hs2, e]; simp
            clear e
            go_wp2
            go_quiet (fail)
            go_wp2
            go_roundw
            case rel => exact ⟨a + 1, by omega, by go_num, by rw [ee.out], by repeat (first | exact hb2 | refine below_drewN ?_ _)⟩
            case measure => simp [intOf]; omega
          · have ee := Lib.hid (dfc_diff hs1 hs2 e)
            have eq : (((Q[a]).toNat : Int) != ((R[a]).toNat : Int)) = true := by
              rw [GQ.out a h1 hs1, GR.out a h2 hs2]
              simp only [bne_iff_ne, ne_eq]
              exact fun h => e (UInt8.toNat_inj.1 (by omega))
            clear e
            go_wp2
            go_quiet (fail)
            go_wp2
            go_roundw
            case rel => exact ⟨a + 1, by omega, by go_num, by rw [ee.out]; go_num, by repeat (first | exact hb2 | refine below_drewN ?_ _)⟩
            case measure => simp [intOf]; omega
        · obtain rfl : a = 9 := by omega
          rw [DF.out]
          have HB2 := Lib.hid hb2
          have LB : isB Q = true := by
            have h := L1.out
            unfold lbl at h
            rw [HQ.out] at h
            exact h
          rw [LB] at C9
          have z2 := Nat.lt_of_lt_of_le hg3 hb2.size
          clear hb2 dle LB
          have b0 : Below wr.heap.size wr wr.drew := (Below.refl _ _).drew
          have HK := Lib.hid (show ∀ W, Below wr.heap.size wr W → (fun W => Below wr.heap.size wr W ∧ W.cell? ⟨g2, o2 + n, none⟩ = some (.string Q)) W from fun W hW => ⟨hW, (hW.cell (p := ⟨g2, o2 + n, none⟩) z2).trans p1⟩)
          go_wp2
          clear p0
          clear HK b0
          have pq := belowBy_cell z2 p1
          have es : (Q.toList == S.toList) = decide (sn = T) := by rw [← HQ.out, ← HS.out]; exact toList_eqT
          obtain ⟨d, hd⟩ : ∃ d, decide (T ∈ ms.take n) = d := ⟨_, rfl⟩
          have TS2 := TS.out
          rw [hd] at TS2 ⊢
          have TS2 := Lib.hid TS2
          clear TS hd
          by_cases h0 : 0 < n
          · have g1 : decide ((0 : Int) < (n : Int)) = true := decide_eq_true (by omega)
            obtain ⟨m, hm⟩ : ∃ m, n - 1 = m := ⟨_, rfl⟩
            have hm2 : (n : Int) - 1 = (m : Int) := by omega
            have hml : m < ms.length := by omega
            have pv0 := PV.out h0
            have lt0 := LT.out h0
            simp only [hm] at pv0 lt0
            obtain ⟨P, hP⟩ : ∃ P, tB ms[m] = P := ⟨_, rfl⟩
            rw [hP] at pv0
            have HP := Lib.hid hP
            have LT0 := Lib.hid lt0
            have b1 : Op.bytesLess Q.toList P.toList = false := by rw [← HQ.out, ← hP, tB_toList, tB_toList, bytesLess_eq]; exact decide_eq_false (fun h => List.lt_irrefl _ (List.lt_trans h lt0))
            have b2 : (Q.toList == P.toList) = false := by
              rw [← HQ.out, ← hP, tB_toList, tB_toList]
              simp only [beq_eq_false_iff_ne, ne_eq]
              exact fun h => List.lt_irrefl _ (h ▸ lt0)
            clear hP lt0
            have pv := belowBy_cell z2 ((HB2.out.cell (p := ⟨g2, o2 + m, none⟩) hg3).trans pv0)
            clear pv0
            refine wp_region_below (by kernel_rfl) (by kernel_rfl) ?_
            iterate 36 (first | go_big_quiet_step ((first | (go_at_call 9; with_reducible exact calls_below (C9.out _)))) | quiet_step ((first | (go_at_call 9; with_reducible exact calls_below (C9.out _)))))
            refine wpQuiet_nil ?_
            rintro w9 ⟨⟨_, hq⟩, rfl⟩
            have HQ9 := Lib.hid hq
            clear hq
            have p9 : w9.cell? ⟨g2, o2 + n, none⟩ = some (.string Q) := (HQ9.out.cell (p := ⟨g2, o2 + n, none⟩) z2).trans p1
            clear pq p1 pv
            cases d
            · cases hse : decide (sn = T)
              · rw [hse] at es
                go_wp2
                go_roundw
                case rel => exact ⟨n + 1, by omega, by go_num, by rw [TS2.out, hse]; rfl, bnext (bnext HB.out HB2.out) HQ9.out⟩
                case measure => simp [intOf]; omega
              · rw [hse] at es
                go_wp2
                go_roundw
                case rel => exact ⟨n + 1, by omega, by go_num, by rw [TS2.out, hse]; rfl, bnext (bnext HB.out HB2.out) HQ9.out⟩
                case measure => simp [intOf]; omega
            · go_wp2
              go_roundw
              case rel => exact ⟨n + 1, by omega, by go_num, by rw [TS2.out]; rfl, bnext (bnext HB.out HB2.out) HQ9.out⟩
              case measure => simp [intOf]; omega
          · have g0 : ¬ (0 : Int) < (n : Int) := by omega
            have g1 : decide ((0 : Int) < (n : Int)) = false := decide_eq_false g0
            refine wp_region_below (by kernel_rfl) (by kernel_rfl) ?_
            iterate 36 (first | go_big_quiet_step ((first | (go_at_call 9; with_reducible exact calls_below (C9.out _)))) | quiet_step ((first | (go_at_call 9; with_reducible exact calls_below (C9.out _)))))
            refine wpQuiet_nil ?_
            rintro w9 ⟨⟨_, hq⟩, rfl⟩
            have HQ9 := Lib.hid hq
            have p9 : w9.cell? ⟨g2, o2 + n, none⟩ = some (.string Q) := (HQ9.out.cell (p := ⟨g2, o2 + n, none⟩) z2).trans p1
            clear hq pq p1
            cases d
            · cases hse : decide (sn = T)
              · rw [hse] at es
                go_wp2
                go_roundw
                case rel => exact ⟨n + 1, by omega, by go_num, by rw [TS2.out, hse]; rfl, bnext (bnext HB.out HB2.out) HQ9.out⟩
                case measure => simp [intOf]; omega
              · rw [hse] at es
                go_wp2
                go_roundw
                case rel => exact ⟨n + 1, by omega, by go_num, by rw [TS2.out, hse]; rfl, bnext (bnext HB.out HB2.out) HQ9.out⟩
                case measure => simp [intOf]; omega
            · go_wp2
              go_roundw
              case rel => exact ⟨n + 1, by omega, by go_num, by rw [TS2.out]; rfl, bnext (bnext HB.out HB2.out) HQ9.out⟩
              case measure => simp [intOf]; omega
    · obtain rfl : n = ms.length := by omega
      have dt : decide (T ∈ ms.take ms.length) = true := by rw [List.take_length]; exact decide_eq_true ND.out
      rw [dt]
      clear dt hb hlt hn
      have zr := HB.out.size
      go_wp2
      go_loopw [33] (fun n_ wr2 => ∃ k : Nat, k ≤ ks.length ∧ n_ = .int .i64 (k : Int) ∧ Below wr.heap.size wr wr2) (fun n_ _ => ks.length - (intOf n_).toNat)
      case atStart => exact ⟨0, Nat.zero_le _, rfl, Below.refl _ _⟩
      case round =>
        obtain ⟨k, hk, rfl, hb2⟩ := hrel
        have HB2 := Lib.hid hb2
        clear hb2
        by_cases hlk : k < ks.length
        · obtain ⟨g4, o4, rfl, hg4, hat⟩ := strs_at U4.out (by omega)
          have p0 := (hat.below (bnext HB.out HB2.out) hg4) k hlk
          have hg5 := Nat.lt_of_lt_of_le hg4 (Nat.le_trans zr HB2.out.size)
          obtain ⟨l1, l9⟩ := SA.out _ (List.getElem_mem hlk)
          have C9 := Lib.hid (CA.out ks[k] l9)
          have LB : isB (tB ks[k]) = true := l1
          rw [LB] at C9
          clear hat l1 LB
          obtain ⟨Q, hQ⟩ : ∃ Q, tB ks[k] = Q := ⟨_, rfl⟩
          have Q9 : Q.size = 9 := by rw [← hQ, tB_size, l9]
          rw [hQ] at p0 C9
          clear hQ l9
          go_wp2_with fail
          refine (C9.out _).mono ?_
          rintro e w9 ⟨rfl, hq⟩
          have HQ9 := Lib.hid hq
          have p9 := (hq.cell (p := ⟨g4, o4 + k, none⟩) hg5).trans p0
          clear hq p0
          go_wp2
          go_roundw
          case rel => exact ⟨k + 1, by omega, by go_num, bnext HB2.out HQ9.out⟩
          case measure => simp [intOf]; omega
        · obtain rfl : k = ks.length := by omega
          clear hlk hk
          have BE := Lib.hid (bnext B18.out (bnext HB.out HB2.out))
          go_wp2
          go_ret
          exact ⟨rfl, BE.out⟩
theorem wFnLabels (v0 : Value) (zs0 : List Int) (b0 : ∀ z ∈ zs0, 0 ≤ z ∧ z ≤ 255) (v1 : Value) (zs1 : List Int) (b1 : ∀ z ∈ zs1, 0 ≤ z ∧ z ≤ 255) (w : World) (c0 : IntsOf .u8 w v0 zs0) (_ : zs0.length ≤ maxLen) (c1 : IntsOf .u8 w v1 zs1) (_ : zs1.length ≤ maxLen) :
    Calls Try.prog 3 #[v0, v1] w fun e w' => e = .returned (.bool true) ∧ Below w.heap.size w w' := walkFnLabels v0 v1 zs0 zs1 w c0 c1 b0 b1
end Go.Proofs.Ytimojjkblofhnaa
