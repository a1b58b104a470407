/- ReadLabel, by the model and by the program: contracts. No condition. -/
import Derived.Test.YtgfffbnodinkcaaLabY
import Derived.Test.YtgfffbnodinkcaaHvS
namespace Go.Proofs.Ytgfffbnodinkcaa
set_option linter.unusedSimpArgs false
set_option linter.unusedVariables false
set_option maxRecDepth 100000
open Go.RowKit

theorem zl_eq {S T : ByteArray} (h : zl S = zl T) : S = T := by
  have := zl_inj h
  rw [ByteArray.toList_eq, ByteArray.toList_eq] at this
  have := Array.toList_inj.1 this
  exact ByteArray.ext this
theorem isB_okZ {T : ByteArray} (h : isB T = true) : T.size = 9 ∧ ∀ k, k < 9 → okZ k ((zl T).getD k 0) = true := by
  unfold isB at h
  rw [← okTo9] at h
  simp only [Bool.and_eq_true, decide_eq_true_eq] at h
  exact ⟨h.1.1.1, fun k hk => okTo_at h.1.1.2 hk⟩
theorem okZ_dig {k : Nat} {z : Int} (h : okZ k z = true) (hk : k < 3 ∨ 6 ≤ k) : 48 ≤ z ∧ z ≤ 57 := by
  unfold okZ digZ at h
  rw [if_neg (by omega)] at h
  exact of_decide_eq_true h
theorem valS_dig {z : Int} (h : 48 ≤ z ∧ z ≤ 57) : valS z = z - 48 := by unfold valS; rw [if_pos h]
/-- What a label says. -/
def rdC (T : ByteArray) : Int := if isB T then (bkT T).c else 0
def rdM (T : ByteArray) : ByteArray := if isB T then T.extract 3 6 else ⟨#[]⟩
def rdV (T : ByteArray) : Int := if isB T then (bkT T).v else 0
def rdE (T : ByteArray) : Int := if isB T then 0 else 5
theorem rd_num {T : ByteArray} (h : isB T = true) : ((bkT T).c = 100 * ((zl T).getD 0 0 - 48) + 10 * ((zl T).getD 1 0 - 48) + ((zl T).getD 2 0 - 48)) ∧ (bkT T).v = 10 * ((zl T).getD 6 0 - 48) + ((zl T).getD 7 0 - 48) := by
  obtain ⟨h9, hz⟩ := isB_okZ h
  have d0 := okZ_dig (hz 0 (by omega)) (by omega)
  have d1 := okZ_dig (hz 1 (by omega)) (by omega)
  have d2 := okZ_dig (hz 2 (by omega)) (by omega)
  have d6 := okZ_dig (hz 6 (by omega)) (by omega)
  have d7 := okZ_dig (hz 7 (by omega)) (by omega)
  have x0 := zl_ext T 0 3 (by omega) (by omega) 0 (by omega)
  have x1 := zl_ext T 0 3 (by omega) (by omega) 1 (by omega)
  have x2 := zl_ext T 0 3 (by omega) (by omega) 2 (by omega)
  have x6 := zl_ext T 6 8 (by omega) (by omega) 0 (by omega)
  have x7 := zl_ext T 6 8 (by omega) (by omega) 1 (by omega)
  simp only [Nat.zero_add, Nat.add_zero, Nat.reduceAdd] at x0 x1 x2 x6 x7
  have nc : (bkT T).c = ((0 * 10 + ((zl (T.extract 0 3)).getD 0 0 - 48) % 256) * 10 + ((zl (T.extract 0 3)).getD 1 0 - 48) % 256) * 10 + ((zl (T.extract 0 3)).getD 2 0 - 48) % 256 := rfl
  have nv : (bkT T).v = (0 * 10 + ((zl (T.extract 6 8)).getD 0 0 - 48) % 256) * 10 + ((zl (T.extract 6 8)).getD 1 0 - 48) % 256 := rfl
  rw [x0, x1, x2] at nc
  rw [x6, x7] at nv
  rw [nc, nv]
  clear nc nv x0 x1 x2 x6 x7 hz
  generalize (zl T).getD 0 0 = a at *
  generalize (zl T).getD 1 0 = b at *
  generalize (zl T).getD 2 0 = c at *
  generalize (zl T).getD 6 0 = g at *
  generalize (zl T).getD 7 0 = i at *
  rw [Int.emod_eq_of_lt (a := a - 48) (by omega) (by omega), Int.emod_eq_of_lt (a := b - 48) (by omega) (by omega), Int.emod_eq_of_lt (a := c - 48) (by omega) (by omega), Int.emod_eq_of_lt (a := g - 48) (by omega) (by omega), Int.emod_eq_of_lt (a := i - 48) (by omega) (by omega)]
  constructor <;> omega
set_option maxHeartbeats 4000000 in
theorem specReadLabel_any (T : ByteArray) (hm : T.size ≤ maxLen) (w : World) :
    Calls Try.prog 37 #[.string T] w fun e w' => e = .returned (.tuple #[.int .i64 (rdC T), .string (rdM T), .int .i64 (rdV T), .int .i64 (rdE T)]) ∧ Below w.heap.size w w' := by
  have H := Lib.hid (fun W => l07Is_any T hm W)
  cases hb : isB T
  · have E := Lib.hid (show rdC T = 0 ∧ rdM T = ⟨#[]⟩ ∧ rdV T = 0 ∧ rdE T = 5 by unfold rdC rdM rdV rdE; rw [hb]; exact ⟨rfl, rfl, rfl, rfl⟩)
    rw [hb] at H
    clear hb
    go_enter Try.func37, Try.ntmps37
    go_wp2_with fail
    refine (H.out _).mono ?_
    rintro e w1 ⟨rfl, h1⟩
    go_wp2
    (try simp only [Exit.inBlock, Exit.then]); refine bodyPost_ret (results_tmp4 rfl _ _ _) rfl ?_
    exact ⟨by rw [E.out.1, E.out.2.1, E.out.2.2.1, E.out.2.2.2]; rfl, h1⟩
  · obtain ⟨h9, hz⟩ := isB_okZ hb
    have d0 := okZ_dig (hz 0 (by omega)) (by omega)
    have d1 := okZ_dig (hz 1 (by omega)) (by omega)
    have d2 := okZ_dig (hz 2 (by omega)) (by omega)
    have d6 := okZ_dig (hz 6 (by omega)) (by omega)
    have d7 := okZ_dig (hz 7 (by omega)) (by omega)
    obtain ⟨n1, n2⟩ := rd_num hb
    have E := Lib.hid (show rdC T = (bkT T).c ∧ rdM T = T.extract 3 6 ∧ rdV T = (bkT T).v ∧ rdE T = 0 by unfold rdC rdM rdV rdE; rw [hb]; exact ⟨rfl, rfl, rfl, rfl⟩)
    rw [n1, n2] at E
    have t0 : 0 < T.size := by omega
    have t1 : 1 < T.size := by omega
    have t2 : 2 < T.size := by omega
    have t6 : 6 < T.size := by omega
    have t7 : 7 < T.size := by omega
    have y0 := zl_at T 0 t0
    have y1 := zl_at T 1 t1
    have y2 := zl_at T 2 t2
    have y6 := zl_at T 6 t6
    have y7 := zl_at T 7 t7
    rw [hb] at H
    clear hb hz n1 n2
    generalize (zl T).getD 0 0 = a at *
    generalize (zl T).getD 1 0 = b at *
    generalize (zl T).getD 2 0 = c at *
    generalize (zl T).getD 6 0 = g at *
    generalize (zl T).getD 7 0 = i at *
    have V0 := Lib.hid (fun W => l07Value_any a (by omega) W)
    have V1 := Lib.hid (fun W => l07Value_any b (by omega) W)
    have V2 := Lib.hid (fun W => l07Value_any c (by omega) W)
    have V6 := Lib.hid (fun W => l07Value_any g (by omega) W)
    have V7 := Lib.hid (fun W => l07Value_any i (by omega) W)
    rw [valS_dig d0] at V0
    rw [valS_dig d1] at V1
    rw [valS_dig d2] at V2
    rw [valS_dig d6] at V6
    rw [valS_dig d7] at V7
    replace y0 := y0.symm
    replace y1 := y1.symm
    replace y2 := y2.symm
    replace y6 := y6.symm
    replace y7 := y7.symm
    obtain ⟨u0, e0⟩ : ∃ u : Int, u = a - 48 := ⟨_, rfl⟩
    have l0 : 0 ≤ u0 := by omega
    have r0 : u0 ≤ 9 := by omega
    rw [← e0] at V0 E
    obtain ⟨u1, e1⟩ : ∃ u : Int, u = b - 48 := ⟨_, rfl⟩
    have l1 : 0 ≤ u1 := by omega
    have r1 : u1 ≤ 9 := by omega
    rw [← e1] at V1 E
    obtain ⟨u2, e2⟩ : ∃ u : Int, u = c - 48 := ⟨_, rfl⟩
    have l2 : 0 ≤ u2 := by omega
    have r2 : u2 ≤ 9 := by omega
    rw [← e2] at V2 E
    obtain ⟨u6, e6⟩ : ∃ u : Int, u = g - 48 := ⟨_, rfl⟩
    have l6 : 0 ≤ u6 := by omega
    have r6 : u6 ≤ 9 := by omega
    rw [← e6] at V6 E
    obtain ⟨u7, e7⟩ : ∃ u : Int, u = i - 48 := ⟨_, rfl⟩
    have l7 : 0 ≤ u7 := by omega
    have r7 : u7 ≤ 9 := by omega
    rw [← e7] at V7 E
    clear d0 d1 d2 d6 d7 e0 e1 e2 e6 e7 hm
    go_enter Try.func37, Try.ntmps37
    go_wp2_with fail
    refine (H.out _).mono ?_
    rintro e w1 ⟨rfl, h1⟩
    have H1 := Lib.hid h1
    clear h1
    go_wp2
    refine wp_region_below (by kernel_rfl) (by kernel_rfl) ?_
    iterate 14 (first | go_big_quiet_step ((go_at_call 77; with_reducible first | exact calls_same_below (V0.out _) | exact calls_same_below (V1.out _) | exact calls_same_below (V2.out _))) | quiet_step ((go_at_call 77; with_reducible first | exact calls_same_below (V0.out _) | exact calls_same_below (V1.out _) | exact calls_same_below (V2.out _))))
    refine wpQuiet_nil ?_
    rintro w2 ⟨⟨_, hq⟩, rfl⟩
    have B2 := Lib.hid (bnext H1.out hq)
    clear hq
    go_wp2
    refine wp_region_below (by kernel_rfl) (by kernel_rfl) ?_
    iterate 15 (first | go_big_quiet_step ((go_at_call 77; with_reducible first | exact calls_same_below (V6.out _) | exact calls_same_below (V7.out _))) | quiet_step ((go_at_call 77; with_reducible first | exact calls_same_below (V6.out _) | exact calls_same_below (V7.out _))))
    refine wpQuiet_nil ?_
    rintro w3 ⟨⟨_, hq⟩, rfl⟩
    have B3 := Lib.hid (bnext B2.out hq)
    go_wp2
    (try simp only [Exit.inBlock, Exit.then]); refine bodyPost_ret (results_tmp4 rfl _ _ _) rfl ?_
    exact ⟨by rw [E.out.1, E.out.2.1, E.out.2.2.1, E.out.2.2.2]; rfl, B3.out⟩
end Go.Proofs.Ytgfffbnodinkcaa
