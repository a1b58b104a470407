/- The waste of books on heights, by the program: the sums; contracts. Condition: numbers within their kinds, slices no longer than can be. -/
import Derived.Test.YtjfhpgomaahgoaaWs
namespace Go.Proofs.Ytjfhpgomaahgoaa
set_option linter.unusedSimpArgs false
set_option linter.unusedVariables false
set_option maxRecDepth 100000
open Go.RowKit

set_option maxHeartbeats 2000000 in
theorem wasteOf0_any (v v2 : Value) (hs : List Int) (xs : List Bk) (wx : ∀ b ∈ xs, b.Wf) (w : World) (s1 : IntsOf .i64 w v hs) (s2 : SliceOf w v2 xs) (h6 : hs.length ≤ 6) (h60 : xs.length ≤ 60) (ha : allHB hs xs = false) :
    Calls Try.prog 90 #[v, v2] w fun e w' => e = .returned (.tuple #[.int .i64 0, .int .i64 6]) ∧ Below w.heap.size w w' := by
  have CC := Lib.hid (groupsOf_any v v2 hs xs wx w s1 s2 h6 h60)
  clear wx s1 s2
  go_enter Try.func90, Try.ntmps90
  go_wp2_with fail
  refine (CC.out).mono ?_
  rintro e w1 ⟨u, z, rfl, hor, g1⟩
  obtain ⟨rfl, rfl⟩ : z = 6 ∧ u = .slice none 0 0 := by
    rcases hor with ⟨h, _⟩ | ⟨_, h1, h2⟩
    · rw [ha] at h; cases h
    · exact ⟨h1, h2⟩
  clear hor CC ha
  go_wp2
  refine wp_loop_rounds 1 ?_
  rw [rounds_succ]
  go_wp2
  go_ret2
  exact ⟨rfl, g1⟩

set_option maxHeartbeats 8000000 in
theorem wasteOf1_any (v v2 : Value) (hs : List Int) (xs : List Bk) (wx : ∀ b ∈ xs, b.Wf) (w : World) (s1 : IntsOf .i64 w v hs) (s2 : SliceOf w v2 xs) (h6 : hs.length ≤ 6) (ok : okB xs = true) (hh : ∀ x ∈ hs, 50 ≤ x ∧ x ≤ 1000) (ha : allHB hs xs = true) :
    Calls Try.prog 90 #[v, v2] w fun e w' => e = .returned (.tuple #[.int .i64 (wsTo hs xs xs.length), .int .i64 0]) ∧ Below w.heap.size w w' := by
  have h60 := okB_len ok
  have CC := Lib.hid (groupsOf_any v v2 hs xs wx w s1 s2 h6 h60)
  have GT := Lib.hid (gsT_all ha xs.length (Nat.le_refl _))
  have MEM := Lib.hid (show ∀ (i : Nat), ∀ j ∈ grP hs xs i xs.length, 0 ≤ wsA hs (bkA xs j) ∧ wsA hs (bkA xs j) ≤ 100000 from fun i j hj => by
    obtain ⟨n, rfl, hn, _⟩ := grP_mem xs.length (Nat.le_refl _) j hj
    have e : bkA xs (n : Int) = xs[n] := by simp [bkA, List.getD, List.getElem?_eq_getElem hn]
    rw [e]
    obtain ⟨a, b, _⟩ := wsA_bounds (okB_get ok (List.getElem_mem hn)) hh (allHB_get ha hn)
    exact ⟨a, b⟩)
  have BW := Lib.hid (fun (i : Nat) (hi : i < xs.length) => bookB_wh (okB_get ok (List.getElem_mem hi)))
  have HH := Lib.hid hh
  have WX := Lib.hid wx
  obtain ⟨A, c, rfl, ha1⟩ := s1
  obtain ⟨B, d, rfl, hb1⟩ := s2
  have HA := Lib.hid ha1
  have HB := Lib.hid hb1
  clear wx ha1 hb1 ok hh
  go_enter Try.func90, Try.ntmps90
  go_wp2_with fail
  refine (CC.out).mono ?_
  rintro e w1 ⟨u, z, rfl, hor, g1⟩
  obtain ⟨rfl, rfl, htg⟩ : z = 0 ∧ u = .slice (some ⟨w.heap.size, 0, none⟩) hs.length hs.length ∧ TG w1 (w.heap.size + 1) w.heap.size hs.length (fun i => grP hs xs i xs.length) := by
    rcases hor with ⟨_, h1, h2, h3⟩ | ⟨h, _⟩
    · exact ⟨h1, h2, h3⟩
    · rw [ha] at h; cases h
  have TT := Lib.hid htg
  have G1 := Lib.hid g1
  have zw := htg.lt
  clear hor CC ha htg g1
  go_wp2
  go_loopw [8, 22] (fun t_ i_ wr => ∃ (i : Nat) (t : Int), i ≤ hs.length ∧ i_ = .int .i64 (i : Int) ∧ t_ = .int .i64 t ∧ t = gsT hs xs xs.length i ∧ 0 ≤ t ∧ t ≤ 6000000 * (i : Int) ∧ Below w1.heap.size w1 wr) (fun _ i_ _ => hs.length - (intOf i_).toNat)
  case atStart => exact ⟨0, 0, Nat.zero_le _, rfl, rfl, rfl, Int.le_refl _, by simp, Below.refl _ _⟩
  case round =>
    obtain ⟨i, t, hi, rfl, rfl, ht, t0, t1, hb⟩ := hrel
    have HT := Lib.hid ht
    have HBL := Lib.hid hb
    clear ht hb
    by_cases hlt : i < hs.length
    · obtain ⟨v, cv, ov⟩ := (TT.out.below HBL.out).cell i hlt
      have MM := Lib.hid (MEM.out i)
      have GM := Lib.hid (fun j hj => grP_mem (hs := hs) (xs := xs) (i := i) xs.length (Nat.le_refl _) j hj)
      have LN := grP_len hs xs i xs.length
      have ES := Lib.hid (show gsT hs xs xs.length (i + 1) = t + gsL hs xs (grP hs xs i xs.length) by rw [gsT, HT.out])
      obtain ⟨l, hl⟩ : ∃ l, grP hs xs i xs.length = l := ⟨_, rfl⟩
      replace ov : wr.ownsRow (w.heap.size + 1) 2 1 v (grP hs xs i xs.length).length ((grP hs xs i xs.length).map (Value.int .i64)) := ov
      rw [hl] at ov MM GM LN ES
      clear hl
      obtain ⟨ga, oa, rfl, hga, hca⟩ := HA.out (by omega)
      have hx := HH.out _ (List.getElem_mem hlt)
      obtain ⟨Av, cv2, rfl⟩ := vlen_own1 ov
      have OV := Lib.hid ov
      have GB := Lib.hid (gsL_bound l MM.out)
      have HCA := Lib.hid hca
      clear ov hca MM
      obtain ⟨wo, rfl⟩ : ∃ wo : World, wo = wr := ⟨_, rfl⟩
      go_wp2
      go_loopw [8, 29] (fun t_ k_ wx_ => ∃ (k : Nat) (s : Int), k ≤ l.length ∧ k_ = .int .i64 (k : Int) ∧ t_ = .int .i64 (t + s) ∧ s = gsR hs xs l k ∧ Below wo.heap.size wo wx_) (fun _ k_ _ => l.length - (intOf k_).toNat)
      case atStart => exact ⟨0, 0, Nat.zero_le _, rfl, by rw [Int.add_zero], rfl, Below.refl _ _⟩
      case round =>
        obtain ⟨k, s, hk, rfl, rfl, hs', hb⟩ := hrel
        have HS' := Lib.hid hs'
        have BX1 := Lib.hid hb
        have B0 := GB.out k hk
        rw [← hs'] at B0
        obtain ⟨b01, b02⟩ := B0
        clear hs' hb
        by_cases hlk : k < l.length
        · obtain ⟨gv, cv4, ev⟩ : ∃ g c, Value.slice Av l.length cv2 = .slice (some ⟨g, 0, none⟩) l.length c := by
            rcases OV.out.2 with ⟨h, h0⟩ | ⟨g, cap, cur, h, _⟩
            · omega
            · exact ⟨g, cap, h⟩
          obtain ⟨rfl, rfl⟩ : Av = some ⟨gv, 0, none⟩ ∧ cv2 = cv4 := by cases ev; exact ⟨rfl, rfl⟩
          have ov1 := ownBelow OV.out BX1.out
          have c1 := ov1.cellAt k (by omega)
          obtain ⟨n', hn', hnl, hix⟩ := GM.out l[k] (List.getElem_mem hlk)
          have c2 : (l.map (Value.int .i64))[k]? = some (.int .i64 (n' : Int)) := by rw [List.getElem?_map, List.getElem?_eq_getElem hlk, hn']; rfl
          have c3 := c1.trans c2
          have SS := gsR_succ (hs := hs) (xs := xs) hlk
          have B1 := GB.out (k + 1) (by omega)
          have eb : bkA xs l[k] = xs[n'] := by rw [hn']; simp [bkA, List.getD, List.getElem?_eq_getElem hnl]
          rw [eb] at hix SS
          rw [SS, ← HS'.out] at B1
          have SS := Lib.hid (show s + wsA hs xs[n'] = gsR hs xs l (k + 1) by rw [SS, HS'.out])
          obtain ⟨gb, ob, rfl, hgb, hcb⟩ := HB.out (by omega)
          have bw2 := bnext (bnext G1.out HBL.out) BX1.out
          obtain ⟨p0, p1, p2, p3, p4, p5, p6, p7⟩ := booksAt_some (hcb.below bw2 hgb) hnl
          have hca := (HCA.out.below (bnext (bnext G1.out HBL.out) BX1.out) hga) i hlt
          have za := Nat.lt_of_lt_of_le hga bw2.size
          have CW := Lib.hid (fun W => wideKeyP_any xs[n'] (WX.out _ (List.getElem_mem hnl)) W)
          have CH := Lib.hid (fun W => highKeyP_any xs[n'] (WX.out _ (List.getElem_mem hnl)) W)
          obtain ⟨⟨w1', w2'⟩, w3', w4'⟩ := BW.out n' hnl
          have hkk : hIx hs xs[n'].hi < hs.length := by rw [hix]; exact hlt
          have o3 := wsA_eq hkk
          have hx2 := hIx_at hkk
          simp only [hix] at o3 hx2
          have hni : (n' : Int) < (xs.length : Int) := by omega
          have o3' : wsA hs xs[n'] = xs[n'].wi * (hs[i] - xs[n'].hi) := o3
          have hx2' : xs[n'].hi ≤ hs[i] := hx2
          clear o3 hx2
          clear ov1 c1 c2 hcb hn' eb hkk hix ev bw2
          have o3 := o3'
          have hx2 := hx2'
          clear o3' hx2'
          generalize wsA hs xs[n'] = M at *
          generalize hs[i] = h at *
          generalize xs[n'] = b at *
          have BX := Lib.hid (BkBox.new wr b 61)
          have bb : Below wr.heap.size wr (wr.alloc (.cells #[.int .i16 b.c, .int .u8 b.m0, .int .u8 b.m1, .int .u8 b.m2, .int .i16 b.v, .int .i16 b.wi, .int .i16 b.hi, .int .i16 b.we] 61)) := (Below.refl _ _).alloc (Nat.le_refl _) _
          have hca2 := Lib.hid ((bb.cell (p := ⟨ga, oa + i, none⟩) za).trans hca)
          have BB := Lib.hid bb
          have zs : (wr.alloc (.cells #[.int .i16 b.c, .int .u8 b.m0, .int .u8 b.m1, .int .u8 b.m2, .int .i16 b.v, .int .i16 b.wi, .int .i16 b.hi, .int .i16 b.we] 61)).heap.size = wr.heap.size + 1 := by simp
          have zb8 : wr.heap.size < (wr.alloc (.cells #[.int .i16 b.c, .int .u8 b.m0, .int .u8 b.m1, .int .u8 b.m2, .int .i16 b.v, .int .i16 b.wi, .int .i16 b.hi, .int .i16 b.we] 61)).heap.size := by omega
          have za8 : ga < (wr.alloc (.cells #[.int .i16 b.c, .int .u8 b.m0, .int .u8 b.m1, .int .u8 b.m2, .int .i16 b.v, .int .i16 b.wi, .int .i16 b.hi, .int .i16 b.we] 61)).heap.size := by omega
          obtain ⟨b11, b12⟩ := B1
          obtain ⟨x11, x12⟩ := hx
          have m1 : 0 ≤ b.wi * (h - b.hi) := Int.mul_nonneg (by omega) (by omega)
          have m2 : b.wi * (h - b.hi) ≤ 100 * 1000 := Int.mul_le_mul (by omega) (by omega) (by omega) (by omega)
          have hw1 : IntKind.i64.wrap (b.wi * (h - b.hi)) = M := by rw [← o3] at m1 m2 ⊢; exact IntWalk.i64_in _ (by omega)
          have hw2 : wrap64 (b.wi * (h - b.hi)) = M := by rw [← o3] at m1 m2 ⊢; exact IntWalk.wrap64_in _ (by omega)
          rw [← o3] at m1 m2
          have o3 := Lib.hid o3
          clear bb zs
          go_wp2
          generalize hW2 : wr.alloc _ = W2 at *
          clear hW2 p0 p1 p2 p3 p4 p5 p6 p7 hca c3
          obtain ⟨q0, q1, q2, q3, q4, q5, q6, q7, -⟩ := BX.out
          have q0 := belowBy_cell zb8 q0
          have q1 := belowBy_cell zb8 q1
          have q2 := belowBy_cell zb8 q2
          have q3 := belowBy_cell zb8 q3
          have q4 := belowBy_cell zb8 q4
          have q5 := belowBy_cell zb8 q5
          have q6 := belowBy_cell zb8 q6
          have q7 := belowBy_cell zb8 q7
          have q8 := belowBy_cell za8 hca2.out
          refine wp_region_below (by kernel_rfl) (by kernel_rfl) ?_
          repeat (first | go_big_quiet_step ((first | (go_at_call 108; exact calls_below (CW.out _)) | (go_at_call 70; exact calls_below (CH.out _)))) | quiet_step ((first | (go_at_call 108; exact calls_below (CW.out _)) | (go_at_call 70; exact calls_below (CH.out _)))))
          refine wpQuiet_nil ?_
          rintro wq ⟨⟨_, hq⟩, rfl⟩
          clear q0 q1 q2 q3 q4 q5 q6 q7 q8 CW CH
          go_wp2
          go_roundw
          case rel => exact ⟨k + 1, s + M, by omega, by go_num, by first | go_num | (congr 1; omega) | (rw [Int.add_assoc]), SS.out, bnext BX1.out (bnext BB.out hq)⟩
          case measure => simp [intOf]; omega
        · obtain rfl : k = l.length := by omega
          have ES2 := Lib.hid (show t + s = gsT hs xs xs.length (i + 1) by rw [ES.out, HS'.out]; unfold gsR; rw [List.take_length])
          go_wp2
          go_roundw
          case rel => exact ⟨i + 1, t + s, by omega, by go_num, rfl, ES2.out, by omega, by omega, bnext HBL.out BX1.out⟩
          case measure => simp [intOf]; omega
    · obtain rfl : i = hs.length := by omega
      go_wp2
      go_ret2
      exact ⟨by rw [← GT.out, ← HT.out]; rfl, bnext G1.out HBL.out⟩

end Go.Proofs.Ytjfhpgomaahgoaa
