/- The program opens a rack into its places: contracts. Condition: at most 1048576 books, whose numbers lie within their kinds; the two error variables hold errors of errors.New's make. -/
import Derived.Test.YtgmipobohnagnaaDoorRkP2
import Derived.Test.YtgmipobohnagnaaDoorRk
import Derived.Test.YtgmipobohnagnaaDoorCk
import Derived.Stop.IfaceNil
import Derived.IntWalk
namespace Go.Proofs.YtgmipobohnagnaaDoor
set_option linter.unusedSimpArgs false
set_option linter.unusedVariables false
set_option maxRecDepth 100000
open Go.RowKit Go.Sort

theorem infoPlace : (Tryd.prog.info? 53).map (fun i => (i.zero, i.size, i.bytes)) = some (some (.agg #[.bool false, .int .i16 0, .int .u8 0, .int .u8 0, .int .u8 0, .int .i16 0, .int .i16 0, .int .i16 0, .int .i16 0]), 9, 16) := by kernel_rfl
/-- What is found in a rack. -/
def CtV (r : Rk) (n : Nat) (base : Nat) (w : World) (v : Value) : Prop :=
  (rkB r = false ∧ v = .iface 87 (.agg #[])) ∨ (rkB r = true ∧ ∃ g, v = .iface 48 (.slice (some ⟨g, 0, none⟩) n n) ∧ base ≤ g ∧ RowN Pc.cells 53 w g (plc n r.ps) n n)
theorem within16P (n low high : Int) (w : World) : Calls Tryd.prog 43 #[.int .i16 n, .int .i16 low, .int .i16 high] w fun e w' => e = .returned (.bool (inB n low high)) ∧ w = w' := within16_any n low high w

theorem made9 (Z : List Value) (hZ : Z.length = 9) (n i j : Nat) (hi : i < n) (v : Value) (hv : Z[j]? = some v) : (madeCells Z.toArray (n * 9))[i * 9 + j]? = some v := by
  have hj : j < 9 := by have := (List.getElem?_eq_some_iff.1 hv).1; omega
  have e : (i * 9 + j) % 9 = j := by omega
  unfold madeCells
  rw [Array.getElem?_map, Array.getElem?_range, if_pos (by omega)]
  simp only [Option.map_some, List.size_toArray, hZ, e]
  rw [getElem!_def]
  simp [hv]
theorem RowN.sl {α : Type} {cel : α → List Value} {t : TypeId} {w : World} {g n : Nat} {xs : List α} (h : RowN cel t w g xs n n) (e : xs.length = n) : SliceN cel w (.slice (some ⟨g, 0, none⟩) n n) xs := by
  subst e
  exact RowN.slice h
theorem set9_far {w : World} {g h o : Nat} {ob : Obj} {v0 v1 v2 v3 v4 v5 v6 v7 v8 : Value} (e : w.heap[h]? = some ob) (hne : h ≠ g) : (set9 w g o v0 v1 v2 v3 v4 v5 v6 v7 v8).heap[h]? = some ob := by
  unfold set9
  iterate 9 (refine (Below.heap_setCell _ _ _ _ (by simpa using hne)).trans ?_)
  exact e
set_option maxHeartbeats 16000000 in
theorem contentOf_any (r : Rk) (hv : Value) (wf : r.Wf) (w : World) (s i : Addr) (he : Er2 w s i) (hs : PlsOf w hv r.ps) (hn : r.ps.length ≤ 1048576) :
    Calls Tryd.prog 38 #[.agg #[.int .i16 r.n, hv]] w fun e w' => ∃ v, e = .returned v ∧ CtV r r.n.toNat w.heap.size w' v ∧ Below w.heap.size w w' := by
  have HE := Lib.hid he
  have WF := Lib.hid wf
  have HSV := Lib.hid hs
  obtain ⟨A, c, rfl, hs⟩ := hs
  have HS := Lib.hid hs
  have G0 := Lib.hid (show Below w.heap.size w (w.alloc (.cells #[.int .i16 r.n, .slice A r.ps.length c] 29)) by go_grown)
  obtain ⟨bn1, bn2⟩ := wf.n
  clear he wf hs
  cases hk : inB r.n 1 60
  · have E := Lib.hid (rkB_n hk)
    go_enter Tryd.func38, Tryd.ntmps38
    go_wp2_with fail
    refine (within16P _ _ _ _).mono ?_
    rintro e w' ⟨rfl, rfl⟩
    rw [hk]
    clear hk
    go_wp2
    go_ret
    exact ⟨_, rfl, .inl ⟨E.out, rfl⟩, G0.out⟩
  · have HK := Lib.hid hk
    obtain ⟨z, ps⟩ := r
    simp only at *
    have hz : 1 ≤ z ∧ z ≤ 60 := by unfold inB at hk; simpa using hk
    obtain ⟨n, rfl⟩ : ∃ n : Nat, z = (n : Int) := ⟨z.toNat, by omega⟩
    obtain ⟨i0, hi, hz0, hz1, hz2⟩ := info_parts infoPlace
    have hmk := fun W => run_make_rowN (P := Tryd.prog) 48 53 i0 _ Tryd.underlying48 hi hz0 .i16 .i16 n n (Nat.le_refl _) (by rw [hz2]; omega) (by omega) W
    rw [hz1] at hmk
    have c0 : (w.alloc (.cells #[.int .i16 (n : Int), .slice A ps.length c] 29)).heap[w.heap.size]? = _ := heap_alloc_new w _
    have C0 := Lib.hid c0
    have M0 := Lib.hid (RowN.made (cel := Pc.cells) 53 (w.alloc (.cells #[.int .i16 (n : Int), .slice A ps.length c] 29)) (.agg #[.bool false, .int .i16 0, .int .u8 0, .int .u8 0, .int .u8 0, .int .i16 0, .int .i16 0, .int .i16 0, .int .i16 0] : Value).cells (plcTo n ps 0) n)
    clear hi hz0 hz1 hz2 c0
    go_enter Tryd.func38, Tryd.ntmps38
    go_wp2_with fail
    refine (within16P _ _ _ _).mono ?_
    rintro e w' ⟨rfl, rfl⟩
    rw [hk]
    clear hk
    go_wp2
    have M1 := Lib.hid (show RowN Pc.cells 53 ((w.alloc (.cells #[.int .i16 (n : Int), .slice A ps.length c] 29)).alloc (.cells (madeCells (.agg #[.bool false, .int .i16 0, .int .u8 0, .int .u8 0, .int .u8 0, .int .i16 0, .int .i16 0, .int .i16 0, .int .i16 0] : Value).cells (n * 9)) 53)) (w.heap.size + 1) (plcTo n ps 0) n n by
      obtain ⟨cs, e1, e2, -⟩ := M0.out
      rw [World.size_alloc] at e1
      refine ⟨_, heap_alloc_new _ _ |> (fun h => by rwa [World.size_alloc] at h), size_madeCells _ _, fun i hi hin j v hv => ?_⟩
      have e3 : (plcTo n ps 0)[i] = pc0 := by simp [plcTo]
      rw [e3] at hv
      exact made9 [.bool false, .int .i16 0, .int .u8 0, .int .u8 0, .int .u8 0, .int .i16 0, .int .i16 0, .int .i16 0, .int .i16 0] rfl n i j hin v hv)
    have C1 := Lib.hid (show ((w.alloc (.cells #[.int .i16 (n : Int), .slice A ps.length c] 29)).alloc (.cells (madeCells (.agg #[.bool false, .int .i16 0, .int .u8 0, .int .u8 0, .int .u8 0, .int .i16 0, .int .i16 0, .int .i16 0, .int .i16 0] : Value).cells (n * 9)) 53)).heap[w.heap.size]? = some (.cells #[.int .i16 (n : Int), .slice A ps.length c] 29 (0, 0)) from (Below.heap_alloc _ _ _ (by simp)).trans C0.out)
    have G1 := Lib.hid (show Below w.heap.size w ((w.alloc (.cells #[.int .i16 (n : Int), .slice A ps.length c] 29)).alloc (.cells (madeCells (.agg #[.bool false, .int .i16 0, .int .u8 0, .int .u8 0, .int .u8 0, .int .i16 0, .int .i16 0, .int .i16 0, .int .i16 0] : Value).cells (n * 9)) 53)) by go_grown)
    have n0 : (0 : Int) ≤ (n : Int) := by omega
    go_loopw [4, 19] (fun l_ i_ wr => ∃ (k : Nat) (l : Int), l = lstP ps k ∧ k ≤ ps.length ∧ i_ = .int .i64 (k : Int) ∧ l_ = .int .i16 l ∧ PosTo n ps k ∧ RowN Pc.cells 53 wr (w.heap.size + 1) (plcTo n ps k) n n ∧ wr.heap[w.heap.size]? = some (.cells #[.int .i16 (n : Int), .slice A ps.length c] 29 (0, 0)) ∧ Below w.heap.size w wr) (fun _ i_ _ => ps.length - (intOf i_).toNat)
    case atStart => exact ⟨0, 0, rfl, Nat.zero_le _, rfl, rfl, posTo_zero _ _, M1.out, C1.out, G1.out⟩
    case round =>
      obtain ⟨k, l, hl, hk, rfl, rfl, hp, hrow, hbx, hb⟩ := hrel
      have HP := Lib.hid hp
      have HR := Lib.hid hrow
      have BX := Lib.hid hbx
      have HB := Lib.hid hb
      have HL := Lib.hid hl
      have zw := hb.size
      have zR := HR.out.lt
      have l0 : 0 ≤ l := by rw [hl]; exact hp.next hk
      clear hp hrow hbx hb hl
      by_cases hlt : k < ps.length
      · have hlt' := hlt
        obtain ⟨ga, oa, rfl, hga, hat⟩ := HS.out (by omega)
        obtain ⟨p0, p1, p2, p3, p4, p5, p6, p7, p8⟩ := plAt_some (hat.below HB.out hga) hlt
        have PS := Lib.hid (plcTo_succ n hlt)
        have wk := WF.out.ps _ (List.getElem_mem hlt)
        obtain ⟨wp1, wp2⟩ := wk.p
        have l1 : l ≤ 61 := by
          have e := HL.out
          cases k with
          | zero => rw [lstP_zero] at e; omega
          | succ m =>
            rw [lstP_succ (by omega)] at e
            have := (HP.out m (by omega) (by omega)).2
            omega
        have SU := Lib.hid (fun h1 h2 => HP.out.succ hlt (by rw [← HL.out]; exact h1) h2)
        have BAD := Lib.hid (fun h => rkB_pos (r := ⟨(n : Int), ps⟩) (posB_bad hlt (by rw [← HL.out]; exact h)))
        have LS := Lib.hid (lstP_succ hlt)
        clear hat wk
        generalize ps[k] = x at PS p0 p1 p2 p3 p4 p5 p6 p7 p8 wp1 wp2 SU BAD LS
        have d1 : Below wr.heap.size wr (wr.alloc (.cells #[.int .i16 x.p, .int .i16 x.b.c, .int .u8 x.b.m0, .int .u8 x.b.m1, .int .u8 x.b.m2, .int .i16 x.b.v, .int .i16 x.b.wi, .int .i16 x.b.hi, .int .i16 x.b.we] 45)) := (Below.refl _ _).alloc (Nat.le_refl _) _
        have D1 := Lib.hid d1
        have c0 : (wr.alloc (.cells #[.int .i16 x.p, .int .i16 x.b.c, .int .u8 x.b.m0, .int .u8 x.b.m1, .int .u8 x.b.m2, .int .i16 x.b.v, .int .i16 x.b.wi, .int .i16 x.b.hi, .int .i16 x.b.we] 45)).cell? ⟨w.heap.size, 0, none⟩ = some (.int .i16 (n : Int)) := (d1.cell (p := ⟨w.heap.size, 0, none⟩) (by show w.heap.size < _; omega)).trans (cell_of_row wr _ 0 _ _ _ BX.out)
        clear d1
        cases hin : inB x.p l ((n : Int) - 1)
        · have E := Lib.hid (BAD.out (by unfold inB at hin; simpa using hin))
          clear BAD SU
          go_wp2_with fail
          refine (within16P _ _ _ _).mono ?_
          rintro e w' ⟨rfl, rfl⟩
          rw [hin]
          clear hin
          go_wp2
          go_ret
          exact ⟨_, rfl, .inl ⟨E.out, rfl⟩, bnext HB.out D1.out⟩
        · have hix : l ≤ x.p ∧ x.p ≤ (n : Int) - 1 := by unfold inB at hin; simpa using hin
          obtain ⟨j, hj⟩ : ∃ j : Nat, x.p = (j : Int) := ⟨x.p.toNat, by omega⟩
          have hjn : j < n := by omega
          have SP := Lib.hid (SU.out hix.1 hix.2)
          clear SU BAD
          obtain ⟨xp, b⟩ := x
          simp only at *
          subst hj
          have jn : (j : Int).toNat = j := Int.toNat_natCast j
          have HR1 := Lib.hid (HR.out.below D1.out HR.out.lt)
          have X1 := Lib.hid (heap_alloc_new wr (.cells #[.int .i16 (j : Int), .int .i16 b.c, .int .u8 b.m0, .int .u8 b.m1, .int .u8 b.m2, .int .i16 b.v, .int .i16 b.wi, .int .i16 b.hi, .int .i16 b.we] 45))
          go_wp2_with fail
          generalize World.alloc wr _ = W1 at D1 HR1 X1 c0 ⊢
          refine (within16P _ _ _ _).mono ?_
          rintro e w' ⟨rfl, rfl⟩
          rw [hin]
          clear hin
          obtain ⟨⟨u0, q0⟩, ⟨u1, q1⟩, ⟨u2, q2⟩, ⟨u3, q3⟩, ⟨u4, q4⟩, ⟨u5, q5⟩, ⟨u6, q6⟩, ⟨u7, q7⟩, ⟨u8, q8⟩⟩ := HR1.out.cells9 j hjn
          have fz := HR1.out.frozen
          have hj1 : (0 : Int) ≤ (j : Int) := by omega
          have hj2 : (j : Int) < (n : Int) := by omega
          have hj3 : (j : Int) ≤ 60 := by omega
          have e0 := cell_of_row W1 _ 0 _ _ _ X1.out
          have e1 := cell_of_row W1 _ 1 _ _ _ X1.out
          have e2 := cell_of_row W1 _ 2 _ _ _ X1.out
          have e3 := cell_of_row W1 _ 3 _ _ _ X1.out
          have e4 := cell_of_row W1 _ 4 _ _ _ X1.out
          have e5 := cell_of_row W1 _ 5 _ _ _ X1.out
          have e6 := cell_of_row W1 _ 6 _ _ _ X1.out
          have e7 := cell_of_row W1 _ 7 _ _ _ X1.out
          have e8 := cell_of_row W1 _ 8 _ _ _ X1.out
          simp only [List.getElem?_toArray, List.getElem?_cons_zero, List.getElem?_cons_succ] at e0 e1 e2 e3 e4 e5 e6 e7 e8
          have zz1 := D1.out.size
          have BX1 := Lib.hid ((D1.out.block _ (by omega)).trans BX.out)
          go_wp2
          go_roundw
          case rel => exact ⟨k + 1, (j : Int) + 1, by rw [LS.out], by omega, by go_num, rfl, SP.out, by
            rw [PS.out, jn]
            have pl := plcTo_length n ps k
            exact HR1.out.put j (by omega) hjn ⟨true, b⟩ _ _ _ _ _ _ _ _ _ rfl Pc.nine (by omega), set9_far BX1.out (by omega), set9_below (bnext HB.out D1.out) (by omega)⟩
          case measure => simp [intOf]; omega
      · obtain rfl : k = ps.length := by omega
        have PB := Lib.hid (bkq_plc HP.out)
        have BW := Lib.hid (bks_wf WF.out.ps)
        have BL := Lib.hid (bks_length ps)
        have PQ := Lib.hid (posB_all HP.out)
        go_wp2_with fail
        refine (books_any _ (plc n ps) _ (RowN.sl HR.out (plc_length n ps)) (by rw [plc_length]; omega)).mono ?_
        rintro e w1 ⟨u, rfl, hres, g1⟩
        rw [PB.out] at hres
        have RS := Lib.hid hres
        obtain ⟨Au, cu, rfl, -⟩ := hres.slice
        clear hres
        have B1 := Lib.hid (bnext HB.out g1)
        have HR1 := Lib.hid (HR.out.below g1 HR.out.lt)
        have zz1 := B1.out.size
        have g2 := (Below.refl w1.heap.size w1).alloc (Nat.le_refl _) (.cells #[.slice Au (bks ps).length cu] 56)
        have X2 := Lib.hid (heap_alloc_new w1 (.cells #[.slice Au (bks ps).length cu] 56))
        go_wp2_with fail
        generalize World.alloc w1 _ = w2 at g2 X2 ⊢
        have B2 := Lib.hid (bnext B1.out g2)
        have HR2 := Lib.hid (HR1.out.below g2 HR1.out.lt)
        have RS2 := Lib.hid (RS.out.below g2)
        have z2 : w1.heap.size < w2.heap.size := (Array.getElem?_eq_some_iff.1 X2.out).1
        refine (ck_any _ (bks ps) BW.out _ w1.heap.size s i (HE.out.below B2.out) (by have := cell_of_row w2 _ 0 _ _ _ X2.out; simpa using this) z2 RS2.out.slice (by rw [BL.out]; omega)).mono ?_
        rintro e w3 ⟨rfl, g3⟩
        have B3 := Lib.hid (bnext B2.out g3)
        have HR3 := Lib.hid (HR2.out.below g3 HR2.out.lt)
        have isi : Tryd.prog.isIface 94 = true := by kernel_rfl
        have en := fun (X : World) (v : Value) => run_neq_iface_nil (P := Tryd.prog) (w := X) 94 isi 106 v
        have en0 := fun (X : World) => run_neq_nil_nil_at (P := Tryd.prog) (w := X) 94 isi
        unfold erV
        cases hok : okB (bks ps)
        · have E := Lib.hid (rkB_ok (r := ⟨(n : Int), ps⟩) hok)
          rw [if_neg (by simp)]
          clear hok
          go_wp2
          go_ret
          exact ⟨_, rfl, .inl ⟨E.out, rfl⟩, B3.out⟩
        · rw [if_pos rfl]
          by_cases hf : firstOut (bks ps) < 0
          · have E := Lib.hid (rkB_all (r := ⟨(n : Int), ps⟩) HK.out PQ.out hok hf)
            rw [if_pos hf]
            clear hok hf
            go_wp2
            go_ret
            exact ⟨_, rfl, .inr ⟨E.out, w.heap.size + 1, by rw [Int.toNat_natCast]; rfl, by omega, by rw [Int.toNat_natCast]; exact HR3.out⟩, B3.out⟩
          · have E := Lib.hid (rkB_out (r := ⟨(n : Int), ps⟩) (show 0 ≤ firstOut (bks ps) by omega))
            rw [if_neg hf]
            clear hok hf
            go_wp2
            go_ret
            exact ⟨_, rfl, .inl ⟨E.out, rfl⟩, B3.out⟩
end Go.Proofs.YtgmipobohnagnaaDoor
