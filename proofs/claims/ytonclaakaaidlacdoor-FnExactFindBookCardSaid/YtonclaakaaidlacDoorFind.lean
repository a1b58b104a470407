/- FindBook, by the model and by the program: contracts. Condition: the three error variables hold three different errors of errors.New's make; at most 1048576 books. -/
import Derived.Test.YtonclaakaaidlacDoorAsked
import Derived.Test.YtonclaakaaidlacDoorFindW
import Derived.Test.YtonclaakaaidlacDoorBx
namespace Go.Proofs.YtonclaakaaidlacDoor
set_option linter.unusedSimpArgs false
set_option linter.unusedVariables false
set_option maxRecDepth 100000
open Go.RowKit

def fdCode (xs : List Bk) (cl : Int) (mk : ByteArray) (vo : Int) : Int := if askS xs ≠ 0 then askS xs else if xs.findIdx (fbP cl mk vo) = xs.length then 6 else 0
def fdR (xs : List Bk) (cl : Int) (mk : ByteArray) (vo : Int) : Int := if fdCode xs cl mk vo = 0 then (xs.findIdx (fbP cl mk vo) : Int) else 0
theorem fd_ask {xs : List Bk} {cl : Int} {mk : ByteArray} {vo : Int} (h : askS xs ≠ 0) : fdR xs cl mk vo = 0 ∧ fdCode xs cl mk vo = askS xs := by
  have e : fdCode xs cl mk vo = askS xs := by unfold fdCode; rw [if_pos h]
  exact ⟨by unfold fdR; rw [e, if_neg h], e⟩
theorem fd_none {xs : List Bk} {cl : Int} {mk : ByteArray} {vo : Int} (h : askS xs = 0) (hf : xs.findIdx (fbP cl mk vo) = xs.length) : fdR xs cl mk vo = 0 ∧ fdCode xs cl mk vo = 6 := by
  have e : fdCode xs cl mk vo = 6 := by unfold fdCode; rw [if_neg (by omega), if_pos hf]
  exact ⟨by unfold fdR; rw [e]; rfl, e⟩
theorem fd_ok {xs : List Bk} {cl : Int} {mk : ByteArray} {vo : Int} (h : askS xs = 0) (hf : xs.findIdx (fbP cl mk vo) ≠ xs.length) : fdR xs cl mk vo = (xs.findIdx (fbP cl mk vo) : Int) ∧ fdCode xs cl mk vo = 0 := by
  have e : fdCode xs cl mk vo = 0 := by unfold fdCode; rw [if_neg (by omega), if_neg hf]
  exact ⟨by unfold fdR; rw [e]; rfl, e⟩
theorem fd_at {xs : List Bk} {P : Bk → Bool} {k : Nat} (hk : k < xs.length) (h : P xs[k] = true) (hp : ∀ (t : Nat) (ht : t < xs.length), t < k → P xs[t] = false) : xs.findIdx P = k :=
  (List.findIdx_eq hk).2 ⟨h, fun t ht => hp t (by omega) ht⟩
theorem fd_all {xs : List Bk} {P : Bk → Bool} (hp : ∀ (t : Nat) (ht : t < xs.length), t < xs.length → P xs[t] = false) : xs.findIdx P = xs.length := by
  rw [List.findIdx_eq_length]
  intro x hx
  obtain ⟨t, ht, rfl⟩ := List.getElem_of_mem hx
  simpa using hp t ht ht
theorem askS_15 {xs : List Bk} (h : askS xs ≠ 0) : askS xs = 1 ∨ askS xs = 4 := by
  unfold askS at h ⊢
  split
  · split
    · rename_i h1 h2; rw [if_pos h1, if_pos h2] at h; exact absurd rfl h
    · exact .inr rfl
  · exact .inl rfl

set_option maxHeartbeats 4000000 in
theorem specFindBook_any (v : Value) (xs : List Bk) (cl : Int) (mk : ByteArray) (vo : Int) (wf : ∀ b ∈ xs, b.Wf) (w : World) (hs : SliceOf w v xs) (hm : xs.length ≤ maxLen) :
    Calls Tryd.prog 16 #[v, .int .i64 cl, .string mk, .int .i64 vo] w fun e w' => e = .returned (.tuple #[.int .i64 (fdR xs cl mk vo), .int .i64 (fdCode xs cl mk vo)]) ∧ Below w.heap.size w w' := by
  have HS := Lib.hid hs
  have WF := Lib.hid wf
  obtain ⟨A, c, rfl, hs⟩ := hs
  have HAT := Lib.hid hs
  clear wf hs
  have ASK := Lib.hid (l01Asked_any _ xs WF.out w HS.out hm)
  by_cases hk : askS xs = 0
  · rw [hk] at ASK
    have HK := Lib.hid hk
    obtain ⟨hok, hfo⟩ := askS_ok hk
    have h60 : xs.length ≤ 60 := by unfold okB at hok; simp at hok; exact hok.2
    clear hk hok hfo
    go_enter Tryd.func16, Tryd.ntmps16
    go_wp2_with fail
    refine ASK.out.mono ?_
    rintro e w1 ⟨rfl, h1⟩
    go_wp2
    go_loopw [11] (fun i_ wr => ∃ k : Nat, k ≤ xs.length ∧ i_ = .int .i64 (k : Int) ∧ (∀ (t : Nat) (ht : t < xs.length), t < k → fbP cl mk vo xs[t] = false) ∧ Below w.heap.size w wr) (fun i_ _ => xs.length - (intOf i_).toNat)
    case atStart => exact ⟨0, Nat.zero_le _, rfl, fun _ _ h => absurd h (Nat.not_lt_zero _), h1⟩
    case round =>
      obtain ⟨k, hk, rfl, hp, hb⟩ := hrel
      have HP := Lib.hid hp
      clear hp
      by_cases hlt : k < xs.length
      · obtain ⟨ga, oa, rfl, hga, hat⟩ := HAT.out (by omega)
        obtain ⟨p0, p1, p2, p3, p4, p5, p6, p7⟩ := booksAt_some (hat.below hb hga) hlt
        have wk := WF.out _ (List.getElem_mem hlt)
        obtain ⟨wc1, wc2⟩ := wk.c
        obtain ⟨wv1, wv2⟩ := wk.v
        have n1 : IntKind.i64.wrap xs[k].c = xs[k].c := IntWalk.i64_in _ (by omega)
        have n2 : IntKind.i64.wrap xs[k].v = xs[k].v := IntWalk.i64_in _ (by omega)
        have BB := show Bx (wr.alloc (.cells #[.int .i16 xs[k].c, .int .u8 xs[k].m0, .int .u8 xs[k].m1, .int .u8 xs[k].m2, .int .i16 xs[k].v, .int .i16 xs[k].wi, .int .i16 xs[k].hi, .int .i16 xs[k].we] 36)) wr.heap.size xs[k] from heap_alloc_new wr _
        obtain ⟨-, y1, y2, y3, -⟩ := BB.cells
        have hcv := conv_mark xs[k] wr.heap.size 1 (wr.alloc (.cells #[.int .i16 xs[k].c, .int .u8 xs[k].m0, .int .u8 xs[k].m1, .int .u8 xs[k].m2, .int .i16 xs[k].v, .int .i16 xs[k].wi, .int .i16 xs[k].hi, .int .i16 xs[k].we] 36)) y1 y2 y3
        have hsz := hb.size
        have BN := Lib.hid (hb.alloc hsz (.cells #[.int .i16 xs[k].c, .int .u8 xs[k].m0, .int .u8 xs[k].m1, .int .u8 xs[k].m2, .int .i16 xs[k].v, .int .i16 xs[k].wi, .int .i16 xs[k].hi, .int .i16 xs[k].we] 36))
        have E := Lib.hid (show fbP cl mk vo xs[k] = ((xs[k].c == cl) && (mkQ xs[k] mk && (xs[k].v == vo))) from rfl)
        have EQ := Lib.hid (show mkQ xs[k] mk = ((strOfNums [xs[k].m0, xs[k].m1, xs[k].m2]).toList == mk.toList) from rfl)
        have NX := Lib.hid (show fbP cl mk vo xs[k] = false → ∀ (t : Nat) (ht : t < xs.length), t < k + 1 → fbP cl mk vo xs[t] = false from fun h t ht htk => by
          by_cases e : t = k
          · subst e; exact h
          · exact HP.out t ht (by omega))
        have FA := Lib.hid (show fbP cl mk vo xs[k] = true → fdR xs cl mk vo = (k : Int) ∧ fdCode xs cl mk vo = 0 from fun h => by
          have hf := fd_at hlt h HP.out
          have := fd_ok HK.out (cl := cl) (mk := mk) (vo := vo) (by omega)
          rw [hf] at this
          exact this)
        clear hat wk BB y1 y2 y3
        generalize strOfNums [xs[k].m0, xs[k].m1, xs[k].m2] = ST at *
        cases e1 : (xs[k].c == cl)
        · have N := Lib.hid (NX.out (by rw [E.out, e1]; rfl))
          go_wp2
          go_roundw
          case rel => exact ⟨k + 1, by omega, by go_num, N.out, BN.out⟩
          case measure => simp [intOf]; omega
        · cases e2 : (ST.toList == mk.toList)
          · have N := Lib.hid (NX.out (by rw [E.out, EQ.out, e1, e2]; rfl))
            go_wp2
            go_roundw
            case rel => exact ⟨k + 1, by omega, by go_num, N.out, BN.out⟩
            case measure => simp [intOf]; omega
          · cases e3 : (xs[k].v == vo)
            · have N := Lib.hid (NX.out (by rw [E.out, EQ.out, e1, e2, e3]; rfl))
              go_wp2
              go_roundw
              case rel => exact ⟨k + 1, by omega, by go_num, N.out, BN.out⟩
              case measure => simp [intOf]; omega
            · have F := Lib.hid (FA.out (by rw [E.out, EQ.out, e1, e2, e3]; rfl))
              go_wp2
              go_ret2
              exact ⟨by rw [F.out.1, F.out.2]; rfl, BN.out⟩
      · obtain rfl : k = xs.length := by omega
        have F := Lib.hid (fd_none HK.out (cl := cl) (mk := mk) (vo := vo) (fd_all HP.out))
        go_wp2
        go_ret2
        exact ⟨by rw [F.out.1, F.out.2]; rfl, hb⟩
  · obtain ⟨e1, e2⟩ := fd_ask (cl := cl) (mk := mk) (vo := vo) hk
    have E1 := Lib.hid e1
    have E2 := Lib.hid e2
    clear e1 e2
    generalize askS xs = a at *
    have hk2 : (a == 0) = false := beq_eq_false_iff_ne.2 hk
    go_enter Tryd.func16, Tryd.ntmps16
    go_wp2_with fail
    refine ASK.out.mono ?_
    rintro e w1 ⟨rfl, h1⟩
    go_wp2
    go_ret2
    exact ⟨by rw [E1.out, E2.out]; rfl, h1⟩

set_option maxHeartbeats 4000000 in
theorem findBook_any (v : Value) (xs : List Bk) (cl : Int) (mk : ByteArray) (vo : Int) (wf : ∀ b ∈ xs, b.Wf) (w : World) (s i y : Addr) (he : Errs w s i y) (hs : SliceOf w v xs) (hn : xs.length ≤ 1048576) (hm : xs.length ≤ maxLen) :
    Calls Tryd.prog 17 #[v, .int .i64 cl, .string mk, .int .i64 vo] w fun e w' => e = .returned (.tuple #[.int .i64 (fdR xs cl mk vo), .int .i64 (fdCode xs cl mk vo)]) ∧ Below w.heap.size w w' := by
  have HS := Lib.hid hs
  have WF := Lib.hid wf
  have HE := Lib.hid he
  obtain ⟨A, c, rfl, -⟩ := hs
  have isi : Tryd.prog.isIface 51 = true := by kernel_rfl
  have en := fun (X : World) (v : Value) => run_neq_iface_nil (P := Tryd.prog) (w := X) 51 isi 113 v
  have en0 := fun (X : World) => run_neq_nil_nil_at (P := Tryd.prog) (w := X) 51 isi
  clear wf he
  by_cases hk : askS xs = 0
  · have EV : errV xs s i = .nilIface := by unfold errV; rw [hk]; rfl
    obtain ⟨hok, hfo⟩ := askS_ok hk
    have h60 : xs.length ≤ 60 := by unfold okB at hok; simp at hok; exact hok.2
    have hfl : xs.findIdx (fbP cl mk vo) ≤ xs.length := List.findIdx_le_length
    by_cases hf : xs.findIdx (fbP cl mk vo) = xs.length
    · obtain ⟨e1, e2⟩ := fd_none hk hf
      have E1 := Lib.hid e1
      have E2 := Lib.hid e2
      have d0 : ((xs.length : Int) == (xs.length : Int)) = true := by simp
      have HF := Lib.hid hf
      clear e1 e2 hk hok hfo hf
      go_enter Tryd.func17, Tryd.ntmps17
      go_wp2_with fail
      generalize hw0 : World.alloc _ _ = W
      have g0 : Below w.heap.size w W := by rw [← hw0]; clear hw0; go_grown
      have q0 : W.cell? ⟨w.heap.size, 0, none⟩ = some (.int .i64 cl) := by rw [← hw0]; clear hw0; go_simp
      have q1 : W.cell? ⟨w.heap.size + 1, 0, none⟩ = some (.string mk) := by rw [← hw0]; clear hw0; go_simp
      have q2 : W.cell? ⟨w.heap.size + 2, 0, none⟩ = some (.int .i64 vo) := by rw [← hw0]; clear hw0; go_simp
      have q3 : W.cell? ⟨w.heap.size + 3, 0, none⟩ = some (.slice A xs.length c) := by rw [← hw0]; clear hw0; go_simp
      have z3 : w.heap.size + 3 < W.heap.size := by rw [← hw0]; clear hw0; simp
      clear hw0
      have FC := Lib.hid (show FCap W w.heap.size cl mk vo from ⟨q0, q1, q2⟩)
      refine (checkSorted_any _ xs WF.out W (w.heap.size + 3) s i y (HE.out.below g0) q3 z3 (HS.out.below g0) hn hm).mono ?_
      rintro e w1 ⟨rfl, h1⟩
      rw [EV]
      have g1 := Lib.hid (bnext g0 h1)
      have FC1 := Lib.hid (FC.out.below h1 (by omega))
      have z4 := h1.size
      clear q0 q1 q2 q3
      go_wp2_with fail
      refine (first_find _ xs cl mk vo w.heap.size WF.out w1 (HS.out.below g1.out) h60 FC1.out (by omega)).mono ?_
      rintro e w2 ⟨rfl, h2⟩
      rw [HF.out]
      go_wp2
      go_ret2
      exact ⟨by rw [E1.out, E2.out]; rfl, bnext g1.out h2⟩
    · obtain ⟨e1, e2⟩ := fd_ok hk hf
      have E1 := Lib.hid e1
      have E2 := Lib.hid e2
      have d0 : ((xs.findIdx (fbP cl mk vo) : Int) == (xs.length : Int)) = false := beq_eq_false_iff_ne.2 (by omega)
      clear e1 e2 hk hok hfo hf
      go_enter Tryd.func17, Tryd.ntmps17
      go_wp2_with fail
      generalize hw0 : World.alloc _ _ = W
      have g0 : Below w.heap.size w W := by rw [← hw0]; clear hw0; go_grown
      have q0 : W.cell? ⟨w.heap.size, 0, none⟩ = some (.int .i64 cl) := by rw [← hw0]; clear hw0; go_simp
      have q1 : W.cell? ⟨w.heap.size + 1, 0, none⟩ = some (.string mk) := by rw [← hw0]; clear hw0; go_simp
      have q2 : W.cell? ⟨w.heap.size + 2, 0, none⟩ = some (.int .i64 vo) := by rw [← hw0]; clear hw0; go_simp
      have q3 : W.cell? ⟨w.heap.size + 3, 0, none⟩ = some (.slice A xs.length c) := by rw [← hw0]; clear hw0; go_simp
      have z3 : w.heap.size + 3 < W.heap.size := by rw [← hw0]; clear hw0; simp
      clear hw0
      have FC := Lib.hid (show FCap W w.heap.size cl mk vo from ⟨q0, q1, q2⟩)
      refine (checkSorted_any _ xs WF.out W (w.heap.size + 3) s i y (HE.out.below g0) q3 z3 (HS.out.below g0) hn hm).mono ?_
      rintro e w1 ⟨rfl, h1⟩
      rw [EV]
      have g1 := Lib.hid (bnext g0 h1)
      have FC1 := Lib.hid (FC.out.below h1 (by omega))
      have z4 := h1.size
      clear q0 q1 q2 q3
      go_wp2_with fail
      refine (first_find _ xs cl mk vo w.heap.size WF.out w1 (HS.out.below g1.out) h60 FC1.out (by omega)).mono ?_
      rintro e w2 ⟨rfl, h2⟩
      generalize xs.findIdx (fbP cl mk vo) = f at E1 d0 hfl ⊢
      go_wp2
      go_ret2
      exact ⟨by rw [E1.out, E2.out]; rfl, bnext g1.out h2⟩
  · obtain ⟨e1, e2⟩ := fd_ask (cl := cl) (mk := mk) (vo := vo) hk
    have E1 := Lib.hid e1
    rcases askS_15 hk with h1 | h1
    · have EV : errV xs s i = .iface 113 (.pointer (some i)) := by unfold errV; rw [if_pos h1]
      have E2 := Lib.hid (e2.trans h1)
      clear e1 e2 hk h1
      go_enter Tryd.func17, Tryd.ntmps17
      go_wp2_with fail
      generalize hw0 : World.alloc _ _ = W
      have g0 : Below w.heap.size w W := by rw [← hw0]; clear hw0; go_grown
      have q0 : W.cell? ⟨w.heap.size, 0, none⟩ = some (.int .i64 cl) := by rw [← hw0]; clear hw0; go_simp
      have q1 : W.cell? ⟨w.heap.size + 1, 0, none⟩ = some (.string mk) := by rw [← hw0]; clear hw0; go_simp
      have q2 : W.cell? ⟨w.heap.size + 2, 0, none⟩ = some (.int .i64 vo) := by rw [← hw0]; clear hw0; go_simp
      have q3 : W.cell? ⟨w.heap.size + 3, 0, none⟩ = some (.slice A xs.length c) := by rw [← hw0]; clear hw0; go_simp
      have z3 : w.heap.size + 3 < W.heap.size := by rw [← hw0]; clear hw0; simp
      clear hw0
      have FC := Lib.hid (show FCap W w.heap.size cl mk vo from ⟨q0, q1, q2⟩)
      refine (checkSorted_any _ xs WF.out W (w.heap.size + 3) s i y (HE.out.below g0) q3 z3 (HS.out.below g0) hn hm).mono ?_
      rintro e w1 ⟨rfl, h1⟩
      rw [EV]
      have g1 := Lib.hid (bnext g0 h1)
      have FC1 := Lib.hid (FC.out.below h1 (by omega))
      have z4 := h1.size
      clear q0 q1 q2 q3
      go_wp2_with fail
      refine (codeOf_invalid _ s i y (HE.out.below g1.out)).mono ?_
      rintro e w3 ⟨rfl, rfl⟩
      go_wp2
      go_ret2
      exact ⟨by rw [E1.out, E2.out]; rfl, g1.out⟩
    · have EV : errV xs s i = .iface 113 (.pointer (some s)) := by unfold errV; rw [if_neg (by omega), if_pos h1]
      have E2 := Lib.hid (e2.trans h1)
      clear e1 e2 hk h1
      go_enter Tryd.func17, Tryd.ntmps17
      go_wp2_with fail
      generalize hw0 : World.alloc _ _ = W
      have g0 : Below w.heap.size w W := by rw [← hw0]; clear hw0; go_grown
      have q0 : W.cell? ⟨w.heap.size, 0, none⟩ = some (.int .i64 cl) := by rw [← hw0]; clear hw0; go_simp
      have q1 : W.cell? ⟨w.heap.size + 1, 0, none⟩ = some (.string mk) := by rw [← hw0]; clear hw0; go_simp
      have q2 : W.cell? ⟨w.heap.size + 2, 0, none⟩ = some (.int .i64 vo) := by rw [← hw0]; clear hw0; go_simp
      have q3 : W.cell? ⟨w.heap.size + 3, 0, none⟩ = some (.slice A xs.length c) := by rw [← hw0]; clear hw0; go_simp
      have z3 : w.heap.size + 3 < W.heap.size := by rw [← hw0]; clear hw0; simp
      clear hw0
      have FC := Lib.hid (show FCap W w.heap.size cl mk vo from ⟨q0, q1, q2⟩)
      refine (checkSorted_any _ xs WF.out W (w.heap.size + 3) s i y (HE.out.below g0) q3 z3 (HS.out.below g0) hn hm).mono ?_
      rintro e w1 ⟨rfl, h1⟩
      rw [EV]
      have g1 := Lib.hid (bnext g0 h1)
      have FC1 := Lib.hid (FC.out.below h1 (by omega))
      have z4 := h1.size
      clear q0 q1 q2 q3
      go_wp2_with fail
      refine (codeOf_state _ s i y (HE.out.below g1.out)).mono ?_
      rintro e w3 ⟨rfl, rfl⟩
      go_wp2
      go_ret2
      exact ⟨by rw [E1.out, E2.out]; rfl, g1.out⟩

end Go.Proofs.YtonclaakaaidlacDoor
