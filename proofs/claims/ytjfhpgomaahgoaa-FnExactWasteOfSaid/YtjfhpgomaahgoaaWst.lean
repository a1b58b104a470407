/- The waste of books on heights, by the model: contracts. Condition: numbers within their kinds, slices no longer than can be. -/
import Derived.Test.YtjfhpgomaahgoaaGrp
namespace Go.Proofs.Ytjfhpgomaahgoaa
set_option linter.unusedSimpArgs false
set_option linter.unusedVariables false
set_option maxRecDepth 100000
open Go.RowKit

def wsA (hs : List Int) (b : Bk) : Int := b.wi * (hs.getD (hIx hs b.hi) 0 - b.hi)
def wsTo (hs : List Int) (xs : List Bk) : Nat → Int
  | 0 => 0
  | k + 1 => wsTo hs xs k + wsA hs (xs.getD k default)
theorem okB_get {xs : List Bk} (h : okB xs = true) {b : Bk} (hb : b ∈ xs) : bookB b = true := by
  unfold okB at h
  rw [Bool.and_eq_true, List.all_eq_true] at h
  exact h.1 b hb
theorem okB_len {xs : List Bk} (h : okB xs = true) : xs.length ≤ 60 := by unfold okB at h; simp at h; exact h.2
theorem bookB_wh {b : Bk} (h : bookB b = true) : (1 ≤ b.wi ∧ b.wi ≤ 100) ∧ (50 ≤ b.hi ∧ b.hi ≤ 400) := by
  unfold bookB inB at h
  simp only [Bool.and_eq_true, decide_eq_true_eq] at h
  exact ⟨h.2.2.2.1, h.2.2.2.2.1⟩
theorem wsA_bounds {hs : List Int} {b : Bk} (hb : bookB b = true) (hh : ∀ x ∈ hs, 50 ≤ x ∧ x ≤ 1000) (hk : hIx hs b.hi < hs.length) : 0 ≤ wsA hs b ∧ wsA hs b ≤ 100000 ∧ wsA hs b = b.wi * (hs[hIx hs b.hi] - b.hi) := by
  obtain ⟨h1, h2⟩ := bookB_wh hb
  have h3 := hIx_at hk
  have h4 := hh _ (List.getElem_mem hk)
  have e : hs.getD (hIx hs b.hi) 0 = hs[hIx hs b.hi] := by simp [List.getD, List.getElem?_eq_getElem hk]
  unfold wsA
  rw [e]
  generalize hs[hIx hs b.hi] = h at *
  have m1 : 0 ≤ b.wi * (h - b.hi) := Int.mul_nonneg (by omega) (by omega)
  have m2 : b.wi * (h - b.hi) ≤ 100 * 1000 := Int.mul_le_mul (by omega) (by omega) (by omega) (by omega)
  exact ⟨m1, by omega, rfl⟩
theorem wsA_eq {hs : List Int} {b : Bk} (hk : hIx hs b.hi < hs.length) : wsA hs b = b.wi * (hs[hIx hs b.hi] - b.hi) := by
  unfold wsA
  simp [List.getD, List.getElem?_eq_getElem hk]
theorem wsTo_bounds {hs : List Int} {xs : List Bk} (ok : okB xs = true) (hh : ∀ x ∈ hs, 50 ≤ x ∧ x ≤ 1000) (ha : allHB hs xs = true) : ∀ k, k ≤ xs.length → 0 ≤ wsTo hs xs k ∧ wsTo hs xs k ≤ 100000 * (k : Int)
  | 0, _ => by simp [wsTo]
  | k + 1, hk => by
    have ih := wsTo_bounds ok hh ha k (by omega)
    have hk' : k < xs.length := by omega
    have e : xs.getD k default = xs[k] := by simp [List.getD, List.getElem?_eq_getElem hk']
    have hb := wsA_bounds (okB_get ok (List.getElem_mem hk')) hh (allHB_get ha hk')
    rw [wsTo, e]
    omega
theorem wsTo_succ {hs : List Int} {xs : List Bk} {k : Nat} (hk : k < xs.length) : wsTo hs xs (k + 1) = wsTo hs xs k + wsA hs xs[k] := by
  rw [wsTo]
  simp [List.getD, List.getElem?_eq_getElem hk]

set_option maxHeartbeats 8000000 in
theorem l04Waste_any (v v2 : Value) (hs : List Int) (xs : List Bk) (wx : ∀ b ∈ xs, b.Wf) (w : World) (s1 : IntsOf .i64 w v hs) (s2 : SliceOf w v2 xs) (ok : okB xs = true) (hh : ∀ x ∈ hs, 50 ≤ x ∧ x ≤ 1000) (ha : allHB hs xs = true) (h6 : hs.length ≤ 6) :
    Calls Try.prog 89 #[v, v2] w fun e w' => e = .returned (.int .i64 (wsTo hs xs xs.length)) ∧ Below w.heap.size w w' := by
  have BD := Lib.hid (wsTo_bounds ok hh ha)
  have h60 := okB_len ok
  have OK := Lib.hid (show ∀ (i : Nat) (hi : i < xs.length), 0 ≤ wsA hs xs[i] ∧ wsA hs xs[i] ≤ 100000 from fun i hi => by obtain ⟨a, b, _⟩ := wsA_bounds (okB_get ok (List.getElem_mem hi)) hh (allHB_get ha hi); exact ⟨a, b⟩)
  have BW := Lib.hid (fun (i : Nat) (hi : i < xs.length) => bookB_wh (okB_get ok (List.getElem_mem hi)))
  have AH := Lib.hid (fun (i : Nat) (hi : i < xs.length) => allHB_get ha hi)
  have HH := Lib.hid hh
  have S1 := Lib.hid s1
  have WX := Lib.hid wx
  obtain ⟨A, c, rfl, ha1⟩ := s1
  obtain ⟨B, d, rfl, hb1⟩ := s2
  have HA := Lib.hid ha1
  have HB := Lib.hid hb1
  clear wx ha1 hb1 ok hh ha
  go_enter Try.func89, Try.ntmps89
  go_wp2
  go_loopw [5, 6] (fun t_ i_ wr => ∃ (k : Nat) (t : Int), i_ = .int .i64 (k : Int) ∧ t_ = .int .i64 t ∧ k ≤ xs.length ∧ t = wsTo hs xs k ∧ Below w.heap.size w wr) (fun _ i_ _ => xs.length - (intOf i_).toNat)
  case atStart => exact ⟨0, 0, rfl, rfl, Nat.zero_le _, rfl, Below.refl _ _⟩
  case round =>
    obtain ⟨k, t, rfl, rfl, hk, ht, hbel⟩ := hrel
    have HT := Lib.hid ht
    have HBL := Lib.hid hbel
    clear ht hbel
    by_cases hlt : k < xs.length
    · obtain ⟨gb, ob, rfl, hgb, hcb⟩ := HB.out (by omega)
      have hK := AH.out k hlt
      obtain ⟨ga, oa, rfl, hga, hca⟩ := HA.out (by omega)
      have zb := Nat.lt_of_lt_of_le hgb HBL.out.size
      have za := Nat.lt_of_lt_of_le hga HBL.out.size
      obtain ⟨-, -, -, -, -, p5, p6, -⟩ := booksAt_some (hcb.below HBL.out hgb) hlt
      have q0 := (hca.below HBL.out hga) (hIx hs xs[k].hi) hK
      have B0 := BD.out k hk
      have B1 := BD.out (k + 1) (by omega)
      obtain ⟨o1, o2⟩ := OK.out k hlt
      have o3 := wsA_eq hK
      obtain ⟨⟨w1, w2⟩, w3, w4⟩ := BW.out k hlt
      have ES := wsTo_succ (hs := hs) hlt
      have hx := HH.out _ (List.getElem_mem hK)
      have hx2 := hIx_at hK
      have CC := Lib.hid (fun (W : World) (hB : Below wr.heap.size wr W) => show Calls Try.prog 78 #[.slice (some ⟨ga, oa, none⟩) hs.length c, .pointer (some ⟨gb, ob + k * 8, none⟩)] W fun e w' => e = .returned (.int .i64 ((hIx hs xs[k].hi : Nat) : Int)) ∧ Below W.heap.size W w' by
        have h := l04For_any _ hs xs[k] (WX.out _ (List.getElem_mem hlt)) gb (ob + k * 8) W ((S1.out.below HBL.out).below hB) (by unfold maxLen; omega) ((hB.cell (p := ⟨gb, ob + k * 8 + 6, none⟩) zb).trans p6) (Nat.lt_of_lt_of_le zb hB.size)
        rw [if_pos hK] at h
        exact h)
      rw [ES] at B1
      rw [← HT.out] at B0 B1
      have ES := Lib.hid (show t + wsA hs xs[k] = wsTo hs xs (k + 1) by rw [HT.out, ES])
      clear hca hcb
      generalize wsA hs xs[k] = M at *
      have q0 := belowBy_cell za q0
      have p5 := belowBy_cell zb p5
      have p6 := belowBy_cell zb p6
      generalize hhk : hs[hIx hs xs[k].hi] = h at *
      generalize hIx hs xs[k].hi = K at *
      generalize xs[k].hi = bh at *
      generalize xs[k].wi = bw at *
      obtain ⟨b01, b02⟩ := B0
      obtain ⟨b11, b12⟩ := B1
      obtain ⟨x11, x12⟩ := hx
      have hw1 : IntKind.i64.wrap (bw * (h - bh)) = M := by rw [← o3]; exact IntWalk.i64_in _ (by omega)
      have hw2 : wrap64 (bw * (h - bh)) = M := by rw [← o3]; exact IntWalk.wrap64_in _ (by omega)
      have o3 := Lib.hid o3
      have hKi : (K : Int) < (hs.length : Int) := by omega
      go_wp2
      refine wp_region_below (by kernel_rfl) (by kernel_rfl) ?_
      repeat (first | go_big_quiet_step ((go_at_call 78; exact calls_below (CC.out _ (BelowBy.h _)))) | quiet_step ((go_at_call 78; exact calls_below (CC.out _ (BelowBy.h _)))))
      refine wpQuiet_nil ?_
      rintro wq ⟨⟨_, hq⟩, rfl⟩
      clear q0 p5 p6 CC
      go_wp2
      go_roundw
      case rel => exact ⟨k + 1, t + M, by go_num, by go_num, by omega, ES.out, bnext HBL.out hq⟩
      case measure => simp [intOf]; omega
    · obtain rfl : k = xs.length := by omega
      go_wp2
      go_ret
      exact ⟨by rw [← HT.out]; rfl, HBL.out⟩

end Go.Proofs.Ytjfhpgomaahgoaa
