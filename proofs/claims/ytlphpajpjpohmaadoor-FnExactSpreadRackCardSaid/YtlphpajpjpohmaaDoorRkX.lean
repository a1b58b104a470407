/- How far the books of two racks are apart, as plain data; by the program: a contract. Condition: at most 60 places. -/
import Derived.Test.YtlphpajpjpohmaaDoorRkP2
import Derived.Test.YtlphpajpjpohmaaDoorRkF
import Derived.Deep.AppendLies
import Derived.Deep.RegionLaw
import Derived.IntWalk
namespace Go.Proofs.YtlphpajpjpohmaaDoor
set_option linter.unusedSimpArgs false
set_option linter.unusedVariables false
set_option maxRecDepth 100000
open Go.RowKit Go.Sort

def dA (xs ys : List Int) (k : Nat) : Int := max (xs.getD k 0 - ys.getD k 0) (ys.getD k 0 - xs.getD k 0)
def dTo (xs ys : List Int) : Nat → List Int
  | 0 => []
  | k + 1 => dTo xs ys k ++ [dA xs ys k]
def sD (xs ys : List Int) : Nat → Int
  | 0 => 0
  | k + 1 => sD xs ys k + dA xs ys k
def cD (xs ys : List Int) : Nat → Int
  | 0 => 0
  | k + 1 => cD xs ys k + (if xs.getD k 0 = ys.getD k 0 then 0 else 1)
theorem dTo_length (xs ys : List Int) : ∀ k, (dTo xs ys k).length = k
  | 0 => rfl
  | k + 1 => by rw [dTo, List.length_append, dTo_length xs ys k]; rfl
theorem dTo_get (xs ys : List Int) : ∀ (k i : Nat) (h : i < (dTo xs ys k).length), (dTo xs ys k)[i] = dA xs ys i
  | 0, i, h => absurd h (Nat.not_lt_zero _)
  | k + 1, i, h => by
    have hl := dTo_length xs ys (k + 1)
    have hl2 := dTo_length xs ys k
    by_cases e : i < k
    · simp only [dTo]
      rw [List.getElem_append_left (by omega)]
      exact dTo_get xs ys k i (by omega)
    · obtain rfl : i = k := by omega
      simp only [dTo]
      rw [List.getElem_append_right (by omega)]
      simp [hl2]
theorem dA_one (xs ys : List Int) (k : Nat) : min (dA xs ys k) 1 = if xs.getD k 0 = ys.getD k 0 then 0 else 1 := by
  unfold dA
  split <;> omega
theorem getD_bd {xs : List Int} (h : ∀ z ∈ xs, 0 ≤ z ∧ z < 60) (k : Nat) : 0 ≤ xs.getD k 0 ∧ xs.getD k 0 < 60 := by
  rw [List.getD_eq_getElem?_getD]
  rcases Nat.lt_or_ge k xs.length with hk | hk
  · rw [List.getElem?_eq_getElem hk]
    exact h _ (List.getElem_mem hk)
  · rw [List.getElem?_eq_none hk]
    simp
theorem dA_bd {xs ys : List Int} (hx : ∀ z ∈ xs, 0 ≤ z ∧ z < 60) (hy : ∀ z ∈ ys, 0 ≤ z ∧ z < 60) (k : Nat) : 0 ≤ dA xs ys k ∧ dA xs ys k < 60 := by
  have := getD_bd hx k
  have := getD_bd hy k
  unfold dA
  omega
theorem sD_bd {xs ys : List Int} (hx : ∀ z ∈ xs, 0 ≤ z ∧ z < 60) (hy : ∀ z ∈ ys, 0 ≤ z ∧ z < 60) : ∀ k, 0 ≤ sD xs ys k ∧ sD xs ys k ≤ 60 * (k : Int)
  | 0 => by simp [sD]
  | k + 1 => by
    have := sD_bd hx hy k
    have := dA_bd hx hy k
    rw [sD]
    omega
theorem cD_bd (xs ys : List Int) : ∀ k, 0 ≤ cD xs ys k ∧ cD xs ys k ≤ (k : Int)
  | 0 => by simp [cD]
  | k + 1 => by
    have := cD_bd xs ys k
    rw [cD]
    split <;> omega
theorem getD_at {xs : List Int} {k : Nat} (h : k < xs.length) : xs.getD k 0 = xs[k] := by
  rw [List.getD_eq_getElem?_getD, List.getElem?_eq_getElem h]; rfl

def pos (ps : List Pl) : List Int := ps.map (·.p)
theorem pos_length (ps : List Pl) : (pos ps).length = ps.length := by simp [pos]
theorem pos_bd {n : Int} {ps : List Pl} (h : PosTo n ps ps.length) (hn : n ≤ 60) : ∀ z ∈ pos ps, 0 ≤ z ∧ z < 60 := by
  intro z hz
  obtain ⟨x, hx, rfl⟩ := List.mem_map.1 hz
  have := h.mem x hx
  exact ⟨this.1, by omega⟩
theorem pos_getD {ps : List Pl} {k : Nat} (h : k < ps.length) : (pos ps).getD k 0 = ps[k].p := by
  rw [getD_at (by rw [pos_length]; exact h)]
  simp [pos]

set_option maxHeartbeats 8000000 in
theorem distances_any (v1 v2 : Value) (p q : List Pc) (w : World) (hs1 : PcsOf w v1 p) (hs2 : PcsOf w v2 q) (hn1 : p.length ≤ 60) (hn2 : q.length ≤ 60) (hl : (whr true p).length ≤ (whr true q).length) :
    Calls Tryd.prog 90 #[v1, v2] w fun e w' => ∃ u, e = .returned u ∧ w'.ownsRow w.heap.size 2 1 u (dTo (whr true p) (whr true q) (whr true p).length).length ((dTo (whr true p) (whr true q) (whr true p).length).map (Value.int .i64)) ∧ Below w.heap.size w w' := by
  have HP := Lib.hid hs1
  have HQ := Lib.hid hs2
  obtain ⟨A1, k1, rfl, -⟩ := hs1
  obtain ⟨A2, k2, rfl, -⟩ := hs2
  obtain ⟨i0, hi, hz0, hz1, hz2⟩ := info_parts infoInt64
  have l1 := whr_length true p
  have M1 := Lib.hid (show ∀ z ∈ whr true p, 0 ≤ z ∧ z < 60 from fun z hz => by have := whr_mem hz; omega)
  have M2 := Lib.hid (show ∀ z ∈ whr true q, 0 ≤ z ∧ z < 60 from fun z hz => by have := whr_mem hz; omega)
  go_enter Tryd.func90, Tryd.ntmps90
  go_wp2_with fail
  refine (where_any _ q true _ HQ.out hn2).mono ?_
  rintro e w1 ⟨v1, rfl, ho1, g1⟩
  go_wp2_with fail
  refine (where_any _ p true _ (HP.out.below g1) hn1).mono ?_
  rintro e w2 ⟨v2, rfl, ho2, g2⟩
  obtain ⟨xs, hxs⟩ : ∃ xs, whr true p = xs := ⟨_, rfl⟩
  obtain ⟨ys, hys⟩ : ∃ ys, whr true q = ys := ⟨_, rfl⟩
  have EX := Lib.hid hxs
  have EY := Lib.hid hys
  rw [hxs] at l1 M1 hl ho2
  rw [hys] at M2 hl ho1
  clear hxs hys
  have B2 := Lib.hid (bnext g1 g2)
  have OY := Lib.hid (ownBelow ho1 g2)
  have OX := Lib.hid ho2
  have zz := g1.size
  have zz2 := g2.size
  obtain ⟨Ax, cx, rfl, -⟩ := ownsInts ho2
  obtain ⟨Ay, cy, rfl, -⟩ := ownsInts ho1
  have D0 := Lib.hid (show w2.ownsRow w2.heap.size 2 1 (.slice none 0 0) (dTo xs ys 0).length ((dTo xs ys 0).map (Value.int .i64)) from ⟨rfl, .inl ⟨rfl, rfl⟩⟩)
  clear ho1 ho2 g1 g2
  go_wp2
  go_loopw [5, 14] (fun v_ i_ wr => ∃ (v : Value) (k : Nat), v = v_ ∧ k ≤ xs.length ∧ i_ = .int .i64 (k : Int) ∧ wr.ownsRow w2.heap.size 2 1 v (dTo xs ys k).length ((dTo xs ys k).map (Value.int .i64)) ∧ Below w2.heap.size w2 wr) (fun _ i_ _ => xs.length - (intOf i_).toNat)
  case atStart => exact ⟨_, 0, rfl, Nat.zero_le _, rfl, D0.out, Below.refl _ _⟩
  case round =>
    obtain ⟨v, k, rfl, hk, rfl, hown, hb⟩ := hrel
    have OW := Lib.hid hown
    have HB := Lib.hid hb
    have hz := hb.size
    have DL := dTo_length xs ys k
    clear hown hb
    by_cases hlt : k < xs.length
    · have hlt2 : k < ys.length := by omega
      have hlt' := hlt
      obtain ⟨Ax', cx', ex, hx⟩ := ownsInts OX.out
      obtain ⟨gx, ox, hAx, hgx, hatx⟩ := hx (by omega)
      obtain ⟨Ay', cy', ey, hy⟩ := ownsInts OY.out
      obtain ⟨gy, oy, hAy, hgy, haty⟩ := hy (by omega)
      obtain rfl : Ax = some ⟨gx, ox, none⟩ := by injection ex with a b d; rw [a]; exact hAx
      obtain rfl : Ay = some ⟨gy, oy, none⟩ := by injection ey with a b d; rw [a]; exact hAy
      have c1 := (HB.out.cell (p := ⟨gx, ox + k, none⟩) hgx).trans (hatx k hlt)
      have c2 := (HB.out.cell (p := ⟨gy, oy + k, none⟩) hgy).trans (haty k hlt2)
      have bx := M1.out _ (List.getElem_mem hlt)
      have by_ := M2.out _ (List.getElem_mem hlt2)
      have DE := Lib.hid (show dTo xs ys (k + 1) = dTo xs ys k ++ [max (xs[k] - ys[k]) (ys[k] - xs[k])] by rw [dTo, dA, getD_at hlt, getD_at hlt2])
      have zx := Nat.lt_of_lt_of_le hgx hz
      have zy := Nat.lt_of_lt_of_le hgy hz
      clear hatx haty hx hy ex ey
      generalize xs[k] = x at c1 bx DE
      generalize ys[k] = y at c2 by_ DE
      obtain ⟨bx1, bx2⟩ := bx
      obtain ⟨by1, by2⟩ := by_
      have q1 : IntKind.i64.wrap (x - y) = x - y := IntWalk.i64_in _ (by omega)
      have q2 : IntKind.i64.wrap (y - x) = y - x := IntWalk.i64_in _ (by omega)
      obtain ⟨m, hm⟩ : ∃ m, max (x - y) (y - x) = m := ⟨_, rfl⟩
      rw [hm] at DE
      by_cases hxy : x - y < y - x
      · have hxy2 : x - y ≤ y - x := by omega
        have hm2 : y - x = m := by omega
        subst hm2
        have OD := Lib.hid (ownBelow OW.out ((Below.refl _ wr).drew))
        have DE := Lib.hid (show dTo xs ys (k + 1) = dTo xs ys k ++ [y - x] from DE.out)
        go_wp2
        go_region_law (
          refine step_append_lies _ (by rfl) _ _ _ (by rfl) w2.heap.size 2 i0 (.int .i64 0) 1 8 Tryd.underlying40 hi hz0 hz1 hz2 rfl (by decide) v _ _ (by rfl) (OD.out.alloc _) ⟨wr.heap.size, 0, none⟩ 1 1 [.int .i64 (y - x)] (by rfl) rfl (cell_one_new _ _ _) (by intro u hu; simp at hu; subst hu; rfl) (by decide) (by unfold maxLen; omega) (by omega) (by simp; omega) _ rfl ?_
          intro g4 cap w4 ho4 hg4 ha4 hl4
          have S1 := Lib.hid (show w4.ownsRow w2.heap.size 2 1 (.slice (some ⟨g4, 0, none⟩) ((dTo xs ys k).length + 1) cap) (dTo xs ys (k + 1)).length ((dTo xs ys (k + 1)).map (Value.int .i64)) by rw [DE.out, List.length_append, List.map_append]; exact ho4)
          have S2 := Lib.hid (((HB.out.drew).alloc hz _).grown hg4 (by simp; omega) (fun k hk => (OD.out.lt k hk).1))
          clear ho4 hg4 ha4 hl4)
        all_goals
          go_wp2
          go_roundw
          case rel => exact ⟨_, k + 1, rfl, by omega, by go_num, by have h := S1.out; rw [DL] at h; exact h, S2.out⟩
          case measure => simp [intOf]; omega
      · have hxy2 : y - x ≤ x - y := by omega
        have hm2 : x - y = m := by omega
        subst hm2
        have OD := Lib.hid (ownBelow OW.out ((Below.refl _ wr).drew))
        have DE := Lib.hid (show dTo xs ys (k + 1) = dTo xs ys k ++ [x - y] from DE.out)
        go_wp2
        go_region_law (
          refine step_append_lies _ (by rfl) _ _ _ (by rfl) w2.heap.size 2 i0 (.int .i64 0) 1 8 Tryd.underlying40 hi hz0 hz1 hz2 rfl (by decide) v _ _ (by rfl) (OD.out.alloc _) ⟨wr.heap.size, 0, none⟩ 1 1 [.int .i64 (x - y)] (by rfl) rfl (cell_one_new _ _ _) (by intro u hu; simp at hu; subst hu; rfl) (by decide) (by unfold maxLen; omega) (by omega) (by simp; omega) _ rfl ?_
          intro g4 cap w4 ho4 hg4 ha4 hl4
          have S1 := Lib.hid (show w4.ownsRow w2.heap.size 2 1 (.slice (some ⟨g4, 0, none⟩) ((dTo xs ys k).length + 1) cap) (dTo xs ys (k + 1)).length ((dTo xs ys (k + 1)).map (Value.int .i64)) by rw [DE.out, List.length_append, List.map_append]; exact ho4)
          have S2 := Lib.hid (((HB.out.drew).alloc hz _).grown hg4 (by simp; omega) (fun k hk => (OD.out.lt k hk).1))
          clear ho4 hg4 ha4 hl4)
        all_goals
          go_wp2
          go_roundw
          case rel => exact ⟨_, k + 1, rfl, by omega, by go_num, by have h := S1.out; rw [DL] at h; exact h, S2.out⟩
          case measure => simp [intOf]; omega
    · obtain rfl : k = xs.length := by omega
      go_wp2
      go_ret
      exact ⟨_, rfl, by rw [EX.out, EY.out]; exact ownMonoR OW.out (by omega), bnext B2.out HB.out⟩
end Go.Proofs.YtlphpajpjpohmaaDoor
