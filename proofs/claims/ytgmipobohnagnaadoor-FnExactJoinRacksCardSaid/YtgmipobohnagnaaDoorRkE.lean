/- Racks whose books are taken out, parted, joined and spread, as plain data. No condition. -/
import Derived.Test.YtgmipobohnagnaaDoorRkQ
namespace Go.Proofs.YtgmipobohnagnaaDoor
set_option linter.unusedSimpArgs false
set_option linter.unusedVariables false
set_option maxRecDepth 100000
open Go.RowKit

theorem PosTo.mem {n : Int} {ps : List Pl} (h : PosTo n ps ps.length) : ∀ x ∈ ps, 0 ≤ x.p ∧ x.p ≤ n - 1 := by
  intro x hx
  obtain ⟨i, hi, rfl⟩ := List.getElem_of_mem hx
  have := h.ge i hi hi
  exact ⟨by omega, (h i hi hi).2⟩
theorem PosTo.pw {n : Int} {ps : List Pl} (h : PosTo n ps ps.length) : ps.Pairwise (fun a b => a.p < b.p) := by
  rw [List.pairwise_iff_getElem]
  intro i j hi hj hij
  exact h.lt i j hj hij hj
theorem posTo_of {n : Int} {ps : List Pl} (hr : ∀ x ∈ ps, 0 ≤ x.p ∧ x.p ≤ n - 1) (hs : ps.Pairwise (fun a b => a.p < b.p)) : PosTo n ps ps.length := by
  rw [List.pairwise_iff_getElem] at hs
  intro i hi _
  have h0 := hr _ (List.getElem_mem hi)
  refine ⟨?_, h0.2⟩
  cases i with
  | zero => rw [lstP_zero]; exact h0.1
  | succ i =>
    rw [lstP_succ (by omega)]
    have := hs i (i + 1) (by omega) hi (by omega)
    omega
theorem plc_mem {n : Nat} {ps : List Pl} (hp : PosTo n ps ps.length) {x : Pl} (hx : x ∈ ps) : (plc n ps)[x.p.toNat]? = some ⟨true, x.b⟩ := by
  obtain ⟨i, hi, rfl⟩ := List.getElem_of_mem hx
  exact plc_at hp (Nat.le_refl _) i hi hi
theorem plc_non {n : Nat} {ps : List Pl} (hp : PosTo n ps ps.length) {j : Nat} (hj : j < n) (h : ∀ x ∈ ps, x.p ≠ (j : Int)) : (plc n ps)[j]? = some pc0 :=
  plc_free hp (Nat.le_refl _) j hj (fun i hi _ => h _ (List.getElem_mem hi))
theorem plc_length (n : Nat) (ps : List Pl) : (plc n ps).length = n := plcTo_length n ps _
theorem plc_ext {n : Nat} {ps : List Pl} {q : List Pc} (hp : PosTo n ps ps.length) (hl : q.length = n) (h1 : ∀ x ∈ ps, q[x.p.toNat]? = some ⟨true, x.b⟩) (h2 : ∀ j : Nat, j < n → (∀ x ∈ ps, x.p ≠ (j : Int)) → q[j]? = some pc0) : q = plc n ps := by
  refine List.ext_getElem? fun j => ?_
  by_cases hj : j < n
  · by_cases hx : ∃ x ∈ ps, x.p = (j : Int)
    · obtain ⟨x, hx, e⟩ := hx
      have a := h1 x hx
      have b := plc_mem hp hx
      rw [e, Int.toNat_natCast] at a b
      rw [a, b]
    · have hx' : ∀ x ∈ ps, x.p ≠ (j : Int) := fun x h e => hx ⟨x, h, e⟩
      rw [h2 j hj hx', plc_non hp hj hx']
  · rw [List.getElem?_eq_none (by omega), List.getElem?_eq_none (by rw [plc_length]; omega)]

/-! ### taking out -/
def outL (ps : List Pl) (a : Int) : List Pl := ps.filter (fun x => x.p != a)
theorem outL_pos {n : Int} {ps : List Pl} (hp : PosTo n ps ps.length) (a : Int) : PosTo n (outL ps a) (outL ps a).length :=
  posTo_of (fun x hx => hp.mem x (List.mem_filter.1 hx).1) (hp.pw.filter _)
theorem out_plc {n : Nat} {ps : List Pl} (hp : PosTo n ps ps.length) (a : Nat) (ha : a < n) : (plc n ps).set a pc0 = plc n (outL ps a) := by
  refine plc_ext (outL_pos hp a) (by rw [List.length_set, plc_length]) (fun x hx => ?_) (fun j hj hx => ?_)
  · obtain ⟨h1, h2⟩ := List.mem_filter.1 hx
    have h3 : x.p ≠ (a : Int) := by simpa using h2
    have := (hp.mem x h1).1
    rw [List.getElem?_set_ne (by omega)]
    exact plc_mem hp h1
  · by_cases e : a = j
    · subst e
      rw [List.getElem?_set_self (by rw [plc_length]; exact ha)]
    · rw [List.getElem?_set_ne e]
      refine plc_non hp hj fun x h1 h2 => hx x (List.mem_filter.2 ⟨h1, by simp; omega⟩) h2
theorem outL_len (ps : List Pl) (a : Int) : (outL ps a).length ≤ ps.length := List.length_filter_le _ _
theorem outL_same {ps : List Pl} {a : Nat} : (outL ps a).length = ps.length ↔ tkB ps a = false := by
  unfold outL
  rw [List.length_filter_eq_length_iff]
  unfold tkB
  rw [List.any_eq_false]
  simp

/-! ### parts -/
def loL (ps : List Pl) (a : Int) : List Pl := ps.filter (fun x => decide (x.p < a))
def hiL (ps : List Pl) (a : Int) : List Pl := (ps.filter (fun x => !decide (x.p < a))).map (fun x => ⟨x.p - a, x.b⟩)
theorem loL_pos {n a : Int} {ps : List Pl} (hp : PosTo n ps ps.length) : PosTo a (loL ps a) (loL ps a).length :=
  posTo_of (fun x hx => by
    have h := List.mem_filter.1 hx
    have := (hp.mem x h.1).1
    have h2 := h.2
    simp at h2
    omega) (hp.pw.filter _)
theorem hiL_pos {n a : Int} {ps : List Pl} (hp : PosTo n ps ps.length) : PosTo (n - a) (hiL ps a) (hiL ps a).length := by
  refine posTo_of (fun x hx => ?_) ?_
  · obtain ⟨y, hy, rfl⟩ := List.mem_map.1 hx
    have h := List.mem_filter.1 hy
    have := (hp.mem y h.1).2
    have h2 := h.2
    simp at h2
    simp only
    omega
  · unfold hiL
    rw [List.pairwise_map]
    exact (hp.pw.filter _).imp (fun h => by simp only; omega)
theorem lo_plc {n a : Nat} {ps : List Pl} (hp : PosTo n ps ps.length) (ha : a ≤ n) : (plc n ps).take a = plc a (loL ps a) := by
  refine plc_ext (loL_pos hp) (by rw [List.length_take, plc_length]; omega) (fun x hx => ?_) (fun j hj hx => ?_)
  · have h := List.mem_filter.1 hx
    have h2 := h.2
    simp at h2
    have := (hp.mem x h.1).1
    rw [List.getElem?_take, if_pos (by omega)]
    exact plc_mem hp h.1
  · rw [List.getElem?_take, if_pos hj]
    refine plc_non hp (by omega) fun x h1 h2 => hx x (List.mem_filter.2 ⟨h1, by simp; omega⟩) h2
theorem hi_plc {n a : Nat} {ps : List Pl} (hp : PosTo n ps ps.length) (ha : a ≤ n) : (plc n ps).drop a = plc (n - a) (hiL ps a) := by
  have hh : PosTo ((n - a : Nat) : Int) (hiL ps a) (hiL ps a).length := by
    have := hiL_pos (a := (a : Int)) hp
    rwa [show (n : Int) - (a : Int) = ((n - a : Nat) : Int) by omega] at this
  refine plc_ext hh (by rw [List.length_drop, plc_length]) (fun x hx => ?_) (fun j hj hx => ?_)
  · obtain ⟨y, hy, rfl⟩ := List.mem_map.1 hx
    have h := List.mem_filter.1 hy
    have h2 := h.2
    simp at h2
    have := hp.mem y h.1
    rw [List.getElem?_drop]
    have e := plc_mem hp h.1
    simp only
    rw [show a + (y.p - (a : Int)).toNat = y.p.toNat by omega]
    exact e
  · rw [List.getElem?_drop]
    refine plc_non hp (by omega) fun x h1 h2 => hx ⟨x.p - a, x.b⟩ (List.mem_map.2 ⟨x, List.mem_filter.2 ⟨h1, by simp; omega⟩, rfl⟩) (by simp only; omega)

/-! ### joined -/
def shL (ps : List Pl) (a : Int) : List Pl := ps.map (fun x => ⟨a + x.p, x.b⟩)
theorem joinL_pos {n m : Int} {ps qs : List Pl} (hp : PosTo n ps ps.length) (hq : PosTo m qs qs.length) (h0 : 0 ≤ n) (h1 : 0 ≤ m) : PosTo (n + m) (ps ++ shL qs n) (ps ++ shL qs n).length := by
  refine posTo_of (fun x hx => ?_) ?_
  · rcases List.mem_append.1 hx with h | h
    · have := hp.mem x h; omega
    · obtain ⟨y, hy, rfl⟩ := List.mem_map.1 h
      have := hq.mem y hy
      simp only
      omega
  · rw [List.pairwise_append]
    refine ⟨hp.pw, ?_, fun x hx y hy => ?_⟩
    · unfold shL
      rw [List.pairwise_map]
      exact hq.pw.imp (fun h => by simp only; omega)
    · obtain ⟨z, hz, rfl⟩ := List.mem_map.1 hy
      have := hp.mem x hx
      have := hq.mem z hz
      simp only
      omega
theorem join_plc {n m : Nat} {ps qs : List Pl} (hp : PosTo n ps ps.length) (hq : PosTo m qs qs.length) : plc n ps ++ plc m qs = plc (n + m) (ps ++ shL qs n) := by
  have hj : PosTo ((n + m : Nat) : Int) (ps ++ shL qs n) (ps ++ shL qs n).length := by
    have := joinL_pos hp hq (by omega) (by omega)
    rwa [show (n : Int) + (m : Int) = ((n + m : Nat) : Int) by omega] at this
  refine plc_ext hj (by rw [List.length_append, plc_length, plc_length]) (fun x hx => ?_) (fun j hj hx => ?_)
  · rcases List.mem_append.1 hx with h | h
    · have := hp.mem x h
      rw [List.getElem?_append_left (by rw [plc_length]; omega)]
      exact plc_mem hp h
    · obtain ⟨y, hy, rfl⟩ := List.mem_map.1 h
      have := hq.mem y hy
      simp only
      rw [List.getElem?_append_right (by rw [plc_length]; omega), plc_length, show ((n : Int) + y.p).toNat - n = y.p.toNat by omega]
      exact plc_mem hq hy
  · by_cases e : j < n
    · rw [List.getElem?_append_left (by rw [plc_length]; omega)]
      exact plc_non hp e fun x h => hx x (List.mem_append_left _ h)
    · rw [List.getElem?_append_right (by rw [plc_length]; omega), plc_length]
      exact plc_non hq (by omega) fun x h h2 => hx ⟨n + x.p, x.b⟩ (List.mem_append_right _ (List.mem_map.2 ⟨x, h, rfl⟩)) (by simp only; omega)

/-! ### spread -/
def sprP (n len i : Nat) : Nat := (2 * i + 1) * n / (2 * len)
def sprTo (n : Nat) (xs : List Bk) : Nat → List Pl
  | 0 => []
  | k + 1 => sprTo n xs k ++ [⟨(sprP n xs.length k : Nat), xs.getD k default⟩]
def sprL (n : Nat) (xs : List Bk) : List Pl := sprTo n xs xs.length
theorem sprTo_length (n : Nat) (xs : List Bk) : ∀ k, (sprTo n xs k).length = k
  | 0 => rfl
  | k + 1 => by rw [sprTo, List.length_append, sprTo_length n xs k]; rfl
theorem sprP_lt {n len i : Nat} (hi : i < len) (hn : 0 < n) : sprP n len i < n := by
  unfold sprP
  rw [Nat.div_lt_iff_lt_mul (by omega)]
  have : 2 * i + 1 < 2 * len := by omega
  calc (2 * i + 1) * n < 2 * len * n := Nat.mul_lt_mul_of_pos_right this hn
    _ = n * (2 * len) := Nat.mul_comm _ _
theorem sprP_mono {n len i : Nat} (h : len ≤ n) (h0 : 0 < len) : sprP n len i < sprP n len (i + 1) := by
  unfold sprP
  have e : (2 * (i + 1) + 1) * n = (2 * i + 1) * n + 2 * n := by rw [show 2 * (i + 1) + 1 = (2 * i + 1) + 2 by omega, Nat.add_mul]
  rw [e]
  have h1 : (2 * i + 1) * n / (2 * len) + 1 = ((2 * i + 1) * n + 2 * len) / (2 * len) := by rw [Nat.add_div_right _ (by omega)]
  have h2 : ((2 * i + 1) * n + 2 * len) / (2 * len) ≤ ((2 * i + 1) * n + 2 * n) / (2 * len) := Nat.div_le_div_right (by omega)
  omega
theorem sprP_lt_of {n len : Nat} (h : len ≤ n) (h0 : 0 < len) {i : Nat} : ∀ {j : Nat}, i < j → sprP n len i < sprP n len j
  | 0, hij => absurd hij (Nat.not_lt_zero _)
  | j + 1, hij => by
    have := sprP_mono (i := j) h h0
    by_cases e : i = j
    · subst e; exact this
    · exact Nat.lt_trans (sprP_lt_of h h0 (by omega)) this
theorem sprTo_get (n : Nat) (xs : List Bk) : ∀ (k i : Nat) (h : i < (sprTo n xs k).length), (sprTo n xs k)[i] = ⟨(sprP n xs.length i : Nat), xs.getD i default⟩
  | 0, i, h => absurd h (Nat.not_lt_zero _)
  | k + 1, i, h => by
    have hl := sprTo_length n xs (k + 1)
    have hl2 := sprTo_length n xs k
    by_cases e : i < k
    · simp only [sprTo]
      rw [List.getElem_append_left (by omega)]
      exact sprTo_get n xs k i (by omega)
    · obtain rfl : i = k := by omega
      simp only [sprTo]
      rw [List.getElem_append_right (by omega)]
      simp [hl2]
theorem sprL_at {n : Nat} {xs : List Bk} {i : Nat} (h : i < (sprL n xs).length) : (sprL n xs)[i] = ⟨(sprP n xs.length i : Nat), xs.getD i default⟩ := sprTo_get _ _ _ _ _
theorem sprL_pos {n : Nat} {xs : List Bk} (h : xs.length ≤ n) : PosTo n (sprL n xs) (sprL n xs).length := by
  have hl : (sprL n xs).length = xs.length := sprTo_length _ _ _
  refine posTo_of (fun x hx => ?_) ?_
  · obtain ⟨i, hi, rfl⟩ := List.getElem_of_mem hx
    have := sprP_lt (n := n) (len := xs.length) (i := i) (by omega) (by omega)
    rw [sprL_at]
    simp only
    omega
  · rw [List.pairwise_iff_getElem]
    intro i j hi hj hij
    have := sprP_lt_of (n := n) (len := xs.length) h (by omega) hij
    rw [sprL_at, sprL_at]
    simp only
    omega
theorem sprL_len (n : Nat) (xs : List Bk) : (sprL n xs).length = xs.length := sprTo_length _ _ _
theorem sprL_bks {n : Nat} {xs : List Bk} : bks (sprL n xs) = xs := by
  refine List.ext_getElem (by rw [bks_length, sprL_len]) fun i h1 h2 => ?_
  rw [bks_get]
  rw [sprL_at]
  simp only
  rw [List.getD_eq_getElem?_getD, List.getElem?_eq_getElem h2]
  rfl
end Go.Proofs.YtgmipobohnagnaaDoor
