/- Tables of numbers: how they read when they come in; the law's copies and comparisons: contracts. Condition: no longer than a slice can be (the copies: than the law tests). -/
import Derived.Test.YtonclaakaaidlaaNums
import Derived.Test.YtonclaakaaidlaaCase
import Derived.Test.YtonclaakaaidlaaOpen
namespace Go.Proofs.Ytonclaakaaidlaa
set_option linter.unusedSimpArgs false
set_option linter.unusedVariables false
set_option maxRecDepth 100000
open Go.ChangeShapes Go.WideShapes Go.ChangeAt Go.RowKit Go.Deep

def TabOf (w : World) (v : Value) (t : List (List Int)) : Prop :=
  ∃ A c, v = .slice A t.length c ∧ (0 < t.length → ∃ g o, A = some ⟨g, o, none⟩ ∧ g < w.heap.size ∧ ∀ (i : Nat) (hi : i < t.length), ∃ u, w.cell? ⟨g, o + i, none⟩ = some u ∧ IntsOf .i64 w u t[i])
theorem TabOf.below {w w' : World} {v : Value} {t : List (List Int)} (h : TabOf w v t) (hb : Below w.heap.size w w') : TabOf w' v t := by
  obtain ⟨A, c, rfl, h⟩ := h
  refine ⟨A, c, rfl, fun h0 => ?_⟩
  obtain ⟨g, o, rfl, hg, hh⟩ := h h0
  refine ⟨g, o, rfl, Nat.lt_of_lt_of_le hg hb.size, fun i hi => ?_⟩
  obtain ⟨u, h1, h2⟩ := hh i hi
  exact ⟨u, (hb.cell (p := ⟨g, o + i, none⟩) hg).trans h1, h2.below hb⟩

theorem list_ofG {α : Type} (n : Nat) (P : Nat → α → Prop) (h : ∀ i, i < n → ∃ b, P i b) : ∃ l : List α, l.length = n ∧ ∀ (i : Nat) (hi : i < l.length), P i l[i] := by
  induction n with
  | zero => exact ⟨[], rfl, fun i hi => absurd hi (Nat.not_lt_zero _)⟩
  | succ n ih =>
    obtain ⟨l, hl, hp⟩ := ih (fun i hi => h i (by omega))
    obtain ⟨b, hb⟩ := h n (Nat.lt_succ_self n)
    refine ⟨l ++ [b], by simp [hl], fun i hi => ?_⟩
    by_cases e : i < l.length
    · rw [List.getElem_append_left e]; exact hp i e
    · have : i = n := by simp at hi; omega
      subst this
      rw [List.getElem_append_right (by omega)]
      simpa [hl] using hb

section
variable {H : Type} {enc : TypeId × Value → H} {w : World} {base : Nat} {spare : Nat → Bool} {held : Bool}
theorem cellsRow64 : Try.prog.cellsOf 24 = 1 := by kernel_rfl
theorem cells64 : Try.prog.cellsOf 2 = 1 := by kernel_rfl
/-- A table that came in. -/
theorem tab_of_arg {r : Reach} {b0 : Nat} {v : Value} {d : DataW H} {p : List MemPlace} (hv : Value.okWide Try.prog w r b0 50 v) (h : DataW.Trod enc Try.prog w base spare held 50 v d p) :
    ∃ t : List (List Int), (∀ zs ∈ t, ∀ z ∈ zs, (Lit.int .i64 z).wf = true) ∧ (∀ zs ∈ t, zs.length ≤ maxLen) ∧ TabOf w v t ∧ t.length ≤ maxLen := by
  obtain ⟨a, len, cap, rfl⟩ := okWide_slice Try.underlying50 hv
  obtain ⟨fuel, hf⟩ := h
  rcases open_slice Try.underlying50 hf with ⟨hcs, _⟩ | ⟨a', l', c', m, n, D, Pl, hcs, _, hl, hm, hmm, _, hi⟩
  · simp [Value.cells] at hcs
    obtain ⟨rfl, rfl, rfl⟩ := hcs
    exact ⟨[], by simp, by simp, ⟨_, _, rfl, fun h => absurd h (Nat.lt_irrefl _)⟩, by simp⟩
  · simp [Value.cells] at hcs
    obtain ⟨rfl, rfl, rfl⟩ := hcs
    have hlm : len ≤ m := by rw [hmm]; split <;> omega
    obtain ⟨t, htl, ht⟩ := list_ofG len (fun i (zs : List Int) => (∀ z ∈ zs, (Lit.int .i64 z).wf = true) ∧ zs.length ≤ maxLen ∧ ∃ u, w.cell? (a'.add i) = some u ∧ IntsOf .i64 w u zs) (fun i h => by
      obtain ⟨cs', h1, h2⟩ := hi i (by omega)
      obtain ⟨u, zs, rfl, hz1, hz2, hz3⟩ := ints_of_trod Try.underlying24 Try.underlying2 cells64 h2
      rw [cellsRow64] at h1
      have h3 := (World.cells?_some h1).2.2 0 (by omega)
      rw [Nat.mul_one, add_add, Nat.add_zero] at h3
      exact ⟨zs, hz1, hz3, u, h3, hz2⟩)
    subst htl
    refine ⟨t, fun zs hzs => ?_, fun zs hzs => ?_, ⟨_, _, rfl, fun h0 => ?_⟩, by omega⟩
    · obtain ⟨i, hi, rfl⟩ := List.getElem_of_mem hzs
      exact (ht i hi).1
    · obtain ⟨i, hi, rfl⟩ := List.getElem_of_mem hzs
      exact (ht i hi).2.1
    · obtain ⟨u0, hu0, _⟩ := (ht 0 h0).2.2
      have hs : a'.spot = none := by simpa [Addr.add] using World.cell?_spot hu0
      obtain ⟨g, o, sp⟩ := a'
      simp only at hs
      subst hs
      refine ⟨g, o, rfl, ?_, fun i hi => ?_⟩
      · have h2 := block_lt_of_cell hu0
        rwa [block_of_add] at h2
      · obtain ⟨u, hu, hz⟩ := (ht i hi).2.2
        rw [Addr.add_lit] at hu
        exact ⟨u, hu, hz⟩
end

/-- What a table counts for the law's bound. -/
def tszTo (t : List (List Int)) : Nat → Nat
  | 0 => t.length
  | k + 1 => tszTo t k + (t.getD k []).length
def tsz (t : List (List Int)) : Nat := tszTo t t.length
theorem tszTo_mono (t : List (List Int)) : ∀ (k d : Nat), tszTo t k ≤ tszTo t (k + d)
  | k, 0 => Nat.le_refl _
  | k, d + 1 => Nat.le_trans (tszTo_mono t k d) (by rw [show k + (d + 1) = (k + d) + 1 by omega, tszTo]; omega)
theorem tsz_le {t : List (List Int)} {k : Nat} (h : k ≤ t.length) : tszTo t k ≤ tsz t := by
  have := tszTo_mono t k (t.length - k)
  rwa [show k + (t.length - k) = t.length by omega] at this
theorem tsz_len (t : List (List Int)) : t.length ≤ tsz t := tsz_le (t := t) (k := 0) (Nat.zero_le _)
theorem tsz_row {t : List (List Int)} {k : Nat} (h : k < t.length) : t[k].length ≤ tsz t := by
  have h1 := tsz_le (t := t) (k := k + 1) h
  rw [tszTo, List.getD_eq_getElem?_getD, List.getElem?_eq_getElem h] at h1
  simp at h1
  omega
theorem tszTo_succ {t : List (List Int)} {k : Nat} (h : k < t.length) : tszTo t (k + 1) = tszTo t k + t[k].length := by
  rw [tszTo, List.getD_eq_getElem?_getD, List.getElem?_eq_getElem h]
  rfl

set_option maxHeartbeats 2000000 in
theorem szInt64SS_r (r : Int) (v : Value) (t : List (List Int)) (L : Int) (w : World) (hs : TabOf w v t) (hr : ∀ zs ∈ t, zs.length ≤ maxLen) (hn : t.length ≤ maxLen) (h0 : 0 ≤ L) (h1 : L ≤ 1048576) (hp : (tsz t : Int) ≤ L → L - (tsz t : Int) = r) (hq : L < (tsz t : Int) → r = -1) :
    Calls Try.prog 48 #[v, .int .i64 L] w fun e w' => e = .returned (.int .i64 r) ∧ w = w' := by
  obtain ⟨A, c, rfl, hs⟩ := hs
  have HS := Lib.hid hs
  have HR := Lib.hid hr
  have HP := Lib.hid hp
  have HQ := Lib.hid hq
  clear hp hq
  unfold maxLen at hn
  have HLT := Lib.hid (tsz_len t)
  clear hs hr
  by_cases hl : (t.length : Int) ≤ L
  · have hl' : ¬ (L - (t.length : Int) < 0) := by omega
    go_enter Try.func48, Try.ntmps48
    go_wp2
    go_loopw [1, 5] (fun l_ i_ wr => ∃ k : Nat, k ≤ t.length ∧ i_ = .int .i64 (k : Int) ∧ 0 ≤ L - (tszTo t k : Int) ∧ l_ = .int .i64 (L - (tszTo t k : Int)) ∧ wr = w) (fun _ i_ _ => t.length - (intOf i_).toNat)
    case atStart => exact ⟨0, Nat.zero_le _, rfl, by simp [tszTo]; omega, rfl, rfl⟩
    case round =>
      obtain ⟨k, hk, rfl, hp, rfl, rfl⟩ := hrel
      by_cases hlt : k < t.length
      · obtain ⟨g, o, rfl, hg, hat⟩ := HS.out (by omega)
        obtain ⟨u, hu, hz⟩ := hat k hlt
        obtain ⟨Ak, ck, rfl, -⟩ := hz
        have hmx := HR.out _ (List.getElem_mem hlt)
        unfold maxLen at hmx
        have SU := Lib.hid (tszTo_succ hlt)
        have TL := Lib.hid (tsz_le (t := t) (k := k + 1) hlt)
        have CS := Lib.hid (szInt64S_left Ak t[k].length ck (L - (tszTo t k : Int)) wr (by omega) hp (by omega))
        clear hat
        generalize t[k].length = m at *
        generalize tszTo t k = q at *
        by_cases hm : (m : Int) ≤ L - (q : Int)
        · rw [if_pos hm] at CS
          have hm2 : ¬ (L - (q : Int) - (m : Int) < 0) := by omega
          go_wp2_with fail
          refine CS.out.mono ?_
          rintro e w' ⟨rfl, rfl⟩
          go_wp2
          go_roundw
          case rel => exact ⟨k + 1, by omega, by go_num, by rw [SU.out]; omega, by rw [SU.out]; congr 1; omega, by first | rfl | trivial⟩
          case measure => simp [intOf]; omega
        · rw [if_neg hm] at CS
          have E := Lib.hid (HQ.out (by have := SU.out; have := TL.out; omega))
          go_wp2_with fail
          refine CS.out.mono ?_
          rintro e w' ⟨rfl, rfl⟩
          go_wp2
          go_ret
          exact ⟨by rw [E.out]; rfl, rfl⟩
      · obtain rfl : k = t.length := by omega
        have E := Lib.hid (show L - (tszTo t t.length : Int) = r from HP.out (by unfold tsz; omega))
        clear hp
        go_wp2
        go_ret
        exact ⟨by rw [← E.out]; rfl, rfl⟩
  · have hl' : L - (t.length : Int) < 0 := by omega
    have E := Lib.hid (HQ.out (by have := HLT.out; omega))
    go_enter Try.func48, Try.ntmps48
    go_wp2
    go_ret
    exact ⟨by rw [E.out]; rfl, rfl⟩

theorem szInt64SS_left (v : Value) (t : List (List Int)) (L : Int) (w : World) (hs : TabOf w v t) (hr : ∀ zs ∈ t, zs.length ≤ maxLen) (hn : t.length ≤ maxLen) (h0 : 0 ≤ L) (h1 : L ≤ 1048576) :
    Calls Try.prog 48 #[v, .int .i64 L] w fun e w' => e = .returned (.int .i64 (if (tsz t : Int) ≤ L then L - (tsz t : Int) else -1)) ∧ w = w' :=
  szInt64SS_r _ v t L w hs hr hn h0 h1 (fun h => (if_pos h).symm) (fun h => if_neg (by omega))

/-- Block g is a row of n tables' rows, the first k of which are copied. -/
def TRowK (w : World) (lo g : Nat) (t : List (List Int)) (k n : Nat) : Prop :=
  ∃ cs : Array Value, w.heap[g]? = some (.cells cs 24 (0, 0)) ∧ cs.size = n ∧ ∀ (i : Nat) (hi : i < t.length), i < k → ∃ gi, cs[i]? = some (.slice (some ⟨gi, 0, none⟩) t[i].length t[i].length) ∧ lo < gi ∧ IRow .i64 2 w gi t[i]
theorem TRowK.lt {w : World} {lo g k n : Nat} {t : List (List Int)} (h : TRowK w lo g t k n) : g < w.heap.size := by
  obtain ⟨cs, h, _⟩ := h
  exact (Array.getElem?_eq_some_iff.1 h).1
theorem TRowK.cell {w : World} {lo g k n : Nat} {t : List (List Int)} (h : TRowK w lo g t k n) (i : Nat) (hi : i < n) : ∃ u, w.cell? ⟨g, i, none⟩ = some u := by
  obtain ⟨cs, h, h2, _⟩ := h
  rw [cell_of_row w g _ cs _ _ h]
  exact ⟨cs[i]'(by omega), Array.getElem?_eq_getElem (by omega)⟩
theorem TRowK.frozen {w : World} {lo g k n : Nat} {t : List (List Int)} (h : TRowK w lo g t k n) (o : Nat) : w.frozen? ⟨g, o, none⟩ = false := by
  obtain ⟨cs, h, _⟩ := h
  exact frozen_of_row w g _ cs _ h
theorem TRowK.below {w w' : World} {lo g k n : Nat} {t : List (List Int)} (h : TRowK w lo g t k n) (hb : Below w.heap.size w w') : TRowK w' lo g t k n := by
  obtain ⟨cs, h1, h2, h3⟩ := h
  refine ⟨cs, (hb.block g (Array.getElem?_eq_some_iff.1 h1).1).trans h1, h2, fun i hi hk => ?_⟩
  obtain ⟨gi, e1, e2, e3⟩ := h3 i hi hk
  exact ⟨gi, e1, e2, IRowK.below e3 hb (IRowK.lt e3)⟩
theorem TRowK.step {w : World} {lo g k n gi : Nat} {t : List (List Int)} (h : TRowK w lo g t k n) (hk : k < t.length) (hn : k < n) (hlo : lo = g) (hgi : lo < gi) (hr : IRow .i64 2 w gi t[k]) : TRowK (w.setCell ⟨g, k, none⟩ (.slice (some ⟨gi, 0, none⟩) t[k].length t[k].length)) lo g t (k + 1) n := by
  obtain ⟨cs, h1, h2, h3⟩ := h
  refine ⟨_, heap_setCell_same _ _ _ _ _ _ h1, by simpa using h2, fun i hi hik => ?_⟩
  by_cases e : i = k
  · subst e
    refine ⟨gi, ?_, hgi, IRowK.far hr (by show gi ≠ g; omega)⟩
    simp [h2, hn]
  · obtain ⟨gj, e1, e2, e3⟩ := h3 i hi (by omega)
    refine ⟨gj, ?_, e2, IRowK.far e3 (by show gj ≠ g; omega)⟩
    rw [Array.getElem?_setIfInBounds, if_neg (by omega)]
    exact e1
theorem TRowK.tab {w : World} {lo g n : Nat} {t : List (List Int)} (h : TRowK w lo g t t.length n) (c : Nat) : TabOf w (.slice (some ⟨g, 0, none⟩) t.length c) t := by
  refine ⟨_, c, rfl, fun _ => ⟨g, 0, rfl, h.lt, fun i hi => ?_⟩⟩
  obtain ⟨cs, h1, h2, h3⟩ := h
  obtain ⟨gi, e1, e2, e3⟩ := h3 i hi hi
  refine ⟨_, ?_, IRow.slice e3⟩
  rw [cell_of_row w g _ cs _ _ h1, Nat.zero_add]
  exact e1
theorem infoRow64 : (Try.prog.info? 24).map (fun i => (i.zero, i.size, i.bytes)) = some (some (.slice none 0 0), 1, 24) := by kernel_rfl

set_option maxHeartbeats 2000000 in
theorem toInt64SS_any (v : Value) (t : List (List Int)) (w : World) (hs : TabOf w v t) (hn : tsz t ≤ 1048576) :
    Calls Try.prog 50 #[v] w fun e w' => ∃ g, e = .returned (.slice (some ⟨g, 0, none⟩) t.length t.length) ∧ TabOf w' (.slice (some ⟨g, 0, none⟩) t.length t.length) t ∧ Below w.heap.size w w' := by
  have HT := Lib.hid hs
  obtain ⟨A, c, rfl, hs⟩ := hs
  have hlen := tsz_len t
  obtain ⟨i0, hi, hz0, hz1, hz2⟩ := info_parts infoRow64
  have hmk := fun W => run_make_rowN (P := Try.prog) 50 24 i0 _ Try.underlying50 hi hz0 .i64 .i64 t.length t.length (Nat.le_refl _) (by rw [hz2]; omega) (by omega) W
  rw [hz1, Nat.mul_one] at hmk
  have HM := Lib.hid (show TRowK (w.alloc (.cells (madeCells (Value.slice none 0 0).cells t.length) 24)) w.heap.size w.heap.size t 0 t.length from ⟨_, heap_alloc_new w _, size_madeCells _ _, fun _ _ h => absurd h (Nat.not_lt_zero _)⟩)
  have HR := Lib.hid (fun k (h : k < t.length) => Nat.le_trans (tsz_row h) hn)
  clear hi hz0 hz1 hz2 hs
  go_enter Try.func50, Try.ntmps50
  go_wp2
  go_loopw [4] (fun i wr => ∃ k : Nat, k ≤ t.length ∧ i = .int .i64 k ∧ TRowK wr w.heap.size w.heap.size t k t.length ∧ Below w.heap.size w wr) (fun i _ => t.length - (intOf i).toNat)
  case atStart => exact ⟨0, Nat.zero_le _, rfl, HM.out, (Below.refl _ _).alloc (Nat.le_refl _) _⟩
  case round =>
    obtain ⟨k, hk, rfl, hrow, hb⟩ := hrel
    have HW := Lib.hid hrow
    clear hrow
    by_cases hlt : k < t.length
    · obtain ⟨A', c', e, hh⟩ := HT.out.below hb
      cases e
      obtain ⟨g, o, rfl, hg, hat⟩ := hh (by omega)
      obtain ⟨u, hu, hz⟩ := hat k hlt
      have HZ := Lib.hid hz
      obtain ⟨Ak, ck, rfl, -⟩ := hz
      clear hat hh
      go_wp2_with fail
      refine (toInt64S_any _ t[k] wr HZ.out (HR.out k hlt)).mono ?_
      rintro e w1 ⟨gk, rfl, hgk, hrk, h1⟩
      have W1 := Lib.hid (HW.out.below h1)
      have RK := Lib.hid hrk
      have hlo : w.heap.size < gk := by have := HW.out.lt; omega
      have B1 := Lib.hid (bnext hb h1)
      obtain ⟨u0, q0⟩ := W1.out.cell k hlt
      have fz := W1.out.frozen
      clear hrk hu
      go_wp2
      go_roundw
      case rel => exact ⟨k + 1, by omega, by go_num, W1.out.step hlt hlt rfl hlo RK.out, B1.out.setCell (p := ⟨w.heap.size, k, none⟩) (Nat.le_refl _) _⟩
      case measure => simp [intOf]; omega
    · obtain rfl : k = t.length := by omega
      go_wp2
      go_ret
      exact ⟨_, rfl, HW.out.tab _, hb⟩

set_option maxHeartbeats 2000000 in
theorem eqInt64SS_same (v1 v2 : Value) (t : List (List Int)) (w : World) (hs1 : TabOf w v1 t) (hs2 : TabOf w v2 t) (hr : ∀ zs ∈ t, zs.length ≤ maxLen) (hn : t.length ≤ maxLen) :
    Calls Try.prog 39 #[v1, v2] w fun e w' => e = .returned (.bool true) ∧ Below w.heap.size w w' := by
  have H1 := Lib.hid hs1
  have H2 := Lib.hid hs2
  have HR := Lib.hid hr
  obtain ⟨A1, c1, rfl, -⟩ := hs1
  obtain ⟨A2, c2, rfl, -⟩ := hs2
  unfold maxLen at hn
  clear hr
  go_enter Try.func39, Try.ntmps39
  go_wp2
  go_loopw [5] (fun i wr => ∃ k : Nat, k ≤ t.length ∧ i = .int .i64 k ∧ Below w.heap.size w wr) (fun i _ => t.length - (intOf i).toNat)
  case atStart => exact ⟨0, Nat.zero_le _, rfl, Below.refl _ _⟩
  case round =>
    obtain ⟨k, hk, rfl, hb⟩ := hrel
    by_cases hlt : k < t.length
    · obtain ⟨A', c', e, hh⟩ := H1.out.below hb
      cases e
      obtain ⟨g1, o1, rfl, hg1, hat1⟩ := hh (by omega)
      obtain ⟨u1, hu1, hz1⟩ := hat1 k hlt
      obtain ⟨A'', c'', e, hh2⟩ := H2.out.below hb
      cases e
      obtain ⟨g2, o2, rfl, hg2, hat2⟩ := hh2 (by omega)
      obtain ⟨u2, hu2, hz2⟩ := hat2 k hlt
      have Z1 := Lib.hid hz1
      have Z2 := Lib.hid hz2
      have CE := Lib.hid (fun (p : BelowBy wr) => eqInt64S_same' u1 u2 t[k] p.W (Z1.out.below p.h) (Z2.out.below p.h) (HR.out _ (List.getElem_mem hlt)))
      have p0 := belowBy_cell hg1 hu1
      have q0 := belowBy_cell hg2 hu2
      clear hat1 hat2 hh hh2 hz1 hz2 hu1 hu2
      go_wp2
      refine wp_region_below (by kernel_rfl) (by kernel_rfl) ?_
      repeat (first | go_big_quiet_step ((go_at_call 19; exact calls_below (CE.out _))) | quiet_step ((go_at_call 19; exact calls_below (CE.out _))))
      refine wpQuiet_nil ?_
      rintro wq ⟨⟨_, hq⟩, rfl⟩
      clear p0 q0
      go_wp2
      go_roundw
      case rel => exact ⟨k + 1, by omega, by go_num, bnext hb hq⟩
      case measure => simp [intOf]; omega
    · obtain rfl : k = t.length := by omega
      go_wp2
      go_ret
      exact ⟨rfl, hb⟩

end Go.Proofs.Ytonclaakaaidlaa
