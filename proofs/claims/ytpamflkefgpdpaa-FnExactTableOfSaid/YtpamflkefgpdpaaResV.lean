/- Tables of numbers as results, in blocks of their own (at most thirteen rows of 61); marks in them: contracts. Condition: few short rows. -/
import Derived.Test.YtpamflkefgpdpaaTabE
import Derived.Test.YtpamflkefgpdpaaOwnsI
import Derived.Test.YtpamflkefgpdpaaOwn
namespace Go.Proofs.Ytpamflkefgpdpaa
set_option linter.unusedSimpArgs false
set_option linter.unusedVariables false
set_option maxRecDepth 100000
open Go.RowKit

def DjG (a b : Value) : Prop := ∀ k, a.ownBlock = some k → b.ownBlock ≠ some k
theorem DjG.symm {a b : Value} (h : DjG a b) : DjG b a := fun k hk e => h k e hk
/-- A value's block lies apart from a list's and from all its parts'. -/
def Apart (u o : Value) (vs : List Value) : Prop := DjG u o ∧ ∀ (i : Nat) (v : Value), vs[i]? = some v → DjG u v
/-- A list that grows of lists of numbers, all in blocks of their own. -/
def TL (w : World) (base : Nat) (o : Value) (vs : List Value) (gr : Nat → List Int) : Prop :=
  w.ownsRow base 22 1 o vs.length vs ∧ (∀ (i : Nat) (v : Value), vs[i]? = some v → w.ownsRow base 2 1 v (gr i).length ((gr i).map (Value.int .i64))) ∧
    (∀ (i j : Nat) (v v' : Value), i ≠ j → vs[i]? = some v → vs[j]? = some v' → DjG v v') ∧ ∀ (i : Nat) (v : Value), vs[i]? = some v → DjG o v
section
variable {w w' : World} {base : Nat} {o u : Value} {vs : List Value} {gr : Nat → List Int}
theorem TL.below (h : TL w base o vs gr) (hb : Below w.heap.size w w') : TL w' base o vs gr := ⟨ownBelow h.1 hb, fun i v hv => ownBelow (h.2.1 i v hv) hb, h.2.2⟩
theorem TL.grown (h : TL w base o vs gr) (hg : w.grownBy w' u.ownBlock) (ap : Apart u o vs) : TL w' base o vs gr :=
  ⟨ownOther h.1 hg (fun k hk e => ap.1 k e.symm hk), fun i v hv => ownOther (h.2.1 i v hv) hg (fun k hk e => ap.2 i v hv k e.symm hk), h.2.2⟩
theorem TL.fresh (h : TL w base o vs gr) {u' : Value} {H : Nat} (hb : u'.ownBlock = some H) (hH : w.heap.size ≤ H) : Apart u' o vs := by
  constructor
  · intro k hk e
    rw [hb] at hk
    injection hk with hk
    have := (h.1.lt k e).2
    omega
  · intro i v hv k hk e
    rw [hb] at hk
    injection hk with hk
    have := ((h.2.1 i v hv).lt k e).2
    omega
theorem Apart.same (ap : Apart u o vs) {u' : Value} (hb : u'.ownBlock = u.ownBlock) : Apart u' o vs := ⟨fun k hk => ap.1 k (hb ▸ hk), fun i v hv k hk => ap.2 i v hv k (hb ▸ hk)⟩
theorem TL.push {o' : Value} (h : TL w base o vs gr) (hu : w.ownsRow base 2 1 u (gr vs.length).length ((gr vs.length).map (Value.int .i64))) (ap : Apart u o vs)
    (ho : w'.ownsRow base 22 1 o' (vs ++ [u]).length (vs ++ [u])) (hg : w.grownBy w' o.ownBlock) (hb : o'.ownBlock = o.ownBlock ∨ ∃ H, o'.ownBlock = some H ∧ w.heap.size ≤ H) : TL w' base o' (vs ++ [u]) gr := by
  have at_ : ∀ (i : Nat) (v : Value), (vs ++ [u])[i]? = some v → vs[i]? = some v ∨ (i = vs.length ∧ v = u) := by
    intro i v hv
    rcases Nat.lt_or_ge i vs.length with hi | hi
    · rw [List.getElem?_append_left hi] at hv; exact .inl hv
    · rw [List.getElem?_append_right hi] at hv
      have h0 : i - vs.length = 0 := by
        have := (List.getElem?_eq_some_iff.1 hv).1
        simpa using this
      rw [h0] at hv
      exact .inr ⟨by omega, by simpa using hv.symm⟩
  have far : ∀ (v : Value), (∃ i : Nat, vs[i]? = some v) ∨ v = u → DjG o' v := by
    intro v hv k hk e
    rcases hb with hb | ⟨H, hb, hH⟩
    · rw [hb] at hk
      rcases hv with ⟨i, hv⟩ | rfl
      · exact h.2.2.2 i v hv k hk e
      · exact ap.1 k e hk
    · rw [hb] at hk
      injection hk with hk
      rcases hv with ⟨i, hv⟩ | rfl
      · have := ((h.2.1 i v hv).lt k e).2; omega
      · have := (hu.lt k e).2; omega
  refine ⟨ho, fun i v hv => ?_, fun i j v v' hij hv hv' => ?_, fun i v hv => ?_⟩
  · rcases at_ i v hv with hv | ⟨rfl, rfl⟩
    · exact ownOther (h.2.1 i v hv) hg (fun k hk e => h.2.2.2 i v hv k e.symm hk)
    · exact ownOther hu hg (fun k hk e => ap.1 k hk e.symm)
  · rcases at_ i v hv with hv2 | ⟨rfl, rfl⟩
    · rcases at_ j v' hv' with hv2' | ⟨rfl, rfl⟩
      · exact h.2.2.1 i j v v' hij hv2 hv2'
      · exact (ap.2 i v hv2).symm
    · rcases at_ j v' hv' with hv2' | ⟨rfl, rfl⟩
      · exact ap.2 j v' hv2'
      · exact absurd rfl hij
  · rcases at_ i v hv with hv | ⟨rfl, rfl⟩
    · exact far v (.inl ⟨i, hv⟩)
    · exact far v (.inr rfl)
end


theorem own_at {w : World} {base : Nat} {t : TypeId} {v : Value} {l : List Int} (h : w.ownsRow base t 1 v l.length (l.map (Value.int .i64))) (h0 : 0 < l.length) : ∃ g c, v = .slice (some ⟨g, 0, none⟩) l.length c ∧ g < w.heap.size ∧ ∀ (k : Nat) (hk : k < l.length), w.cell? ⟨g, k, none⟩ = some (.int .i64 l[k]) := by
  obtain ⟨A, c, e, hf⟩ := ownInts h
  rcases h.2 with ⟨_, h1⟩ | ⟨g, cap, cur, rfl, _⟩
  · omega
  · obtain ⟨g', o', hA, hg, hat⟩ := hf h0
    injection e with e1 e2 e3
    rw [← e1] at hA
    injection hA with hA
    injection hA with q1 q2
    subst q1 q2
    refine ⟨g, cap, rfl, hg, fun k hk => ?_⟩
    have := hat k hk
    rwa [Nat.zero_add] at this
theorem TL.outer {w : World} {base : Nat} {o : Value} {vs : List Value} {gr : Nat → List Int} (h : TL w base o vs gr) (h0 : 0 < vs.length) : ∃ g c, o = .slice (some ⟨g, 0, none⟩) vs.length c ∧ g < w.heap.size ∧ ∀ (i : Nat) (hi : i < vs.length), w.cell? ⟨g, i, none⟩ = some vs[i] := by
  have h1 := h.1
  rcases h1.2 with ⟨_, h2⟩ | ⟨g, cap, cur, rfl, _, hg, _, _, hs, ht⟩
  · omega
  · refine ⟨g, cap, rfl, (Array.getElem?_eq_some_iff.1 hg).1, fun i hi => ?_⟩
    rw [cell_of_row w g i cur _ _ hg]
    have e : vs[i]? = some vs[i] := List.getElem?_eq_getElem hi
    obtain ⟨x, hx⟩ : ∃ x, vs[i] = x := ⟨_, rfl⟩
    rw [hx] at e ⊢
    rw [← ht, List.getElem?_take, if_pos (by omega), Array.getElem?_toList] at e
    exact e
theorem TL.get {w : World} {base : Nat} {o : Value} {vs : List Value} {gr : Nat → List Int} (h : TL w base o vs gr) {i : Nat} (hi : i < vs.length) : w.ownsRow base 2 1 vs[i] (gr i).length ((gr i).map (Value.int .i64)) := h.2.1 i _ (List.getElem?_eq_getElem hi)
theorem TL.congr {w : World} {base : Nat} {o : Value} {vs : List Value} {gr gr' : Nat → List Int} (h : TL w base o vs gr) (he : ∀ i, i < vs.length → gr i = gr' i) : TL w base o vs gr' :=
  ⟨h.1, fun i v hv => by rw [← he i (List.getElem?_eq_some_iff.1 hv).1]; exact h.2.1 i v hv, h.2.2⟩
theorem TL.mark {w w' : World} {base : Nat} {o : Value} {vs : List Value} {gr : Nat → List Int} (h : TL w base o vs gr) {j : Nat} (hj : j < vs.length) (z : List Int) (hg : w.grownBy w' vs[j].ownBlock) (hn : w'.ownsRow base 2 1 vs[j] z.length (z.map (Value.int .i64))) :
    TL w' base o vs (fun i => if i = j then z else gr i) := by
  have hvj : vs[j]? = some vs[j] := List.getElem?_eq_getElem hj
  refine ⟨ownOther h.1 hg (fun k hk e => h.2.2.2 j _ hvj k hk e.symm), fun i v hv => ?_, h.2.2⟩
  by_cases e : i = j
  · subst e
    rw [hvj] at hv
    injection hv with hv
    subst hv
    simp only [if_pos]
    exact hn
  · simp only [if_neg e]
    exact ownOther (h.2.1 i v hv) hg (fun k hk e2 => h.2.2.1 i j v _ e hv hvj k hk e2.symm)
/-- A table in blocks from lo on, below hi. -/
def ResT (w : World) (lo hi : Nat) (o : Value) (t : List (List Int)) : Prop :=
  ∃ vs : List Value, vs.length = t.length ∧ TL w lo o vs (fun i => t.getD i []) ∧ (∀ k, o.ownBlock = some k → k < hi) ∧ ∀ (i : Nat) (v : Value), vs[i]? = some v → ∀ k, v.ownBlock = some k → k < hi
section
variable {w w' : World} {lo hi : Nat} {o : Value} {t : List (List Int)}
theorem ResT.form (h : ResT w lo hi o t) : ∃ A c, o = .slice A t.length c := by
  obtain ⟨vs, hl, htl, _⟩ := h
  obtain ⟨A, c, e⟩ := vlen_own1 htl.1
  exact ⟨A, c, by rw [e, hl]⟩
theorem ResT.of {vs : List Value} {gr : Nat → List Int} (hl : vs.length = t.length) (h : TL w lo o vs gr) (he : ∀ i, i < t.length → gr i = t.getD i []) : ResT w lo w.heap.size o t :=
  ⟨vs, hl, h.congr (fun i hi => he i (by omega)), fun k hk => (h.1.lt k hk).2, fun i v hv k hk => ((h.2.1 i v hv).lt k hk).2⟩
theorem ResT.tab (h : ResT w lo hi o t) : TabOf w o t := by
  obtain ⟨vs, hl, htl, _⟩ := h
  obtain ⟨A, c, rfl⟩ := vlen_own1 htl.1
  refine ⟨A, c, by rw [hl], fun h0 => ?_⟩
  obtain ⟨g, c2, eo, hg, hc⟩ := htl.outer (by omega)
  injection eo with q1 q2 q3
  refine ⟨g, 0, q1, hg, fun i hi => ⟨vs[i]'(by omega), by rw [Nat.zero_add]; exact hc i (by omega), ?_⟩⟩
  have h2 := ownInts (htl.get (i := i) (by omega))
  rw [List.getD_eq_getElem?_getD, List.getElem?_eq_getElem hi] at h2
  exact h2
theorem ResT.below (h : ResT w lo hi o t) (hb : Below w.heap.size w w') : ResT w' lo hi o t := by
  obtain ⟨vs, hl, htl, h2⟩ := h
  exact ⟨vs, hl, htl.below hb, h2⟩
theorem ResT.other (h : ResT w lo hi o t) {r : Option Nat} (hg : w.grownBy w' r) (hr : ∀ k, r = some k → k < lo ∨ hi ≤ k) : ResT w' lo hi o t := by
  obtain ⟨vs, hl, htl, h3, h4⟩ := h
  refine ⟨vs, hl, ⟨ownOther htl.1 hg (fun k hk e => ?_), fun i v hv => ownOther (htl.2.1 i v hv) hg (fun k hk e => ?_), htl.2.2⟩, h3, h4⟩
  · have h5 := htl.1.lt k hk
    have h6 := h3 k hk
    rcases hr k e.symm with h7 | h7 <;> omega
  · have h5 := (htl.2.1 i v hv).lt k hk
    have h6 := h4 i v hv k hk
    rcases hr k e.symm with h7 | h7 <;> omega
theorem own_keep {w w' : World} {base B : Nat} {ty : TypeId} {v : Value} {n : Nat} {l : List Value} (h : w.ownsRow base ty 1 v n l) (hb : Below B w w') (hlt : ∀ k, v.ownBlock = some k → k < B) : w'.ownsRow base ty 1 v n l := by
  refine ⟨h.1, ?_⟩
  rcases h.2 with h2 | ⟨g, cap, cur, rfl, h3, h4, h5⟩
  · exact .inl h2
  · exact .inr ⟨g, cap, cur, rfl, h3, (hb.block g (hlt g rfl)).trans h4, h5⟩
theorem ResT.keep (h : ResT w lo hi o t) {B : Nat} (hb : Below B w w') (hB : hi ≤ B) : ResT w' lo hi o t := by
  obtain ⟨vs, hl, htl, h3, h4⟩ := h
  exact ⟨vs, hl, ⟨own_keep htl.1 hb (fun k hk => Nat.lt_of_lt_of_le (h3 k hk) hB), fun i v hv => own_keep (htl.2.1 i v hv) hb (fun k hk => Nat.lt_of_lt_of_le (h4 i v hv k hk) hB), htl.2.2⟩, h3, h4⟩
end
theorem resT_nil (w : World) (lo : Nat) : ResT w lo w.heap.size (.slice none 0 0) [] :=
  ResT.of (vs := []) (gr := fun _ => []) rfl ⟨⟨rfl, .inl ⟨rfl, rfl⟩⟩, fun i v hv => by simp at hv, fun i j v v' _ hv => by simp at hv, fun i v hv => by simp at hv⟩ (fun i hi => absurd hi (Nat.not_lt_zero _))
theorem resT_empty (w : World) (lo : Nat) (h : lo ≤ w.heap.size) : ResT (w.alloc (.cells #[] 22)) lo (w.alloc (.cells #[] 22)).heap.size (.slice (some ⟨w.heap.size, 0, none⟩) 0 0) [] :=
  ResT.of (vs := []) (gr := fun _ => []) rfl ⟨⟨rfl, .inr ⟨w.heap.size, 0, #[], rfl, h, heap_alloc_new w _, Nat.le_refl _, Nat.zero_le _, rfl, rfl⟩⟩, fun i v hv => by simp at hv, fun i j v v' _ hv => by simp at hv, fun i v hv => by simp at hv⟩ (fun i hi => absurd hi (Nat.not_lt_zero _))

def TBd (t : List (List Int)) : Prop := t.length ≤ 13 ∧ ∀ i, (t.getD i []).length ≤ 61
theorem TBd.len {t : List (List Int)} (h : TBd t) : t.length ≤ maxLen := Nat.le_trans h.1 (by unfold maxLen; omega)
theorem TBd.row {t : List (List Int)} (h : TBd t) : ∀ zs ∈ t, zs.length ≤ maxLen := by
  intro zs hz
  obtain ⟨i, hi, rfl⟩ := List.getElem_of_mem hz
  have h2 := h.2 i
  rw [List.getD_eq_getElem?_getD, List.getElem?_eq_getElem hi] at h2
  simp only [Option.getD_some] at h2
  exact Nat.le_trans h2 (by unfold maxLen; omega)
def offT (t : List (List Int)) : Nat → Nat
  | 0 => 0
  | i + 1 => offT t i + (t.getD i []).length
theorem offT_bd {t : List (List Int)} (h : TBd t) : ∀ i, offT t i ≤ 61 * i
  | 0 => Nat.le_refl _
  | i + 1 => by have := offT_bd h i; have := h.2 i; rw [offT]; omega
def mkTTo (t : List (List Int)) (j : Nat) : List (List Int) := (List.range t.length).map fun i => if i < j then mks (1 + (offT t i : Int)) (t.getD i []) else t.getD i []
def mkT (t : List (List Int)) : List (List Int) := mkTTo t t.length
theorem mkTTo_length (t : List (List Int)) (j : Nat) : (mkTTo t j).length = t.length := by simp [mkTTo]
theorem mkTTo_getD (t : List (List Int)) (j i : Nat) (hi : i < t.length) : (mkTTo t j).getD i [] = if i < j then mks (1 + (offT t i : Int)) (t.getD i []) else t.getD i [] := by
  rw [List.getD_eq_getElem?_getD, List.getElem?_eq_getElem (by rw [mkTTo_length]; exact hi)]
  simp only [mkTTo, List.getElem_map, List.getElem_range, Option.getD_some]
theorem mkTTo_zero (t : List (List Int)) (i : Nat) (hi : i < t.length) : t.getD i [] = (mkTTo t 0).getD i [] := by
  rw [mkTTo_getD t 0 i hi, if_neg (Nat.not_lt_zero _)]
theorem mkTTo_succ (t : List (List Int)) (j i : Nat) (hi : i < t.length) : (if i = j then mks (1 + (offT t j : Int)) (t.getD j []) else (mkTTo t j).getD i []) = (mkTTo t (j + 1)).getD i [] := by
  rw [mkTTo_getD t (j + 1) i hi, mkTTo_getD t j i hi]
  by_cases e : i = j
  · subst e
    rw [if_pos rfl, if_pos (by omega)]
  · rw [if_neg e]
    by_cases h : i < j
    · rw [if_pos h, if_pos (by omega)]
    · rw [if_neg h, if_neg (by omega)]

set_option maxHeartbeats 4000000 in
theorem markT_any (o : Value) (t : List (List Int)) (lo hi : Nat) (w : World) (bd : TBd t) (h : ResT w lo hi o t) (hlo : lo ≤ w.heap.size) :
    Calls Try.prog 28 #[o, .int .i64 1] w fun e w' => e = .returned (.int .i64 (1 + (offT t t.length : Int))) ∧ ResT w' lo hi o (mkT t) ∧ Below lo w w' := by
  obtain ⟨A, c, rfl⟩ := h.form
  obtain ⟨vs, hl, htl, h3, h4⟩ := h
  have H3 := Lib.hid h3
  have H4 := Lib.hid h4
  have VL := Lib.hid hl
  have OB := Lib.hid (offT_bd bd)
  have RB := Lib.hid bd.2
  have b6 := bd.1
  have T0 := Lib.hid (htl.congr (gr' := fun i => (mkTTo t 0).getD i []) (fun i hi => mkTTo_zero t i (by omega)))
  have MS := Lib.hid (mkTTo_succ t)
  have ML := Lib.hid (mkTTo_length t t.length)
  clear h3 h4 htl hl bd
  go_enter Try.func28, Try.ntmps28
  go_wp2
  go_loopw [1, 5] (fun x i wr => ∃ j : Nat, j ≤ t.length ∧ i = .int .i64 (j : Int) ∧ x = .int .i64 (1 + (offT t j : Int)) ∧ TL wr lo (.slice A t.length c) vs (fun i => (mkTTo t j).getD i []) ∧ Below lo w wr) (fun _ i _ => t.length - (intOf i).toNat)
  case atStart => exact ⟨0, Nat.zero_le _, rfl, rfl, T0.out, Below.refl _ _⟩
  case round =>
    obtain ⟨j, hj, rfl, rfl, ht, hb⟩ := hrel
    have HT := Lib.hid ht
    have HB := Lib.hid hb
    have zr := hb.size
    clear ht hb
    by_cases hlt : j < t.length
    · have hjv : j < vs.length := by have := VL.out; omega
      obtain ⟨g, c2, eo, hg, hco⟩ := HT.out.outer (by omega)
      obtain ⟨rfl, rfl⟩ : A = some ⟨g, 0, none⟩ ∧ c = c2 := by injection eo with q1 q2 q3; exact ⟨q1, q3⟩
      have c1 := hco j hjv
      have RW := Lib.hid (show wr.ownsRow lo 2 1 vs[j] (t.getD j []).length ((t.getD j []).map (Value.int .i64)) by
        have h := HT.out.get hjv
        rw [mkTTo_getD t j j hlt, if_neg (Nat.lt_irrefl _)] at h
        exact h)
      have rb := RB.out j
      have ob := OB.out j
      have SO := Lib.hid (show (1 + (offT t (j + 1) : Int)) = 1 + (offT t j : Int) + ((t.getD j []).length : Int) by rw [offT]; omega)
      obtain ⟨l, hl⟩ : ∃ l, t.getD j [] = l := ⟨_, rfl⟩
      have MSJ := Lib.hid (fun i hi => MS.out j i hi)
      rw [hl] at RW rb SO MSJ
      obtain ⟨vj, hvj⟩ : ∃ vj, vs[j] = vj := ⟨_, rfl⟩
      have HVJ := Lib.hid hvj
      rw [hvj] at c1 RW
      obtain ⟨q, hq⟩ : ∃ q : Int, 1 + (offT t j : Int) = q := ⟨_, rfl⟩
      have q0 : 0 ≤ q := by omega
      have q1 : q ≤ 1000 := by omega
      have QE := Lib.hid hq
      rw [hq] at SO MSJ ⊢
      obtain ⟨Aj, cj, rfl⟩ := vlen_own1 RW.out
      clear hl hvj hco eo hq
      go_wp2_with fail
      refine (markI64_any _ l q lo wr (by omega) q0 (by omega) RW.out).mono ?_
      rintro e w1 ⟨rfl, hn, hg1⟩
      have T1 := Lib.hid ((HT.out.mark hjv (mks q l) (by rw [HVJ.out]; exact hg1) (by rw [HVJ.out]; exact hn)).congr (gr' := fun i => (mkTTo t (j + 1)).getD i []) (fun i hi => MSJ.out i (by have := VL.out; omega)))
      have B1 := Lib.hid (HB.out.grown hg1 (by omega) (fun k hk => (RW.out.lt k hk).1))
      clear hn hg1 c1
      go_wp2
      go_roundw
      case rel => exact ⟨j + 1, by omega, by go_num, by rw [SO.out], T1.out, B1.out⟩
      case measure => simp [intOf]; omega
    · obtain rfl : j = t.length := by omega
      go_wp2
      go_ret
      exact ⟨rfl, ⟨vs, by rw [VL.out]; exact ML.out.symm, HT.out, H3.out, H4.out⟩, HB.out⟩

set_option maxHeartbeats 4000000 in
theorem heldT_any (o : Value) (t : List (List Int)) (w : World) (bd : TBd t) (h : TabOf w o (mkT t)) :
    Calls Try.prog 29 #[o, .int .i64 1] w fun e w' => e = .returned (.int .i64 (1 + (offT t t.length : Int))) ∧ Below w.heap.size w w' := by
  have ML : (mkT t).length = t.length := mkTTo_length t t.length
  have HT := Lib.hid h
  obtain ⟨A, c, rfl, -⟩ := h
  have OB := Lib.hid (offT_bd bd)
  have RB := Lib.hid bd.2
  have b6 := bd.1
  have LM := Lib.hid ML
  rw [ML] at HT ⊢
  clear bd ML
  go_enter Try.func29, Try.ntmps29
  go_wp2
  go_loopw [1, 5] (fun x i wr => ∃ j : Nat, j ≤ t.length ∧ i = .int .i64 (j : Int) ∧ x = .int .i64 (1 + (offT t j : Int)) ∧ Below w.heap.size w wr) (fun _ i _ => t.length - (intOf i).toNat)
  case atStart => exact ⟨0, Nat.zero_le _, rfl, rfl, Below.refl _ _⟩
  case round =>
    obtain ⟨j, hj, rfl, rfl, hb⟩ := hrel
    have HB := Lib.hid hb
    by_cases hlt : j < t.length
    · obtain ⟨A', c', e, hh⟩ := HT.out.below hb
      obtain ⟨rfl, rfl⟩ : A = A' ∧ c = c' := by injection e with q1 q2 q3; exact ⟨q1, q3⟩
      obtain ⟨g1, o1, rfl, hg1, hat1⟩ := hh (by have := LM.out; omega)
      obtain ⟨u1, hu1, hz1⟩ := hat1 j (by have := LM.out; omega)
      have Z1 := Lib.hid (show IntsOf .i64 wr u1 (mks (1 + (offT t j : Int)) (t.getD j [])) by
        have e : (mkT t)[j]'(by have := LM.out; omega) = mks (1 + (offT t j : Int)) (t.getD j []) := by
          have e2 := mkTTo_getD t t.length j hlt
          rw [if_pos hlt, List.getD_eq_getElem?_getD, List.getElem?_eq_getElem (by rw [mkTTo_length]; exact hlt)] at e2
          exact e2
        rw [← e]
        exact hz1)
      have rb := RB.out j
      have ob := OB.out j
      have SO := Lib.hid (show (1 + (offT t (j + 1) : Int)) = 1 + (offT t j : Int) + ((t.getD j []).length : Int) by rw [offT]; omega)
      obtain ⟨l, hl⟩ : ∃ l, t.getD j [] = l := ⟨_, rfl⟩
      rw [hl] at Z1 rb SO
      obtain ⟨q, hq⟩ : ∃ q : Int, 1 + (offT t j : Int) = q := ⟨_, rfl⟩
      have q0 : 0 ≤ q := by omega
      have q1 : q ≤ 1000 := by omega
      rw [hq] at SO Z1 ⊢
      clear hl hh hat1 hz1 hq e hb
      go_wp2_with fail
      refine (heldI64_any u1 l q wr (by omega) q0 (by omega) Z1.out).mono ?_
      rintro e w1 ⟨rfl, h1⟩
      have B1 := Lib.hid (bnext HB.out h1)
      have nq : ¬ (q + (l.length : Int) < 0) := by omega
      clear h1 hu1
      go_wp2
      go_roundw
      case rel => exact ⟨j + 1, by omega, by go_num, by rw [SO.out], B1.out⟩
      case measure => simp [intOf]; omega
    · obtain rfl : j = t.length := by omega
      clear hb
      go_wp2
      go_ret
      exact ⟨rfl, HB.out⟩
end Go.Proofs.Ytpamflkefgpdpaa
