/- Books put in an order: the library's stable sort and insertion from the end give one list, as plain lists. Condition: the order's fields are among the six, the books' numbers within their kinds. -/
import Derived.Test.YtecpddkbbfpeeaaStab
import Derived.Test.YtecpddkbbfpeeaaCmp
namespace Go.Proofs.Ytecpddkbbfpeeaa
set_option linter.unusedSimpArgs false
set_option linter.unusedVariables false
set_option maxRecDepth 100000
open Go.RowKit Stab

/-! ### what is done with places alone commutes with what is done to elements -/
theorem getDf_map {α β : Type} [Inhabited α] [Inhabited β] (f : α → β) (hf : f default = default) (l : List α) (i : Nat) : (l.map f).getD i default = f (l.getD i default) := by
  simp only [List.getD, List.getElem?_map]
  cases l[i]? <;> simp [hf]
theorem sw_map {α β : Type} [Inhabited α] [Inhabited β] (f : α → β) (hf : f default = default) (l : List α) (i j : Nat) : sw (l.map f) i j = (sw l i j).map f := by
  unfold sw
  rw [getDf_map f hf, getDf_map f hf, List.map_set, List.map_set]
theorem swR_map {α β : Type} [Inhabited α] [Inhabited β] (f : α → β) (hf : f default = default) (l : List α) (a b : Nat) : ∀ n, swR (l.map f) a b n = (swR l a b n).map f
  | 0 => rfl
  | n + 1 => by rw [swR, swR, swR_map f hf l a b n, sw_map f hf]
theorem rotF_map {α β : Type} [Inhabited α] [Inhabited β] (f : α → β) (hf : f default = default) : ∀ (n : Nat) (l : List α) (m i j : Nat), rotF n (l.map f) m i j = (rotF n l m i j).map f
  | 0, _, _, _, _ => rfl
  | n + 1, l, m, i, j => by
    rw [rotF, rotF]
    by_cases h1 : i = j
    · rw [if_pos h1, if_pos h1, swR_map f hf]
    · rw [if_neg h1, if_neg h1]
      by_cases h2 : j < i
      · rw [if_pos h2, if_pos h2, swR_map f hf, rotF_map f hf n]
      · rw [if_neg h2, if_neg h2, swR_map f hf, rotF_map f hf n]
theorem upF_map {α β : Type} [Inhabited α] [Inhabited β] (f : α → β) (hf : f default = default) (l : List α) (a : Nat) : ∀ n, upF (l.map f) a n = (upF l a n).map f
  | 0 => rfl
  | n + 1 => by rw [upF, upF, upF_map f hf l a n, sw_map f hf]
theorem downF_map {α β : Type} [Inhabited α] [Inhabited β] (f : α → β) (hf : f default = default) (l : List α) (a : Nat) : ∀ n, downF (l.map f) a n = (downF l a n).map f
  | 0 => rfl
  | n + 1 => by rw [downF, downF, downF_map f hf l a n, sw_map f hf]
theorem ite_map {α β : Type} {c : Prop} [Decidable c] (f : α → β) {x : List β} {y : List α} {x' : List β} {y' : List α} (h1 : x = y.map f) (h2 : x' = y'.map f) : (if c then x else x') = (if c then y else y').map f := by
  split
  · exact h1
  · exact h2
theorem symF_map {α β : Type} [Inhabited α] [Inhabited β] (f : α → β) (hf : f default = default) (lt : β → β → Bool) : ∀ (n : Nat) (l : List α) (a m b : Nat), symF lt n (l.map f) a m b = (symF (fun x y => lt (f x) (f y)) n l a m b).map f
  | 0, _, _, _, _ => rfl
  | n + 1, l, a, m, b => by
    rw [symF, symF]
    simp only [getDf_map f hf]
    refine ite_map f (upF_map f hf _ _ _) (ite_map f (downF_map f hf _ _ _) ?_)
    have h1 : ∀ (c : Prop) [Decidable c] (k i j : Nat), (if c then rotF k (l.map f) m i j else l.map f) = (if c then rotF k l m i j else l).map f := fun c _ k i j => ite_map f (rotF_map f hf _ _ _ _ _) rfl
    have h2 : ∀ (c : Prop) [Decidable c] (l1 : List α) (i j k : Nat), (if c then symF lt n (l1.map f) i j k else l1.map f) = (if c then symF (fun x y => lt (f x) (f y)) n l1 i j k else l1).map f := fun c _ l1 i j k => ite_map f (symF_map f hf lt n _ _ _ _) rfl
    rw [h1, h2, h2]
theorem insIn_map {α β : Type} [Inhabited α] [Inhabited β] (f : α → β) (hf : f default = default) (lt : β → β → Bool) : ∀ (n : Nat) (l : List α) (a j : Nat), insIn lt n (l.map f) a j = (insIn (fun x y => lt (f x) (f y)) n l a j).map f
  | 0, _, _, _ => rfl
  | n + 1, l, a, j => by
    rw [insIn, insIn]
    simp only [getDf_map f hf]
    refine ite_map f (ite_map f ?_ rfl) rfl
    rw [sw_map f hf, insIn_map f hf lt n]
theorem insOut_map {α β : Type} [Inhabited α] [Inhabited β] (f : α → β) (hf : f default = default) (lt : β → β → Bool) : ∀ (n : Nat) (l : List α) (a b i : Nat), insOut lt n (l.map f) a b i = (insOut (fun x y => lt (f x) (f y)) n l a b i).map f
  | 0, _, _, _, _ => rfl
  | n + 1, l, a, b, i => by
    rw [insOut, insOut]
    refine ite_map f ?_ rfl
    rw [insIn_map f hf, insOut_map f hf lt n]
theorem insF_map {α β : Type} [Inhabited α] [Inhabited β] (f : α → β) (hf : f default = default) (lt : β → β → Bool) (l : List α) (a b : Nat) : insF lt (l.map f) a b = (insF (fun x y => lt (f x) (f y)) l a b).map f := insOut_map f hf lt _ _ _ _ _
theorem blk1_map {α β : Type} [Inhabited α] [Inhabited β] (f : α → β) (hf : f default = default) (lt : β → β → Bool) : ∀ (n : Nat) (l : List α) (a b k : Nat), blk1 lt n (l.map f) a b k = (blk1 (fun x y => lt (f x) (f y)) n l a b k).map f
  | 0, _, _, _, _ => rfl
  | n + 1, l, a, b, k => by
    rw [blk1, blk1]
    refine ite_map f ?_ (insF_map f hf lt _ _ _)
    rw [insF_map f hf, blk1_map f hf lt n]
theorem mrg1_map {α β : Type} [Inhabited α] [Inhabited β] (f : α → β) (hf : f default = default) (lt : β → β → Bool) (bs : Nat) : ∀ (n : Nat) (l : List α) (a b k : Nat), mrg1 lt bs n (l.map f) a b k = (mrg1 (fun x y => lt (f x) (f y)) bs n l a b k).map f
  | 0, _, _, _, _ => rfl
  | n + 1, l, a, b, k => by
    rw [mrg1, mrg1]
    refine ite_map f ?_ (ite_map f (symF_map f hf lt _ _ _ _ _) rfl)
    rw [symF_map f hf, mrg1_map f hf lt bs n]
theorem mrg2_map {α β : Type} [Inhabited α] [Inhabited β] (f : α → β) (hf : f default = default) (lt : β → β → Bool) : ∀ (n : Nat) (l : List α) (b k : Nat), mrg2 lt n (l.map f) b k = (mrg2 (fun x y => lt (f x) (f y)) n l b k).map f
  | 0, _, _, _ => rfl
  | n + 1, l, b, k => by
    rw [mrg2, mrg2]
    refine ite_map f ?_ rfl
    rw [mrg1_map f hf, mrg2_map f hf lt n]
theorem stableF_map {α β : Type} [Inhabited α] [Inhabited β] (f : α → β) (hf : f default = default) (lt : β → β → Bool) (l : List α) : stableF lt (l.map f) = (stableF (fun x y => lt (f x) (f y)) l).map f := by
  unfold stableF
  rw [List.length_map, blk1_map f hf, mrg2_map f hf]

/-! ### insertion from the end -/
def posR {α : Type} [Inhabited α] (lt : α → α → Bool) (out : List α) (x : α) : Nat → Nat
  | 0 => 0
  | k + 1 => if lt x (out.getD k default) then posR lt out x k else k + 1
def insR {α : Type} [Inhabited α] (lt : α → α → Bool) (out : List α) (x : α) : List α := out.take (posR lt out x out.length) ++ x :: out.drop (posR lt out x out.length)
def insTo {α : Type} [Inhabited α] (lt : α → α → Bool) (xs : List α) : Nat → List α
  | 0 => []
  | k + 1 => insR lt (insTo lt xs k) (xs.getD k default)
theorem posR_le {α : Type} [Inhabited α] (lt : α → α → Bool) (out : List α) (x : α) : ∀ k, posR lt out x k ≤ k
  | 0 => Nat.le_refl _
  | k + 1 => by
    rw [posR]
    split
    · exact Nat.le_trans (posR_le lt out x k) (Nat.le_succ _)
    · exact Nat.le_refl _
theorem posR_ok {α : Type} [Inhabited α] (lt : α → α → Bool) (out : List α) (x : α) : ∀ k, (∀ j, posR lt out x k ≤ j → j < k → lt x (out.getD j default) = true) ∧ (∀ j, posR lt out x k = j + 1 → lt x (out.getD j default) = false)
  | 0 => ⟨fun j _ h => absurd h (Nat.not_lt_zero _), fun j h => by rw [posR] at h; omega⟩
  | k + 1 => by
    have ih := posR_ok lt out x k
    rw [posR]
    cases h : lt x (out.getD k default)
    · refine ⟨fun j h1 h2 => ?_, fun j h1 => ?_⟩
      · simp at h1; omega
      · simp at h1; subst h1; exact h
    · refine ⟨fun j h1 h2 => ?_, fun j h1 => ?_⟩
      · by_cases e : j = k
        · subst e; exact h
        · exact ih.1 j (by simpa using h1) (by omega)
      · exact ih.2 j (by simpa using h1)
theorem insR_len {α : Type} [Inhabited α] (lt : α → α → Bool) (out : List α) (x : α) : (insR lt out x).length = out.length + 1 := by
  have := posR_le lt out x out.length
  simp [insR]
  omega
theorem insTo_len {α : Type} [Inhabited α] (lt : α → α → Bool) (xs : List α) : ∀ k, (insTo lt xs k).length = k
  | 0 => rfl
  | k + 1 => by rw [insTo, insR_len, insTo_len lt xs k]
theorem insR_perm {α : Type} [Inhabited α] (lt : α → α → Bool) (out : List α) (x : α) : (insR lt out x).Perm (out ++ [x]) := by
  unfold insR
  have h := List.perm_middle (a := x) (l₁ := out.take (posR lt out x out.length)) (l₂ := out.drop (posR lt out x out.length))
  rw [List.take_append_drop] at h
  exact h.trans (List.perm_append_comm (l₁ := [x]) (l₂ := out))
theorem posR_map {α β : Type} [Inhabited α] [Inhabited β] (f : α → β) (hf : f default = default) (lt : β → β → Bool) (out : List α) (x : α) : ∀ k, posR lt (out.map f) (f x) k = posR (fun x y => lt (f x) (f y)) out x k
  | 0 => rfl
  | k + 1 => by rw [posR, posR, posR_map f hf lt out x k, getDf_map f hf]
theorem insTo_map {α β : Type} [Inhabited α] [Inhabited β] (f : α → β) (hf : f default = default) (lt : β → β → Bool) (xs : List α) : ∀ k, insTo lt (xs.map f) k = (insTo (fun x y => lt (f x) (f y)) xs k).map f
  | 0 => rfl
  | k + 1 => by
    rw [insTo, insTo, insTo_map f hf lt xs k, getDf_map f hf]
    unfold insR
    rw [List.length_map, posR_map f hf, List.map_append, List.map_cons, List.map_take, List.map_drop]

/-! ### orders of books -/
def OrdIn (zs : List Int) : Prop := ∀ z ∈ zs, 1 ≤ fieldOf z ∧ fieldOf z ≤ 6
def kz (z : Int) (b : Bk) : Int := if z < 0 then -(keyOf (-z) b) else keyOf z b
theorem cmp1_key (z : Int) (h : 1 ≤ fieldOf z ∧ fieldOf z ≤ 6) (a b : Bk) (ha : a.Wf) (hb : b.Wf) : cmp1 z a b = sgn (kz z a) (kz z b) := by
  unfold kz
  by_cases hz : z < 0
  · have e : fieldOf z = -z := by
      unfold fieldOf at h ⊢
      rw [if_pos hz] at h ⊢
      by_cases h2 : z = -128
      · rw [if_pos h2] at h; omega
      · rw [if_neg h2]
    rw [e] at h
    obtain ⟨f, rfl⟩ : ∃ f, z = -f := ⟨-z, by omega⟩
    rw [if_pos hz, if_pos hz, cmp1_neg f (by omega) a b ha hb]
    rw [Int.neg_neg]
    unfold sgn
    split <;> split <;> (try split) <;> (try split) <;> omega
  · have e : fieldOf z = z := by unfold fieldOf; rw [if_neg hz]
    rw [e] at h
    rw [if_neg hz, if_neg hz, cmp1_pos z h a b ha hb]
theorem sgn_cases (x y : Int) : (sgn x y = -1 ∧ x < y) ∨ (sgn x y = 0 ∧ x = y) ∨ (sgn x y = 1 ∧ y < x) := by
  unfold sgn
  split
  · left; omega
  · split
    · right; right; omega
    · right; left; omega
theorem cmpL_anti : ∀ (zs : List Int) (a b : Bk), OrdIn zs → a.Wf → b.Wf → cmpL zs b a = -cmpL zs a b
  | [], _, _, _, _, _ => rfl
  | z :: zs, a, b, h, wa, wb => by
    have ih := cmpL_anti zs a b (fun q hq => h q (List.mem_cons_of_mem _ hq)) wa wb
    have hz := h z (List.mem_cons_self ..)
    rw [cmpL, cmpL, cmp1_key z hz a b wa wb, cmp1_key z hz b a wb wa]
    rcases sgn_cases (kz z a) (kz z b) with ⟨e1, l1⟩ | ⟨e1, l1⟩ | ⟨e1, l1⟩ <;> rcases sgn_cases (kz z b) (kz z a) with ⟨e2, l2⟩ | ⟨e2, l2⟩ | ⟨e2, l2⟩ <;> rw [e1, e2] <;> simp <;> omega
theorem cmpL_tr : ∀ (zs : List Int) (a b c : Bk), OrdIn zs → a.Wf → b.Wf → c.Wf → cmpL zs a b ≤ 0 → cmpL zs b c ≤ 0 → cmpL zs a c ≤ 0 ∧ (cmpL zs a b < 0 ∨ cmpL zs b c < 0 → cmpL zs a c < 0)
  | [], _, _, _, _, _, _, _ => by simp [cmpL]
  | z :: zs, a, b, c, h, wa, wb, wc => by
    have ih := cmpL_tr zs a b c (fun q hq => h q (List.mem_cons_of_mem _ hq)) wa wb wc
    have hz := h z (List.mem_cons_self ..)
    rw [cmpL, cmpL, cmpL, cmp1_key z hz a b wa wb, cmp1_key z hz b c wb wc, cmp1_key z hz a c wa wc]
    rcases sgn_cases (kz z a) (kz z b) with ⟨e1, l1⟩ | ⟨e1, l1⟩ | ⟨e1, l1⟩ <;> rcases sgn_cases (kz z b) (kz z c) with ⟨e2, l2⟩ | ⟨e2, l2⟩ | ⟨e2, l2⟩ <;> rcases sgn_cases (kz z a) (kz z c) with ⟨e3, l3⟩ | ⟨e3, l3⟩ | ⟨e3, l3⟩ <;> rw [e1, e2, e3] <;> simp <;> first | omega | exact ih

/-- One comes ahead of the other; equal ones stay as they are. -/
def LP (zs : List Int) (x y : Bk × Nat) : Prop := x.1.Wf ∧ y.1.Wf ∧ (cmpL zs x.1 y.1 < 0 ∨ (cmpL zs x.1 y.1 = 0 ∧ x.2 < y.2))
theorem LP.tr {zs : List Int} (h : OrdIn zs) : ∀ x y z, LP zs x y → LP zs y z → LP zs x z := by
  rintro x y z ⟨wx, wy, h1⟩ ⟨_, wz, h2⟩
  obtain ⟨h3, h4⟩ := cmpL_tr zs x.1 y.1 z.1 h wx wy wz (by omega) (by omega)
  refine ⟨wx, wz, ?_⟩
  rcases h1 with h1 | ⟨h1, i1⟩
  · exact .inl (h4 (.inl h1))
  · rcases h2 with h2 | ⟨h2, i2⟩
    · exact .inl (h4 (.inr h2))
    · by_cases e : cmpL zs x.1 z.1 = 0
      · exact .inr ⟨e, by omega⟩
      · exact .inl (by omega)
theorem LP.ir {zs : List Int} (h : OrdIn zs) : ∀ x, ¬ LP zs x x := by
  rintro x ⟨wx, _, h1⟩
  have := cmpL_anti zs x.1 x.1 h wx wx
  omega
def ltB (zs : List Int) (x y : Bk) : Bool := decide (cmpL zs x y < 0)
def prs (xs : List Bk) : List (Bk × Nat) := (List.range xs.length).map fun i => (xs.getD i default, i)
theorem prs_fst (xs : List Bk) : (prs xs).map Prod.fst = xs := by
  unfold prs
  rw [List.map_map]
  apply List.ext_getElem
  · simp
  · intro i h1 h2
    simp [List.getD, List.getElem?_eq_getElem h2]
theorem prs_len (xs : List Bk) : (prs xs).length = xs.length := by simp [prs]
theorem prs_at {xs : List Bk} {i : Nat} (h : i < (prs xs).length) : (prs xs)[i] = (xs.getD i default, i) := by simp [prs]
theorem prs_wf {xs : List Bk} (wf : ∀ b ∈ xs, b.Wf) : ∀ p ∈ prs xs, p.1.Wf := by
  intro p hp
  exact wf _ (by have := List.mem_map_of_mem (f := Prod.fst) hp; rwa [prs_fst] at this)
theorem prs_pair (xs : List Bk) : (prs xs).Pairwise fun x y => x.2 < y.2 := by
  unfold prs
  rw [List.pairwise_map]
  exact List.pairwise_lt_range
theorem LP.of {zs : List Int} (h : OrdIn zs) {x y : Bk × Nat} (wx : x.1.Wf) (wy : y.1.Wf) (hi : x.2 < y.2) (hl : ltB zs y.1 x.1 = false) : LP zs x y := by
  have := cmpL_anti zs x.1 y.1 h wx wy
  have h2 : ¬ (cmpL zs y.1 x.1 < 0) := by simpa [ltB] using hl
  exact ⟨wx, wy, by omega⟩
theorem prs_cr {zs : List Int} (h : OrdIn zs) {xs : List Bk} (wf : ∀ b ∈ xs, b.Wf) : (prs xs).Pairwise (Cr (fun x y => ltB zs x.1 y.1) (LP zs)) := by
  refine List.Pairwise.imp_of_mem ?_ (prs_pair xs)
  intro x y hx hy hi
  have wx := prs_wf wf x hx
  have wy := prs_wf wf y hy
  exact ⟨fun hl => ⟨wy, wx, .inl (by simpa [ltB] using hl)⟩, fun hl => LP.of h wx wy hi hl⟩
theorem insTo_ok {zs : List Int} (h : OrdIn zs) {xs : List Bk} (wf : ∀ b ∈ xs, b.Wf) : ∀ k, k ≤ (prs xs).length → (insTo (fun x y => ltB zs x.1 y.1) (prs xs) k).Perm ((prs xs).take k) ∧ (insTo (fun x y => ltB zs x.1 y.1) (prs xs) k).Pairwise (LP zs)
  | 0, _ => ⟨by rw [insTo, List.take_zero], by rw [insTo]; exact List.Pairwise.nil⟩
  | k + 1, hk => by
    obtain ⟨hp, hs⟩ := insTo_ok h wf k (by omega)
    have hk2 : k < (prs xs).length := by omega
    rw [insTo, List.take_succ_eq_append_getElem hk2]
    have hx : (prs xs).getD k default = (prs xs)[k] := by simp [List.getD, List.getElem?_eq_getElem hk2]
    rw [hx]
    refine ⟨(insR_perm _ _ _).trans (hp.append_right _), ?_⟩
    have wx := prs_wf wf _ (List.getElem_mem hk2)
    have hx2 : ((prs xs)[k]).2 = k := by rw [prs_at hk2]
    generalize (prs xs)[k] = x at *
    have hin : ∀ z ∈ insTo (fun x y => ltB zs x.1 y.1) (prs xs) k, z.1.Wf ∧ z.2 < x.2 := by
      intro z hz
      have hz2 := hp.mem_iff.1 hz
      refine ⟨prs_wf wf z (List.mem_of_mem_take hz2), ?_⟩
      obtain ⟨i, hi, rfl⟩ := List.mem_take_iff_getElem.1 hz2
      rw [prs_at (by omega), hx2]
      show i < k
      omega
    generalize insTo (fun x y => ltB zs x.1 y.1) (prs xs) k = Z at *
    obtain ⟨q1, q2⟩ := posR_ok (fun x y => ltB zs x.1 y.1) Z x Z.length
    have q3 := posR_le (fun x y => ltB zs x.1 y.1) Z x Z.length
    unfold insR
    generalize posR (fun x y => ltB zs x.1 y.1) Z x Z.length = p at *
    have hz : Z = Z.take p ++ Z.drop p := (List.take_append_drop p Z).symm
    have hs2 := hs
    rw [hz, List.pairwise_append] at hs2
    obtain ⟨s1, s2, s3⟩ := hs2
    have hlow : ∀ z ∈ Z.take p, LP zs z x := by
      intro z hz
      obtain ⟨i, hi, rfl⟩ := List.mem_take_iff_getElem.1 hz
      obtain ⟨r, rfl⟩ : ∃ r, p = r + 1 := ⟨p - 1, by omega⟩
      have hr : r < Z.length := by omega
      have h1 := q2 r rfl
      rw [show Z.getD r default = Z[r] by simp [List.getD, List.getElem?_eq_getElem hr]] at h1
      have h2 := hin _ (List.getElem_mem hr)
      have h3 : LP zs Z[r] x := LP.of h h2.1 wx h2.2 h1
      by_cases e : i = r
      · subst e; exact h3
      · exact LP.tr h _ _ _ (List.pairwise_iff_getElem.1 hs i r (by omega) hr (by omega)) h3
    have hhigh : ∀ z ∈ Z.drop p, LP zs x z := by
      intro z hz
      obtain ⟨i, hi, rfl⟩ := List.mem_drop_iff_getElem.1 hz
      have h1 := q1 (p + i) (by omega) (by omega)
      rw [show Z.getD (p + i) default = Z[p + i] by simp [List.getD, List.getElem?_eq_getElem (show p + i < Z.length by omega)]] at h1
      exact ⟨wx, (hin _ (List.getElem_mem _)).1, .inl (by simpa [ltB] using h1)⟩
    rw [List.pairwise_append]
    refine ⟨s1, List.pairwise_cons.2 ⟨hhigh, s2⟩, fun a ha b hb => ?_⟩
    rcases List.mem_cons.1 hb with rfl | hb
    · exact hlow a ha
    · exact s3 a ha b hb
/-- Both ways to put books in an order give one list. -/
theorem stable_ins {zs : List Int} (h : OrdIn zs) {xs : List Bk} (wf : ∀ b ∈ xs, b.Wf) : stableF (ltB zs) xs = insTo (ltB zs) xs xs.length := by
  have e1 := stableF_map (Prod.fst : Bk × Nat → Bk) rfl (ltB zs) (prs xs)
  have e2 := insTo_map (Prod.fst : Bk × Nat → Bk) rfl (ltB zs) (prs xs) (prs xs).length
  rw [prs_fst] at e1 e2
  rw [prs_len] at e2
  rw [e1, e2]
  congr 1
  obtain ⟨a1, a2⟩ := stable_ok (lt := fun x y : Bk × Nat => ltB zs x.1 y.1) (L := LP zs) (LP.tr h) (prs xs) (prs_cr h wf)
  obtain ⟨b1, b2⟩ := insTo_ok h wf (prs xs).length (Nat.le_refl _)
  rw [List.take_length] at b1
  rw [prs_len] at b1 b2
  exact sorted_unique (LP.tr h) (LP.ir h) _ _ (a1.trans b1.symm) a2 b2
end Go.Proofs.Ytecpddkbbfpeeaa
