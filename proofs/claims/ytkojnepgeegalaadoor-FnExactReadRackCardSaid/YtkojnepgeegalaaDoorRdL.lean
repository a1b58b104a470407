/- Numbers in a row, a byte between each two: when a text is one, and which. No condition. -/
import Derived.Test.YtkojnepgeegalaaDoorRdN
namespace Go.Proofs.YtkojnepgeegalaaDoor
set_option linter.unusedSimpArgs false
set_option linter.unusedVariables false
set_option maxRecDepth 100000
open Go.RowKit

theorem decD_le : ∀ (k n : Nat), n < 10 ^ (k + 1) → (Lib.decDigits n).length ≤ k + 1
  | 0, n, h => by rw [Lib.decDigits_one (by simpa using h)]; simp
  | k + 1, n, h => by
    by_cases h10 : n < 10
    · rw [Lib.decDigits_one h10]; simp
    · rw [decDigits_step (by omega), List.length_append, List.length_singleton]
      have := decD_le k (n / 10) (by rw [Nat.pow_succ] at h; omega)
      omega
theorem dec_short {z : Int} (h : z < 1000000000) : (dec z).length ≤ 9 := by
  unfold dec
  exact decD_le 8 _ (by show z.toNat < 1000000000; omega)
/-- Numbers, the byte behind each. -/
def flatC (c : UInt8) : List Int → List UInt8
  | [] => []
  | z :: zs => dec z ++ c :: flatC c zs
theorem flatC_snoc (c : UInt8) (zs : List Int) (z : Int) : flatC c (zs ++ [z]) = flatC c zs ++ (dec z ++ [c]) := by
  induction zs with
  | nil => rfl
  | cons a zs ih =>
    show dec a ++ c :: flatC c (zs ++ [z]) = dec a ++ c :: flatC c zs ++ (dec z ++ [c])
    rw [ih]
    simp only [List.append_assoc, List.cons_append]
theorem join_flat (c : UInt8) (zs : List Int) (z : Int) : joinL c ((zs ++ [z]).map dec) = flatC c zs ++ dec z := by
  induction zs with
  | nil => rfl
  | cons a zs ih =>
    rw [List.cons_append, List.map_cons, join_cons (by simp), ih]
    show _ = dec a ++ c :: flatC c zs ++ dec z
    simp only [List.append_assoc, List.cons_append]
def AllIn (most : Int) (zs : List Int) : Prop := ∀ z ∈ zs, 0 ≤ z ∧ z ≤ most
theorem noDig_c {c : UInt8} (hc : isDig c = false) (l : List UInt8) : NoDig (c :: l) := hc
theorem numOk_join {c : UInt8} (hc : isDig c = false) {most : Int} {z : Int} {zs : List Int} (hz : 0 ≤ z ∧ z ≤ most) :
    NumOk most (joinL c ((z :: zs).map dec)) z (if zs = [] then [] else c :: joinL c (zs.map dec)) := by
  by_cases h : zs = []
  · subst h
    rw [if_pos rfl]
    exact ⟨by simp [joinL], trivial, hz.1, hz.2⟩
  · rw [if_neg h, List.map_cons, join_cons (by simpa using h)]
    exact ⟨rfl, noDig_c hc _, hz.1, hz.2⟩
theorem flat_prefix {c : UInt8} (hc : isDig c = false) {most : Int} : ∀ (zs zs' : List Int) (r : List UInt8), AllIn most zs → AllIn most zs' → zs' ≠ [] → flatC c zs ++ r = joinL c (zs'.map dec) →
    ∃ t, zs' = zs ++ t ∧ t ≠ [] ∧ r = joinL c (t.map dec)
  | [], zs', r, _, _, h0, h => ⟨zs', rfl, h0, h⟩
  | z :: zs, [], r, _, _, h0, _ => absurd rfl h0
  | z :: zs, z' :: t', r, ha, hb, _, h => by
    have h1 := numOk_join (zs := t') hc (hb z' (by simp))
    rw [← h] at h1
    have h2 : NumOk most (flatC c (z :: zs) ++ r) z (c :: (flatC c zs ++ r)) := ⟨by show dec z ++ c :: flatC c zs ++ r = _; simp only [List.append_assoc, List.cons_append], noDig_c hc _, (ha z (by simp)).1, (ha z (by simp)).2⟩
    obtain ⟨e1, e2⟩ := numOk_uniq h2 h1
    subst e1
    by_cases ht : t' = []
    · rw [if_pos ht] at e2; cases e2
    · rw [if_neg ht] at e2
      injection e2 with _ e3
      obtain ⟨t, h3, h4, h5⟩ := flat_prefix hc zs t' r (fun x hx => ha x (by simp [hx])) (fun x hx => hb x (by simp [hx])) ht e3
      exact ⟨t, by rw [h3]; rfl, h4, h5⟩
/-- No numbers of this kind are this text. -/
def NoLast (c : UInt8) (most : Int) (l : List UInt8) : Prop := ∀ zs : List Int, 1 ≤ zs.length → zs.length ≤ 12 → AllIn most zs → l ≠ joinL c (zs.map dec)
theorem noLast_num {c : UInt8} (hc : isDig c = false) {most : Int} {l r : List UInt8} {zs : List Int} (ha : AllIn most zs) (hl : l = flatC c zs ++ r) (hn : NoNum most r) : NoLast c most l := fun zs' h1 _ hb e => by
  obtain ⟨t, e3, h4, h5⟩ := flat_prefix hc zs zs' r ha hb (fun e => by rw [e] at h1; simp at h1) (hl.symm.trans e)
  match t, h4, e3, h5 with
  | z :: t, _, e3, h5 =>
    have hz := hb z (by rw [e3]; simp)
    have := numOk_join (zs := t) hc hz
    rw [← h5] at this
    exact hn _ _ this
theorem noLast_skip {c : UInt8} (hc : isDig c = false) {most : Int} {l r m : List UInt8} {zs : List Int} {n : Int} (ha : AllIn most zs) (hl : l = flatC c zs ++ r) (hn : NumOk most r n m) (hm : m ≠ []) (hs : ∀ k, m ≠ c :: k) : NoLast c most l := fun zs' h1 _ hb e => by
  obtain ⟨t, e3, h4, h5⟩ := flat_prefix hc zs zs' r ha hb (fun e => by rw [e] at h1; simp at h1) (hl.symm.trans e)
  match t, h4, e3, h5 with
  | z :: t, _, e3, h5 =>
    have hz := hb z (by rw [e3]; simp)
    have h6 := numOk_join (zs := t) hc hz
    rw [← h5] at h6
    have e4 := (numOk_uniq hn h6).2
    by_cases ht : t = []
    · rw [if_pos ht] at e4; exact hm e4
    · rw [if_neg ht] at e4; exact hs _ e4
theorem noLast_many {c : UInt8} (hc : isDig c = false) {most : Int} {l r : List UInt8} {zs : List Int} (ha : AllIn most zs) (hl : l = flatC c zs ++ r) (h12 : 12 ≤ zs.length) : NoLast c most l := fun zs' h1 h2 hb e => by
  obtain ⟨t, e3, h4, h5⟩ := flat_prefix hc zs zs' r ha hb (fun e => by rw [e] at h1; simp at h1) (hl.symm.trans e)
  have := congrArg List.length e3
  rw [List.length_append] at this
  have : t.length ≠ 0 := fun e => h4 (List.eq_nil_of_length_eq_zero e)
  omega
end Go.Proofs.YtkojnepgeegalaaDoor
