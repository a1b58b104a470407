/- One move that puts a shelf right, by the model and by the program: contracts. Condition: as they stand in each. -/
import Derived.Test.YtkclobdealnkhaaDoorSame
import Derived.Test.YtkclobdealnkhaaDoorFew
import Derived.Test.YtkclobdealnkhaaDoorEqB
import Derived.Test.YtkclobdealnkhaaDoorQuiet
import Derived.BigQuiet
import Derived.Laws.ResultCell
import Derived.Test.YtkclobdealnkhaaDoorMbJ
namespace Go.Proofs.YtkclobdealnkhaaDoor
set_option linter.unusedSimpArgs false
set_option linter.unusedVariables false
set_option maxRecDepth 100000

section
open Go.RowKit

set_option maxHeartbeats 400000 in
theorem sameBooks_any (v1 v2 : Value) (xs ys : List Bk) (w : World) (hs1 : SliceOf w v1 xs) (hs2 : SliceOf w v2 ys) (hn1 : xs.length ≤ maxLen) (hn2 : ys.length ≤ maxLen) :
    Calls Tryd.prog 62 #[v1, v2] w fun e w' => e = .returned (.bool (decide (xs = ys))) ∧ Below w.heap.size w w' := by
  have C := Lib.hid (slicesEqual_any v1 v2 xs ys w hs1 hs2 hn1 hn2)
  clear hs1 hs2 hn1 hn2
  go_enter Tryd.func62, Tryd.ntmps62
  go_wp2_with fail
  refine C.out.mono ?_
  rintro e w1 ⟨rfl, h1⟩
  go_wp2
  go_ret
  exact ⟨rfl, h1⟩
end

section
open Go.RowKit

/-- The places below k at which two lists differ. -/
def dfTo (xs ys : List Bk) : Nat → List Nat
  | 0 => []
  | k + 1 => if ys.getD k default = xs.getD k default then dfTo xs ys k else dfTo xs ys k ++ [k]
def dfL (xs ys : List Bk) : List Nat := dfTo xs ys ys.length
/-- Two books exchanged. -/
def swp (ys : List Bk) (i j : Nat) : List Bk := (ys.set i (ys.getD j default)).set j (ys.getD i default)
theorem swp_len (ys : List Bk) (i j : Nat) : (swp ys i j).length = ys.length := by simp [swp]
theorem swp_at (ys : List Bk) (i j k : Nat) (hk : k < ys.length) : (swp ys i j).getD k default = if k = j then ys.getD i default else if k = i then ys.getD j default else ys.getD k default := by
  unfold swp
  rw [List.getD_eq_getElem?_getD (l := List.set _ _ _), List.getElem?_set]
  by_cases h1 : j = k
  · rw [if_pos h1, if_pos (by simpa using h1 ▸ hk), if_pos h1.symm]; rfl
  · rw [if_neg h1, if_neg (fun h => h1 h.symm), List.getElem?_set]
    by_cases h2 : i = k
    · rw [if_pos h2, if_pos (h2 ▸ hk), if_pos h2.symm]; rfl
    · rw [if_neg h2, if_neg (fun h => h2 h.symm), List.getD_eq_getElem?_getD]
theorem ext_getD {xs ys : List Bk} (hl : xs.length = ys.length) (h : ∀ k, k < ys.length → xs.getD k default = ys.getD k default) : xs = ys := by
  refine List.ext_getElem hl fun k h1 h2 => ?_
  have := h k h2
  rwa [getD_at h1, getD_at h2] at this
theorem df_mem (xs ys : List Bk) : ∀ n k, k ∈ dfTo xs ys n ↔ (k < n ∧ ys.getD k default ≠ xs.getD k default)
  | 0, k => by simp [dfTo]
  | n + 1, k => by
    rw [dfTo]
    split
    · rename_i he
      rw [df_mem xs ys n k]
      constructor
      · rintro ⟨a, b⟩; exact ⟨by omega, b⟩
      · rintro ⟨a, b⟩
        refine ⟨?_, b⟩
        by_cases e : k = n
        · subst e; exact absurd he b
        · omega
    · rename_i he
      rw [List.mem_append, df_mem xs ys n k, List.mem_singleton]
      constructor
      · rintro (⟨a, b⟩ | rfl)
        · exact ⟨by omega, b⟩
        · exact ⟨by omega, he⟩
      · rintro ⟨a, b⟩
        by_cases e : k = n
        · exact .inr e
        · exact .inl ⟨by omega, b⟩
theorem df_sorted (xs ys : List Bk) : ∀ n, (dfTo xs ys n).Pairwise (· < ·)
  | 0 => List.Pairwise.nil
  | n + 1 => by
    rw [dfTo]
    split
    · exact df_sorted xs ys n
    · rw [List.pairwise_append]
      refine ⟨df_sorted xs ys n, List.pairwise_singleton _ _, fun a ha b hb => ?_⟩
      rw [List.mem_singleton] at hb
      have := ((df_mem xs ys n a).1 ha).1
      omega
theorem df_len (xs ys : List Bk) : ∀ n, (dfTo xs ys n).length ≤ n
  | 0 => Nat.le_refl _
  | n + 1 => by
    have := df_len xs ys n
    rw [dfTo]
    split
    · omega
    · simp; omega
theorem two_of {L : List Nat} (hs : L.Pairwise (· < ·)) {i j : Nat} (hij : i < j) (hm : ∀ k, k ∈ L ↔ (k = i ∨ k = j)) : L = [i, j] := by
  match L, hs, hm with
  | [], _, hm => exact absurd ((hm i).2 (.inl rfl)) (by simp)
  | [a], _, hm =>
    have h1 := (hm i).2 (.inl rfl)
    have h2 := (hm j).2 (.inr rfl)
    rw [List.mem_singleton] at h1 h2
    omega
  | a :: b :: t, hs, hm =>
    rw [List.pairwise_cons, List.pairwise_cons] at hs
    obtain ⟨h1, h2, _⟩ := hs
    have hab := h1 b (by simp)
    have ha := (hm a).1 (by simp)
    have hb := (hm b).1 (by simp)
    have ht : t = [] := by
      match t with
      | [] => rfl
      | c :: t =>
        have hc := (hm c).1 (by simp)
        have := h2 c (by simp)
        omega
    subst ht
    have : a = i ∧ b = j := by omega
    rw [this.1, this.2]
/-- Whoever exchanges to the other list, finds the two differing places. -/
theorem swp_df {xs ys : List Bk} (hne : ys ≠ xs) {a b : Nat} (ha : a < ys.length) (hb : b < ys.length) (h : swp ys a b = xs) : (a < b ∧ dfL xs ys = [a, b]) ∨ (b < a ∧ dfL xs ys = [b, a]) := by
  have hv : ∀ k, k < ys.length → xs.getD k default = if k = b then ys.getD a default else if k = a then ys.getD b default else ys.getD k default := fun k hk => by rw [← h]; exact swp_at ys a b k hk
  have hd : ys.getD a default ≠ ys.getD b default := by
    intro e
    apply hne
    refine ext_getD (by rw [← h, swp_len]) fun k hk => ?_
    rw [← h, swp_len] at hk
    rw [hv k hk]
    split
    · rename_i e2; rw [e2]; exact e.symm
    · split
      · rename_i e2; rw [e2]; exact e
      · rfl
  have hm : ∀ k, k ∈ dfL xs ys ↔ (k = a ∨ k = b) := by
    intro k
    unfold dfL
    rw [df_mem]
    constructor
    · rintro ⟨hk, hn⟩
      rw [hv k hk] at hn
      by_cases e1 : k = a
      · exact .inl e1
      · by_cases e2 : k = b
        · exact .inr e2
        · rw [if_neg e2, if_neg e1] at hn
          exact absurd rfl hn
    · rintro (rfl | rfl)
      · refine ⟨ha, ?_⟩
        rw [hv k ha]
        split
        · rename_i e; subst e; exact absurd rfl hd
        · rw [if_pos rfl]; exact hd
      · refine ⟨hb, ?_⟩
        rw [hv k hb, if_pos rfl]
        exact fun e => hd e.symm
  have hab : a ≠ b := fun e => hd (by rw [e])
  have hs := df_sorted xs ys ys.length
  rcases Nat.lt_or_gt_of_ne hab with hlt | hgt
  · exact .inl ⟨hlt, two_of hs hlt hm⟩
  · exact .inr ⟨hgt, two_of hs hgt (fun k => (hm k).trans Or.comm)⟩
theorem swp_comm (ys : List Bk) (i j : Nat) : swp ys i j = swp ys j i := by
  refine ext_getD (by rw [swp_len, swp_len]) fun k hk => ?_
  rw [swp_len] at hk
  rw [swp_at ys i j k hk, swp_at ys j i k hk]
  by_cases h1 : k = j
  · by_cases h2 : k = i
    · rw [if_pos h1, if_pos h2, ← h1, ← h2]
    · rw [if_pos h1, if_neg h2, if_pos h1]
  · by_cases h2 : k = i
    · rw [if_neg h1, if_pos h2, if_pos h2]
    · rw [if_neg h1, if_neg h2, if_neg h2, if_neg h1]
/-- Two lists with the same stock that differ in two places alone: the exchange makes one into the other. -/
theorem df_swp {xs ys : List Bk} (hl : xs.length = ys.length) (hc : ∀ b, xs.count b = ys.count b) {i j : Nat} (h : dfL xs ys = [i, j]) : i < j ∧ j < ys.length ∧ swp ys i j = xs := by
  have hs := df_sorted xs ys ys.length
  have hm := df_mem xs ys ys.length
  have h' : dfTo xs ys ys.length = [i, j] := h
  rw [h'] at hs
  simp only [h'] at hm
  have hij : i < j := by
    rw [List.pairwise_cons] at hs
    exact hs.1 j (by simp)
  obtain ⟨hi, ni⟩ := (hm i).1 (by simp)
  obtain ⟨hj, nj⟩ := (hm j).1 (by simp)
  have same : ∀ k, k < ys.length → k ≠ i → k ≠ j → ys.getD k default = xs.getD k default := fun k hk h1 h2 => by
    by_cases e : ys.getD k default = xs.getD k default
    · exact e
    · have := (hm k).2 ⟨hk, e⟩
      simp only [List.mem_cons, List.not_mem_nil, or_false] at this
      omega
  have ex : xs = (ys.set i (xs.getD i default)).set j (xs.getD j default) := by
    refine ext_getD (by simp [hl]) fun k hk => ?_
    simp only [List.length_set] at hk
    rw [List.getD_eq_getElem?_getD (l := List.set _ _ _), List.getElem?_set, List.getElem?_set]
    by_cases h1 : j = k
    · subst h1; simp [hk]
    · rw [if_neg h1]
      by_cases h2 : i = k
      · subst h2; simp [hk]
      · rw [if_neg h2, ← List.getD_eq_getElem?_getD]
        exact (same k hk (fun e => h2 e.symm) (fun e => h1 e.symm)).symm
  have cs : ∀ b, xs.count b = ys.count b - (if ys.getD i default = b then 1 else 0) + (if xs.getD i default = b then 1 else 0) - (if ys.getD j default = b then 1 else 0) + (if xs.getD j default = b then 1 else 0) := by
    intro b
    have hj2 : j < (ys.set i (xs.getD i default)).length := by simpa using hj
    have e1 : (ys.set i (xs.getD i default))[j] = ys.getD j default := by
      rw [List.getElem_set, if_neg (by omega), getD_at hj]
    conv => lhs; rw [ex]
    rw [List.count_set hj2, List.count_set hi, e1, ← getD_at hi]
    simp only [beq_iff_eq]
  have pos : ∀ b k, k < ys.length → ys.getD k default = b → 1 ≤ ys.count b := fun b k hk e => by
    rw [← e, getD_at hk]
    exact List.count_pos_iff.2 (List.getElem_mem hk)
  generalize ei : ys.getD i default = yi at *
  generalize ej : ys.getD j default = yj at *
  have c1 := cs (xs.getD i default)
  have c2 := cs yi
  rw [hc] at c1 c2
  have p2 := pos yi i hi ei
  generalize exi : xs.getD i default = xi at *
  generalize exj : xs.getD j default = xj at *
  rw [if_neg ni, if_pos rfl] at c1
  rw [if_pos rfl, if_neg (fun e => ni e.symm)] at c2
  have g1 : yj = xi := by
    by_cases e : yj = xi
    · exact e
    · rw [if_neg e] at c1
      omega
  have g2 : xj = yi := by
    by_cases e : xj = yi
    · exact e
    · rw [if_neg e] at c2
      split at c2 <;> omega
  refine ⟨hij, hj, ?_⟩
  unfold swp
  rw [ei, ej, g1, ex, g2]
end

section
open Go.RowKit Go.Sort

theorem infoGoInt : (Tryd.prog.info? 3).map (fun i => (i.zero, i.size, i.bytes)) = some (some (.int .i64 0), 1, 8) := by kernel_rfl
def natI (n : Nat) : Value := .int .i64 (n : Int)
/-- What OneSwap answers. -/
def swC (xs ys : List Bk) : Int := if saC xs ys = 0 then (if (dfL xs ys).length = 2 then 0 else 6) else saC xs ys
def swF (xs ys : List Bk) : Int := if saC xs ys = 0 ∧ (dfL xs ys).length = 2 then ((dfL xs ys).getD 0 0 : Int) else 0
def swT (xs ys : List Bk) : Int := if saC xs ys = 0 ∧ (dfL xs ys).length = 2 then ((dfL xs ys).getD 1 0 : Int) else 0
theorem osw_cases (xs ys : List Bk) : (saC xs ys ≠ 0 ∧ swC xs ys = saC xs ys ∧ swF xs ys = 0 ∧ swT xs ys = 0) ∨ (saC xs ys = 0 ∧ (dfL xs ys).length ≠ 2 ∧ swC xs ys = 6 ∧ swF xs ys = 0 ∧ swT xs ys = 0) ∨
    (saC xs ys = 0 ∧ ∃ i j, dfL xs ys = [i, j] ∧ swC xs ys = 0 ∧ swF xs ys = (i : Int) ∧ swT xs ys = (j : Int)) := by
  unfold swC swF swT
  by_cases h : saC xs ys = 0
  · by_cases h2 : (dfL xs ys).length = 2
    · refine .inr (.inr ⟨h, ?_⟩)
      match hd : dfL xs ys, h2 with
      | [i, j], _ => exact ⟨i, j, rfl, by rw [if_pos h]; rfl, by rw [if_pos ⟨h, rfl⟩]; rfl, by rw [if_pos ⟨h, rfl⟩]; rfl⟩
    · exact .inr (.inl ⟨h, h2, by rw [if_pos h, if_neg h2], by rw [if_neg (fun e => h2 e.2)], by rw [if_neg (fun e => h2 e.2)]⟩)
  · exact .inl ⟨h, by rw [if_neg h], by rw [if_neg (fun e => h e.1)], by rw [if_neg (fun e => h e.1)]⟩
theorem sa_len {xs ys : List Bk} (h : saC xs ys = 0) : xs.length = ys.length ∧ ys.length ≤ 60 ∧ ∀ b, xs.count b = ys.count b := by
  obtain ⟨_, h2, h3⟩ := sa_ok h
  have h60 : ys.length ≤ 60 := by unfold okB at h2; simp at h2; exact h2.2
  unfold stkB at h3
  simp only [Bool.and_eq_true, decide_eq_true_eq] at h3
  obtain ⟨hl, hm⟩ := h3
  have hn := more_nil.1 (List.eq_nil_of_length_eq_zero hm)
  have hc := (count_le_len xs ys hn).2 hl
  exact ⟨hl, h60, fun b => Nat.le_antisymm (hn b) (hc b)⟩
theorem df_yes {xs ys : List Bk} {k : Nat} (hx : k < xs.length) (hy : k < ys.length) (h : ¬ ys[k] = xs[k]) : dfTo xs ys (k + 1) = dfTo xs ys k ++ [k] := by
  rw [dfTo, getD_at hx, getD_at hy, if_neg h]
theorem df_no {xs ys : List Bk} {k : Nat} (hx : k < xs.length) (hy : k < ys.length) (h : ys[k] = xs[k]) : dfTo xs ys (k + 1) = dfTo xs ys k := by
  rw [dfTo, getD_at hx, getD_at hy, if_pos h]

theorem own_form2 {w : World} {base n : Nat} {t : TypeId} {v : Value} {l : List Value} (h : w.ownsRow base t 1 v n l) (hn : 0 < n) : ∃ g cap, v = .slice (some ⟨g, 0, none⟩) n cap := by
  rcases h.2 with ⟨_, h0⟩ | ⟨g, cap, cur, rfl, _⟩
  · omega
  · exact ⟨g, cap, rfl⟩
end

section
open Go.RowKit Go.Sort

/-- Ahead of (i, j) nothing was found. -/
def NoChg (xs : List Bk) (ch : Nat → Nat → List Bk) (n i j : Nat) : Prop := (∀ a b, a < i → b < n → ch a b ≠ xs) ∧ ∀ b, b < j → b < n → ch i b ≠ xs
/-- What the search answers. -/
def FcR (xs ys : List Bk) (ch : Nat → Nat → List Bk) (f t c : Int) : Prop :=
  (saC xs ys ≠ 0 ∧ f = 0 ∧ t = 0 ∧ c = saC xs ys) ∨ (saC xs ys = 0 ∧ xs = ys ∧ f = 0 ∧ t = 0 ∧ c = 6) ∨
  (saC xs ys = 0 ∧ xs ≠ ys ∧ ∃ i j : Nat, i < ys.length ∧ j < ys.length ∧ ch i j = xs ∧ NoChg xs ch ys.length i j ∧ f = (i : Int) ∧ t = (j : Int) ∧ c = 0) ∨
  (saC xs ys = 0 ∧ xs ≠ ys ∧ (∀ a b, a < ys.length → b < ys.length → ch a b ≠ xs) ∧ f = 0 ∧ t = 0 ∧ c = 6)
theorem none_step {xs : List Bk} {ch : Nat → Nat → List Bk} {n i j : Nat} (h : NoChg xs ch n i j) (hn : ch i j ≠ xs) : NoChg xs ch n i (j + 1) :=
  ⟨h.1, fun b h1 h2 => by
    by_cases e : b = j
    · rw [e]; exact hn
    · exact h.2 b (by omega) h2⟩
theorem none_row {xs : List Bk} {ch : Nat → Nat → List Bk} {n i : Nat} (h : NoChg xs ch n i n) : NoChg xs ch n (i + 1) 0 :=
  ⟨fun a b h1 h2 => by
    by_cases e : a = i
    · rw [e]; exact h.2 b h2 h2
    · exact h.1 a b (by omega) h2, fun b h1 _ => absurd h1 (Nat.not_lt_zero _)⟩
/-- The search for an exchange finds what the model finds. -/
theorem fc_swp {xs ys : List Bk} {f t c : Int} (h : FcR xs ys (swp ys) f t c) : f = swF xs ys ∧ t = swT xs ys ∧ c = swC xs ys := by
  rcases h with ⟨h0, h1, h2, h3⟩ | ⟨h0, he, h1, h2, h3⟩ | ⟨h0, he, i, j, hi, hj, hc, hn, h1, h2, h3⟩ | ⟨h0, he, hn, h1, h2, h3⟩
  all_goals rcases osw_cases xs ys with ⟨g0, g1, g2, g3⟩ | ⟨g0, gd, g1, g2, g3⟩ | ⟨g0, i', j', gd, g1, g2, g3⟩
  all_goals try exact absurd h0 g0
  all_goals try exact absurd g0 h0
  all_goals rw [h1, h2, h3, g1, g2, g3]
  all_goals try exact ⟨rfl, rfl, rfl⟩
  · obtain ⟨hl, _, hcn⟩ := sa_len h0
    obtain ⟨k1, k2, k3⟩ := df_swp hl hcn gd
    exfalso
    have := (df_mem xs ys ys.length i').1 (by show i' ∈ dfL xs ys; rw [gd]; simp)
    rw [he] at this
    exact this.2 rfl
  · exfalso
    rcases swp_df (fun e => he e.symm) hi hj hc with ⟨_, e⟩ | ⟨_, e⟩
    · rw [e] at gd; exact gd rfl
    · rw [e] at gd; exact gd rfl
  · rcases swp_df (fun e => he e.symm) hi hj hc with ⟨_, e⟩ | ⟨hlt, e⟩
    · rw [e] at gd
      injection gd with e1 e2
      injection e2 with e2 _
      rw [e1, e2]
      exact ⟨rfl, rfl, rfl⟩
    · exact absurd ((swp_comm ys j i).trans hc) (hn.1 j i hlt hi)
  · exfalso
    obtain ⟨hl, _, hcn⟩ := sa_len h0
    obtain ⟨k1, k2, k3⟩ := df_swp hl hcn gd
    exact hn i' j' (by omega) k2 k3
end

section
open Go.RowKit Go.Sort

/-- The search finds one answer alone. -/
theorem fc_unique {xs ys : List Bk} {ch : Nat → Nat → List Bk} {f t c f' t' c' : Int} (h : FcR xs ys ch f t c) (h' : FcR xs ys ch f' t' c') : f = f' ∧ t = t' ∧ c = c' := by
  rcases h with ⟨h0, h1, h2, h3⟩ | ⟨h0, he, h1, h2, h3⟩ | ⟨h0, he, i, j, hi, hj, hc, hn, h1, h2, h3⟩ | ⟨h0, he, hn, h1, h2, h3⟩
  all_goals rcases h' with ⟨g0, g1, g2, g3⟩ | ⟨g0, ge, g1, g2, g3⟩ | ⟨g0, ge, i', j', gi, gj, gc, gn, g1, g2, g3⟩ | ⟨g0, ge, gn, g1, g2, g3⟩
  all_goals try exact absurd h0 g0
  all_goals try exact absurd g0 h0
  all_goals try exact absurd he ge
  all_goals try exact absurd ge he
  all_goals try exact absurd hc (gn i j hi hj)
  all_goals try exact absurd gc (hn i' j' gi gj)
  all_goals rw [h1, h2, h3, g1, g2, g3]
  all_goals try exact ⟨rfl, rfl, rfl⟩
  rcases Nat.lt_trichotomy i i' with hlt | rfl | hgt
  · exact absurd hc (gn.1 i j hlt hj)
  · rcases Nat.lt_trichotomy j j' with hlt | rfl | hgt
    · exact absurd hc (gn.2 j hlt hj)
    · exact ⟨rfl, rfl, rfl⟩
    · exact absurd gc (hn.2 j' hgt gj)
  · exact absurd gc (hn.1 i' j' hgt gj)
def carS (ys : List Bk) (a b : Nat) : List Bk := carL ys a 1 b
theorem carS_len (ys : List Bk) (a b : Nat) : (carS ys a b).length = ys.length := carL_length ys a 1 b
open Classical in
/-- What OneSlip answers: the move's two numbers and the code. -/
noncomputable def slR (xs ys : List Bk) : Int × Int × Int := if h : ∃ p : Int × Int × Int, FcR xs ys (carS ys) p.1 p.2.1 p.2.2 then h.choose else (0, 0, 0)
theorem slR_of {xs ys : List Bk} {f t c : Int} (h : FcR xs ys (carS ys) f t c) : f = (slR xs ys).1 ∧ t = (slR xs ys).2.1 ∧ c = (slR xs ys).2.2 := by
  have hx : ∃ p : Int × Int × Int, FcR xs ys (carS ys) p.1 p.2.1 p.2.2 := ⟨(f, t, c), h⟩
  have := hx.choose_spec
  unfold slR
  rw [dif_pos hx]
  exact fc_unique h this
set_option maxHeartbeats 8000000 in
theorem firstChangeS_any (ch : Nat → Nat → List Bk) (v0 v1 cap : Value) (xs ys : List Bk) (wf : ∀ b ∈ xs, b.Wf) (wfy : ∀ b ∈ ys, b.Wf) (w : World) (s i y : Addr) (he : Errs w s i y) (hs : SliceOf w v0 xs) (hs1 : SliceOf w v1 ys) (hn : xs.length ≤ 1048576) (hny : ys.length ≤ 1048576)
    (CH : ∀ W (a b : Nat), Below w.heap.size w W → ys.length ≤ 60 → a < ys.length → b < ys.length → Calls Tryd.prog 36 #[.agg #[.int .i16 (a : Int), .int .i16 (b : Int)], cap] W fun e w' => ∃ u, e = .returned u ∧ SliceOf w' u (ch a b) ∧ Below W.heap.size W w') (hlen : ∀ a b, (ch a b).length ≤ maxLen) :
    Calls Tryd.prog 35 #[v0, v1, .func (.func 36) #[] #[cap]] w fun e w' => ∃ f t c, e = .returned (.tuple #[.agg #[.int .i16 f, .int .i16 t], .int .i64 c]) ∧ FcR xs ys ch f t c ∧ Below w.heap.size w w' := by
  have G0 := Lib.hid (show Below w.heap.size w (w.alloc (.cells #[.int .i16 0, .int .i16 0] 26)) from (Below.refl _ _).alloc (Nat.le_refl _) _)
  have X0 := Lib.hid (heap_alloc_new w (.cells #[.int .i16 0, .int .i16 0] 26))
  have Y0 := Lib.hid (show w.heap.size < (w.alloc (.cells #[.int .i16 0, .int .i16 0] 26)).heap.size by simp)
  have LC := Lib.hid (fun W (h : Errs W s i y) (h1 : SliceOf W v0 xs) (h2 : SliceOf W v1 ys) => checkSame_any v0 v1 xs ys wf wfy W s i y h h1 h2 hn hny)
  have LS := Lib.hid (fun W (h1 : SliceOf W v0 xs) (h2 : SliceOf W v1 ys) => sameBooks_any v0 v1 xs ys W h1 h2 (by unfold maxLen; omega) (by unfold maxLen; omega))
  have LT := Lib.hid (fun W u a b (h1 : SliceOf W v0 xs) (h2 : SliceOf W u (ch a b)) => sameBooks_any v0 u xs (ch a b) W h1 h2 (by unfold maxLen; omega) (hlen a b))
  have S0 := Lib.hid (hs.below G0.out)
  have S1 := Lib.hid (hs1.below G0.out)
  have E0 := Lib.hid (he.below G0.out)
  have HC := Lib.hid CH
  obtain ⟨A0, c0, rfl, -⟩ := hs
  obtain ⟨A1, c1, rfl, -⟩ := hs1
  clear wf wfy he CH hlen hn
  by_cases hq : saC xs ys = 0
  · have hl := Lib.hid (sa_len hq)
    have h60 := hl.out.2.1
    have HQ := Lib.hid hq
    rw [hq] at LC
    clear hq
    go_enter Tryd.func35, Tryd.ntmps35
    go_upto_region 1 with (fail)
    generalize World.alloc w _ = W1 at G0 X0 Y0 S0 S1 E0 ⊢
    go_wp2_with fail
    refine (LC.out _ E0.out S0.out S1.out).mono ?_
    rintro e w1 ⟨rfl, h1⟩
    go_wp2_with fail
    refine (LS.out _ (S0.out.below h1) (S1.out.below h1)).mono ?_
    rintro e w2 ⟨rfl, h2⟩
    have h12 := bnext h1 h2
    have X1 := Lib.hid ((h12.block _ Y0.out).trans X0.out)
    have B1 := Lib.hid (bnext G0.out h12)
    have T0 := Lib.hid (S0.out.below h12)
    have T1 := Lib.hid (S1.out.below h12)
    have y1 : w.heap.size < w2.heap.size := Nat.lt_of_lt_of_le Y0.out h12.size
    clear h1 h2 h12 S0 S1 LC LS G0 X0 Y0 E0
    by_cases hxy : xs = ys
    · have HX := Lib.hid hxy
      rw [decide_eq_true hxy]
      clear hxy
      have p0 : w2.cell? ⟨w.heap.size, 0, none⟩ = some (.int .i16 0) := cell_of_row w2 _ 0 _ _ _ X1.out
      have p1 : w2.cell? ⟨w.heap.size, 1, none⟩ = some (.int .i16 0) := cell_of_row w2 _ 1 _ _ _ X1.out
      have fz : ∀ o, w2.frozen? ⟨w.heap.size, o, none⟩ = false := fun o => frozen_of_row w2 _ o _ _ X1.out
      go_wp2
      (try simp only [Exit.inBlock, Exit.then])
      refine bodyPost_ret (v := .tuple #[.agg #[.int .i16 0, .int .i16 0], .int .i64 6]) (by rw [results_cell_tmp rfl]; go_simp) rfl ?_
      exact ⟨0, 0, 6, rfl, .inr (.inl ⟨HQ.out, HX.out, rfl, rfl, rfl⟩), (B1.out.setCell (Nat.le_refl _) _).setCell (Nat.le_refl _) _⟩
    · have HX := Lib.hid hxy
      rw [decide_eq_false hxy]
      clear hxy
      go_wp2
      go_loopw [25] (fun i_ wr => ∃ (a : Nat), a ≤ ys.length ∧ i_ = .int .i64 (a : Int) ∧ NoChg xs ch ys.length a 0 ∧ Below w2.heap.size w2 wr) (fun i_ _ => ys.length - (intOf i_).toNat)
      case atStart => exact ⟨0, Nat.zero_le _, rfl, ⟨fun a b h => absurd h (Nat.not_lt_zero _), fun b h => absurd h (Nat.not_lt_zero _)⟩, Below.refl _ _⟩
      case round =>
        obtain ⟨a, ha, rfl, hno, hb⟩ := hrel
        have HN := Lib.hid hno
        have HB := Lib.hid hb
        clear hno hb
        by_cases hlt : a < ys.length
        · have a60 : (a : Int) < 60 := by omega
          go_wp2
          go_loopw [30] (fun i_ wq => ∃ (b : Nat), b ≤ ys.length ∧ i_ = .int .i64 (b : Int) ∧ NoChg xs ch ys.length a b ∧ Below w2.heap.size w2 wq) (fun i_ _ => ys.length - (intOf i_).toNat)
          case atStart => exact ⟨0, Nat.zero_le _, rfl, HN.out, HB.out⟩
          case round =>
            obtain ⟨b, hbn, rfl, hno, hb⟩ := hrel
            have HM := Lib.hid hno
            have HB := Lib.hid hb
            clear hno hb
            by_cases hlt2 : b < ys.length
            · have b60 : (b : Int) < 60 := by omega
              have GM := Lib.hid (show Below w2.heap.size w2 (wr.alloc (.cells #[.int .i16 (a : Int), .int .i16 (b : Int)] 26)) from HB.out.alloc HB.out.size _)
              have XM := Lib.hid (heap_alloc_new wr (.cells #[.int .i16 (a : Int), .int .i16 (b : Int)] 26))
              have YM := Lib.hid (show wr.heap.size < (wr.alloc (.cells #[.int .i16 (a : Int), .int .i16 (b : Int)] 26)).heap.size by simp)
              have zr := HB.out.size
              go_upto_region 13 with (fail)
              generalize World.alloc wr _ = W3 at GM XM YM ⊢
              have m0 : W3.cell? ⟨wr.heap.size, 0, none⟩ = some (.int .i16 (a : Int)) := cell_of_row W3 _ 0 _ _ _ XM.out
              have m1 : W3.cell? ⟨wr.heap.size, 1, none⟩ = some (.int .i16 (b : Int)) := cell_of_row W3 _ 1 _ _ _ XM.out
              go_wp2_with fail
              refine (HC.out W3 a b (bnext B1.out GM.out) h60 hlt hlt2).mono ?_
              rintro e w4 ⟨u, rfl, hu, h4⟩
              have X4 := Lib.hid ((h4.block _ YM.out).trans XM.out)
              have B4 := Lib.hid (bnext GM.out h4)
              have Y4 := Lib.hid (Nat.lt_of_lt_of_le YM.out h4.size)
              clear h4 m0 m1 GM XM YM
              obtain ⟨A5, c5, rfl, -⟩ := id hu
              go_wp2_with fail
              refine (LT.out w4 _ a b (T0.out.below B4.out) hu).mono ?_
              rintro e w5 ⟨rfl, h5⟩
              have X5 := Lib.hid ((h5.block _ Y4.out).trans X4.out)
              have B5 := Lib.hid (bnext B4.out h5)
              clear h5 hu X4 Y4
              by_cases hf : xs = ch a b
              · rw [decide_eq_true hf]
                have HF := Lib.hid hf
                clear hf
                have R5 := Lib.hid ((B5.out.block _ y1).trans X1.out)
                have B6 := Lib.hid (bnext B1.out B5.out)
                have p0 : w5.cell? ⟨w.heap.size, 0, none⟩ = some (.int .i16 0) := cell_of_row w5 _ 0 _ _ _ R5.out
                have p1 : w5.cell? ⟨w.heap.size, 1, none⟩ = some (.int .i16 0) := cell_of_row w5 _ 1 _ _ _ R5.out
                have m0 : w5.cell? ⟨wr.heap.size, 0, none⟩ = some (.int .i16 (a : Int)) := cell_of_row w5 _ 0 _ _ _ X5.out
                have m1 : w5.cell? ⟨wr.heap.size, 1, none⟩ = some (.int .i16 (b : Int)) := cell_of_row w5 _ 1 _ _ _ X5.out
                have fz : ∀ o, w5.frozen? ⟨w.heap.size, o, none⟩ = false := fun o => frozen_of_row w5 _ o _ _ R5.out
                go_wp2
                (try simp only [Exit.inBlock, Exit.then])
                refine bodyPost_ret (v := .tuple #[.agg #[.int .i16 (a : Int), .int .i16 (b : Int)], .int .i64 0]) (by rw [results_cell_tmp rfl]; go_simp) rfl ?_
                exact ⟨_, _, _, rfl, .inr (.inr (.inl ⟨HQ.out, HX.out, a, b, hlt, hlt2, HF.out.symm, HM.out, rfl, rfl, rfl⟩)), (B6.out.setCell (Nat.le_refl _) _).setCell (Nat.le_refl _) _⟩
              · rw [decide_eq_false hf]
                have HK := Lib.hid (none_step HM.out (fun e => hf e.symm))
                clear hf
                go_wp2
                go_roundw
                case rel => exact ⟨b + 1, by omega, by go_num, HK.out, B5.out⟩
                case measure => simp [intOf]; omega
            · obtain rfl : b = ys.length := by omega
              have HR := Lib.hid (none_row HM.out)
              go_wp2
              go_roundw
              case rel => exact ⟨a + 1, by omega, by go_num, HR.out, HB.out⟩
              case measure => simp [intOf]; omega
        · obtain rfl : a = ys.length := by omega
          have B3 := Lib.hid (bnext B1.out HB.out)
          have X3 := Lib.hid ((HB.out.block _ y1).trans X1.out)
          have p0 : wr.cell? ⟨w.heap.size, 0, none⟩ = some (.int .i16 0) := cell_of_row wr _ 0 _ _ _ X3.out
          have p1 : wr.cell? ⟨w.heap.size, 1, none⟩ = some (.int .i16 0) := cell_of_row wr _ 1 _ _ _ X3.out
          have fz : ∀ o, wr.frozen? ⟨w.heap.size, o, none⟩ = false := fun o => frozen_of_row wr _ o _ _ X3.out
          go_wp2
          (try simp only [Exit.inBlock, Exit.then])
          refine bodyPost_ret (v := .tuple #[.agg #[.int .i16 0, .int .i16 0], .int .i64 6]) (by rw [results_cell_tmp rfl]; go_simp) rfl ?_
          exact ⟨0, 0, 6, rfl, .inr (.inr (.inr ⟨HQ.out, HX.out, fun a b h1 h2 => HN.out.1 a b h1 h2, rfl, rfl, rfl⟩)), (B3.out.setCell (Nat.le_refl _) _).setCell (Nat.le_refl _) _⟩
  · have HQ := Lib.hid hq
    generalize hqq : saC xs ys = q at *
    have d2 : (q != 0) = true := by simpa using hq
    have QQ := Lib.hid hqq
    clear hqq
    go_enter Tryd.func35, Tryd.ntmps35
    go_upto_region 1 with (fail)
    generalize World.alloc w _ = W1 at G0 X0 Y0 S0 S1 E0 ⊢
    go_wp2_with fail
    refine (LC.out _ E0.out S0.out S1.out).mono ?_
    rintro e w1 ⟨rfl, h1⟩
    have X1 := Lib.hid ((h1.block _ Y0.out).trans X0.out)
    have B1 := Lib.hid (bnext G0.out h1)
    clear h1
    have p0 : w1.cell? ⟨w.heap.size, 0, none⟩ = some (.int .i16 0) := cell_of_row w1 _ 0 _ _ _ X1.out
    have p1 : w1.cell? ⟨w.heap.size, 1, none⟩ = some (.int .i16 0) := cell_of_row w1 _ 1 _ _ _ X1.out
    have fz : ∀ o, w1.frozen? ⟨w.heap.size, o, none⟩ = false := fun o => frozen_of_row w1 _ o _ _ X1.out
    go_wp2
    (try simp only [Exit.inBlock, Exit.then])
    refine bodyPost_ret (v := .tuple #[.agg #[.int .i16 0, .int .i16 0], .int .i64 q]) (by rw [results_cell_tmp rfl]; go_simp) rfl ?_
    exact ⟨0, 0, q, rfl, .inl ⟨by rw [QQ.out]; exact HQ.out, rfl, rfl, QQ.out.symm⟩, (B1.out.setCell (Nat.le_refl _) _).setCell (Nat.le_refl _) _⟩
end

section
open Go.RowKit Go.Sort

theorem rowK_sl {w : World} {g N c k : Nat} {ys : List Bk} (h : RowK w g ys k N) (hk : k = ys.length) : SliceOf w (.slice (some ⟨g, 0, none⟩) k c) ys := by
  subst hk
  exact ⟨_, _, rfl, fun _ => ⟨g, 0, rfl, RowK.lt h, RowK.at_ h⟩⟩
set_option maxHeartbeats 8000000 in
theorem specOneSlip_fc (b0 o0 c0 b1 o1 c1 : Nat) (xs ys : List Bk) (wf : ∀ b ∈ xs, b.Wf) (wfy : ∀ b ∈ ys, b.Wf) (w : World) (hs : SliceOf w (.slice (some ⟨b0, o0, none⟩) xs.length c0) xs) (hs1 : SliceOf w (.slice (some ⟨b1, o1, none⟩) ys.length c1) ys) (hc0 : xs.length ≤ c0) (hc1 : ys.length ≤ c1) (hn : xs.length ≤ 1048576) (hny : ys.length ≤ 1048576) :
    Calls Tryd.prog 8 #[.slice (some ⟨b0, o0, none⟩) xs.length c0, .slice (some ⟨b1, o1, none⟩) ys.length c1] w fun e w' => ∃ f t c, e = .returned (.tuple #[.agg #[.int .i16 f, .int .i16 t], .int .i64 c]) ∧ FcR xs ys (carS ys) f t c ∧ Below w.heap.size w w' := by
  have G0 := Lib.hid (show Below w.heap.size w (w.alloc (.cells #[.int .i16 0, .int .i16 0] 26)) from (Below.refl _ _).alloc (Nat.le_refl _) _)
  have X0 := Lib.hid (heap_alloc_new w (.cells #[.int .i16 0, .int .i16 0] 26))
  have Y0 := Lib.hid (show w.heap.size < (w.alloc (.cells #[.int .i16 0, .int .i16 0] 26)).heap.size by simp)
  have mlx : xs.length ≤ maxLen := by unfold maxLen; omega
  have mly : ys.length ≤ maxLen := by unfold maxLen; omega
  have LC := Lib.hid (fun W (h : SliceOf W (.slice (some ⟨b0, o0, none⟩) xs.length c0) xs) (h1 : SliceOf W (.slice (some ⟨b1, o1, none⟩) ys.length c1) ys) => l07Same_any b0 o0 c0 _ xs ys wf wfy W h h1 hc0 hn hny)
  have LS := Lib.hid (fun W (h : SliceOf W (.slice (some ⟨b0, o0, none⟩) xs.length c0) xs) (h1 : SliceOf W (.slice (some ⟨b1, o1, none⟩) ys.length c1) ys) => l01Same_any _ _ xs ys W h h1 mlx mly)
  have LT := Lib.hid (fun W u a b (h : SliceOf W u (carS ys a b)) (h1 : SliceOf W (.slice (some ⟨b0, o0, none⟩) xs.length c0) xs) => l01Same_any u _ (carS ys a b) xs W h h1 (by rw [carS_len]; exact mly) mlx)
  have LM := Lib.hid (fun W (a b : Nat) (h : SliceOf W (.slice (some ⟨b1, o1, none⟩) ys.length c1) ys) (h60 : ys.length ≤ 60) (ha : a < ys.length) (hb : b < ys.length) => l03Moved_any b1 o1 c1 ys a b W (SliceOf.at_some h (by omega)).2 (SliceOf.at_some h (by omega)).1 hc1 hny ha hb (by omega) (by omega))
  have S0 := Lib.hid (hs.below G0.out)
  have S1 := Lib.hid (hs1.below G0.out)
  clear hs hs1 wf wfy hn mlx mly hc0 hc1
  by_cases hq : saC xs ys = 0
  · have hl := Lib.hid (sa_len hq)
    have h60 := hl.out.2.1
    have n60 : (ys.length : Int) ≤ 60 := by omega
    have HQ := Lib.hid hq
    rw [hq] at LC
    clear hq
    go_enter Tryd.func8, Tryd.ntmps8
    go_upto_region 1 with (fail)
    generalize World.alloc w _ = W1 at G0 X0 Y0 S0 S1 ⊢
    go_wp2_with fail
    refine (LC.out _ S0.out S1.out).mono ?_
    rintro e w1 ⟨rfl, h1⟩
    have X1 := Lib.hid ((h1.block _ Y0.out).trans X0.out)
    have B1 := Lib.hid (bnext G0.out h1)
    have T0 := Lib.hid (S0.out.below h1)
    have T1 := Lib.hid (S1.out.below h1)
    have y1 : w.heap.size < w1.heap.size := Nat.lt_of_lt_of_le Y0.out h1.size
    clear h1 S0 S1 LC G0 X0 Y0
    go_wp2
    go_loopw [8] (fun i_ wr => ∃ (a : Nat), a ≤ ys.length ∧ i_ = .int .i16 (a : Int) ∧ NoChg xs (carS ys) ys.length a 0 ∧ Below w1.heap.size w1 wr) (fun i_ _ => ys.length - (intOf i_).toNat)
    case atStart => exact ⟨0, Nat.zero_le _, rfl, ⟨fun a b h => absurd h (Nat.not_lt_zero _), fun b h => absurd h (Nat.not_lt_zero _)⟩, Below.refl _ _⟩
    case round =>
      obtain ⟨a, ha, rfl, hno, hb⟩ := hrel
      have HN := Lib.hid hno
      have HB := Lib.hid hb
      clear hno hb
      by_cases hlt : a < ys.length
      · have a60 : (a : Int) < 60 := by omega
        go_wp2_with fail
        refine (LS.out _ (T0.out.below HB.out) (T1.out.below HB.out)).mono ?_
        rintro e w2 ⟨rfl, h2⟩
        have B2 := Lib.hid (bnext HB.out h2)
        clear h2
        by_cases hxy : xs = ys
        · have HX := Lib.hid hxy
          rw [decide_eq_true hxy]
          clear hxy
          have B3 := Lib.hid (bnext B1.out B2.out)
          have X3 := Lib.hid ((B2.out.block _ y1).trans X1.out)
          have p0 : w2.cell? ⟨w.heap.size, 0, none⟩ = some (.int .i16 0) := cell_of_row w2 _ 0 _ _ _ X3.out
          have p1 : w2.cell? ⟨w.heap.size, 1, none⟩ = some (.int .i16 0) := cell_of_row w2 _ 1 _ _ _ X3.out
          have fz : ∀ o, w2.frozen? ⟨w.heap.size, o, none⟩ = false := fun o => frozen_of_row w2 _ o _ _ X3.out
          go_wp2
          (try simp only [Exit.inBlock, Exit.then])
          refine bodyPost_ret (v := .tuple #[.agg #[.int .i16 0, .int .i16 0], .int .i64 6]) (by rw [results_cell_tmp rfl]; go_simp) rfl ?_
          exact ⟨0, 0, 6, rfl, .inr (.inl ⟨HQ.out, HX.out, rfl, rfl, rfl⟩), (B3.out.setCell (Nat.le_refl _) _).setCell (Nat.le_refl _) _⟩
        · have HX := Lib.hid hxy
          rw [decide_eq_false hxy]
          clear hxy
          go_wp2
          go_loopw [9] (fun i_ wq => ∃ (b : Nat), b ≤ ys.length ∧ i_ = .int .i16 (b : Int) ∧ NoChg xs (carS ys) ys.length a b ∧ Below w1.heap.size w1 wq) (fun i_ _ => ys.length - (intOf i_).toNat)
          case atStart => exact ⟨0, Nat.zero_le _, rfl, HN.out, B2.out⟩
          case round =>
            obtain ⟨b, hbn, rfl, hno, hb⟩ := hrel
            have HM := Lib.hid hno
            have HB := Lib.hid hb
            clear hno hb
            by_cases hlt2 : b < ys.length
            · have b60 : (b : Int) < 60 := by omega
              have GM := Lib.hid (show Below w1.heap.size w1 (wr.alloc (.cells #[.int .i16 (a : Int), .int .i16 (b : Int)] 26)) from HB.out.alloc HB.out.size _)
              have XM := Lib.hid (heap_alloc_new wr (.cells #[.int .i16 (a : Int), .int .i16 (b : Int)] 26))
              have YM := Lib.hid (show wr.heap.size < (wr.alloc (.cells #[.int .i16 (a : Int), .int .i16 (b : Int)] 26)).heap.size by simp)
              have zr := HB.out.size
              go_upto_region 12 with (fail)
              generalize World.alloc wr _ = W3 at GM XM YM ⊢
              have m0 : W3.cell? ⟨wr.heap.size, 0, none⟩ = some (.int .i16 (a : Int)) := cell_of_row W3 _ 0 _ _ _ XM.out
              have m1 : W3.cell? ⟨wr.heap.size, 1, none⟩ = some (.int .i16 (b : Int)) := cell_of_row W3 _ 1 _ _ _ XM.out
              go_wp2_with fail
              refine (LM.out W3 a b (T1.out.below GM.out) h60 hlt hlt2).mono ?_
              rintro e w4 ⟨g', N, rfl, hr, hg, hN, h4⟩
              have U4 := Lib.hid (show SliceOf w4 (.slice (some ⟨g', 0, none⟩) ys.length N) (carS ys a b) from rowK_sl hr (carS_len ys a b).symm)
              have X4 := Lib.hid ((h4.block _ YM.out).trans XM.out)
              have B4 := Lib.hid (bnext GM.out h4)
              have Y4 := Lib.hid (Nat.lt_of_lt_of_le YM.out h4.size)
              clear h4 m0 m1 GM XM YM hr hg hN
              go_wp2_with fail
              refine (LT.out w4 _ a b U4.out (T0.out.below B4.out)).mono ?_
              rintro e w5 ⟨rfl, h5⟩
              have X5 := Lib.hid ((h5.block _ Y4.out).trans X4.out)
              have B5 := Lib.hid (bnext B4.out h5)
              clear h5 U4 X4 Y4
              by_cases hf : carS ys a b = xs
              · rw [decide_eq_true hf]
                have HF := Lib.hid hf
                clear hf
                have R5 := Lib.hid ((B5.out.block _ y1).trans X1.out)
                have B6 := Lib.hid (bnext B1.out B5.out)
                have p0 : w5.cell? ⟨w.heap.size, 0, none⟩ = some (.int .i16 0) := cell_of_row w5 _ 0 _ _ _ R5.out
                have p1 : w5.cell? ⟨w.heap.size, 1, none⟩ = some (.int .i16 0) := cell_of_row w5 _ 1 _ _ _ R5.out
                have m0 : w5.cell? ⟨wr.heap.size, 0, none⟩ = some (.int .i16 (a : Int)) := cell_of_row w5 _ 0 _ _ _ X5.out
                have m1 : w5.cell? ⟨wr.heap.size, 1, none⟩ = some (.int .i16 (b : Int)) := cell_of_row w5 _ 1 _ _ _ X5.out
                have fz : ∀ o, w5.frozen? ⟨w.heap.size, o, none⟩ = false := fun o => frozen_of_row w5 _ o _ _ R5.out
                go_wp2
                (try simp only [Exit.inBlock, Exit.then])
                refine bodyPost_ret (v := .tuple #[.agg #[.int .i16 (a : Int), .int .i16 (b : Int)], .int .i64 0]) (by rw [results_cell_tmp rfl]; go_simp) rfl ?_
                exact ⟨_, _, _, rfl, .inr (.inr (.inl ⟨HQ.out, HX.out, a, b, hlt, hlt2, HF.out, HM.out, rfl, rfl, rfl⟩)), (B6.out.setCell (Nat.le_refl _) _).setCell (Nat.le_refl _) _⟩
              · rw [decide_eq_false hf]
                have HK := Lib.hid (none_step HM.out hf)
                clear hf
                go_wp2
                go_roundw
                case rel => exact ⟨b + 1, by omega, by go_num, HK.out, B5.out⟩
                case measure => simp [intOf]; omega
            · obtain rfl : b = ys.length := by omega
              have HR := Lib.hid (none_row HM.out)
              go_wp2
              go_roundw
              case rel => exact ⟨a + 1, by omega, by go_num, HR.out, HB.out⟩
              case measure => simp [intOf]; omega
      · obtain rfl : a = ys.length := by omega
        have B3 := Lib.hid (bnext B1.out HB.out)
        have X3 := Lib.hid ((HB.out.block _ y1).trans X1.out)
        have p0 : wr.cell? ⟨w.heap.size, 0, none⟩ = some (.int .i16 0) := cell_of_row wr _ 0 _ _ _ X3.out
        have p1 : wr.cell? ⟨w.heap.size, 1, none⟩ = some (.int .i16 0) := cell_of_row wr _ 1 _ _ _ X3.out
        have fz : ∀ o, wr.frozen? ⟨w.heap.size, o, none⟩ = false := fun o => frozen_of_row wr _ o _ _ X3.out
        go_wp2
        (try simp only [Exit.inBlock, Exit.then])
        refine bodyPost_ret (v := .tuple #[.agg #[.int .i16 0, .int .i16 0], .int .i64 6]) (by rw [results_cell_tmp rfl]; go_simp) rfl ?_
        refine ⟨0, 0, 6, rfl, ?_, (B3.out.setCell (Nat.le_refl _) _).setCell (Nat.le_refl _) _⟩
        by_cases hxy : xs = ys
        · exact .inr (.inl ⟨HQ.out, hxy, rfl, rfl, rfl⟩)
        · exact .inr (.inr (.inr ⟨HQ.out, hxy, fun a b h1 h2 => HN.out.1 a b h1 h2, rfl, rfl, rfl⟩))
  · have HQ := Lib.hid hq
    generalize hqq : saC xs ys = q at *
    have d2 : (q != 0) = true := by simpa using hq
    have QQ := Lib.hid hqq
    clear hqq
    go_enter Tryd.func8, Tryd.ntmps8
    go_upto_region 1 with (fail)
    generalize World.alloc w _ = W1 at G0 X0 Y0 S0 S1 ⊢
    go_wp2_with fail
    refine (LC.out _ S0.out S1.out).mono ?_
    rintro e w1 ⟨rfl, h1⟩
    have X1 := Lib.hid ((h1.block _ Y0.out).trans X0.out)
    have B1 := Lib.hid (bnext G0.out h1)
    clear h1
    have p0 : w1.cell? ⟨w.heap.size, 0, none⟩ = some (.int .i16 0) := cell_of_row w1 _ 0 _ _ _ X1.out
    have p1 : w1.cell? ⟨w.heap.size, 1, none⟩ = some (.int .i16 0) := cell_of_row w1 _ 1 _ _ _ X1.out
    have fz : ∀ o, w1.frozen? ⟨w.heap.size, o, none⟩ = false := fun o => frozen_of_row w1 _ o _ _ X1.out
    go_wp2
    (try simp only [Exit.inBlock, Exit.then])
    refine bodyPost_ret (v := .tuple #[.agg #[.int .i16 0, .int .i16 0], .int .i64 q]) (by rw [results_cell_tmp rfl]; go_simp) rfl ?_
    exact ⟨0, 0, q, rfl, .inl ⟨by rw [QQ.out]; exact HQ.out, rfl, rfl, QQ.out.symm⟩, (B1.out.setCell (Nat.le_refl _) _).setCell (Nat.le_refl _) _⟩
theorem specOneSlip_any (b0 o0 c0 b1 o1 c1 : Nat) (xs ys : List Bk) (wf : ∀ b ∈ xs, b.Wf) (wfy : ∀ b ∈ ys, b.Wf) (w : World) (hs : SliceOf w (.slice (some ⟨b0, o0, none⟩) xs.length c0) xs) (hs1 : SliceOf w (.slice (some ⟨b1, o1, none⟩) ys.length c1) ys) (hc0 : xs.length ≤ c0) (hc1 : ys.length ≤ c1) (hn : xs.length ≤ 1048576) (hny : ys.length ≤ 1048576) :
    Calls Tryd.prog 8 #[.slice (some ⟨b0, o0, none⟩) xs.length c0, .slice (some ⟨b1, o1, none⟩) ys.length c1] w fun e w' => e = .returned (.tuple #[.agg #[.int .i16 (slR xs ys).1, .int .i16 (slR xs ys).2.1], .int .i64 (slR xs ys).2.2]) ∧ Below w.heap.size w w' := by
  refine (specOneSlip_fc b0 o0 c0 b1 o1 c1 xs ys wf wfy w hs hs1 hc0 hc1 hn hny).mono ?_
  rintro e w' ⟨f, t, c, rfl, hf, h⟩
  obtain ⟨e1, e2, e3⟩ := slR_of hf
  exact ⟨by rw [← e1, ← e2, ← e3], h⟩
end

section
open Go.RowKit Go.Sort

set_option maxHeartbeats 8000000 in
theorem oneSlip1_any (ys : List Bk) (a b gb bb oo c : Nat) (w : World) (hy : ys.length ≤ 60) (ha : a < ys.length) (hb : b < ys.length) (hcap : ys.length ≤ c) (hgb : gb < w.heap.size) (hc : w.cell? ⟨gb, 0, none⟩ = some (.slice (some ⟨bb, oo, none⟩) ys.length c)) (hbb : bb < w.heap.size) (hat : BooksAt w bb oo ys) :
    Calls Tryd.prog 36 #[.agg #[.int .i16 (a : Int), .int .i16 (b : Int)], .pointer (some ⟨gb, 0, none⟩)] w fun e w' => ∃ u, e = .returned u ∧ SliceOf w' u (carS ys a b) ∧ Below w.heap.size w w' := by
  have G0 := Lib.hid (show Below w.heap.size w (w.alloc (.cells #[.int .i16 (a : Int), .int .i16 (b : Int)] 26)) from (Below.refl _ _).alloc (Nat.le_refl _) _)
  have X0 := Lib.hid (heap_alloc_new w (.cells #[.int .i16 (a : Int), .int .i16 (b : Int)] 26))
  have K0 := Lib.hid (show (w.alloc (.cells #[.int .i16 (a : Int), .int .i16 (b : Int)] 26)).cell? ⟨gb, 0, none⟩ = some (.slice (some ⟨bb, oo, none⟩) ys.length c) from (G0.out.cell (p := ⟨gb, 0, none⟩) hgb).trans hc)
  have A0 := Lib.hid (hat.below G0.out hbb)
  have L0 := Lib.hid (Nat.lt_of_lt_of_le hbb G0.out.size)
  clear hc hat hbb hgb
  go_enter Tryd.func36, Tryd.ntmps36
  go_upto_region 1 with (fail)
  generalize World.alloc w _ = W1 at G0 X0 K0 A0 L0 ⊢
  have k0 := K0.out
  have m0 : W1.cell? ⟨w.heap.size, 0, none⟩ = some (.int .i16 (a : Int)) := cell_of_row W1 _ 0 _ _ _ X0.out
  have m1 : W1.cell? ⟨w.heap.size, 1, none⟩ = some (.int .i16 (b : Int)) := cell_of_row W1 _ 1 _ _ _ X0.out
  go_wp2_with fail
  refine (withBlock_any bb oo c ys a 1 b _ A0.out L0.out hcap hy (Nat.le_refl _) (by omega) (by omega)).mono ?_
  rintro e w2 ⟨u, rfl, hr, h2⟩
  have HR := Lib.hid hr
  have B2 := Lib.hid (bnext G0.out h2)
  clear hr h2 k0 m0 m1
  go_wp2
  go_ret
  exact ⟨_, rfl, HR.out.slice, B2.out⟩
set_option maxHeartbeats 4000000 in
theorem oneSlip_any (v0 : Value) (b1 o1 c1 : Nat) (xs ys : List Bk) (wf : ∀ b ∈ xs, b.Wf) (wfy : ∀ b ∈ ys, b.Wf) (w : World) (s i y : Addr) (he : Errs w s i y) (hs : SliceOf w v0 xs) (hs1 : SliceOf w (.slice (some ⟨b1, o1, none⟩) ys.length c1) ys) (hc1 : ys.length ≤ c1) (hn : xs.length ≤ 1048576) (hny : ys.length ≤ 1048576) :
    Calls Tryd.prog 10 #[v0, .slice (some ⟨b1, o1, none⟩) ys.length c1] w fun e w' => e = .returned (.tuple #[.agg #[.int .i16 (slR xs ys).1, .int .i16 (slR xs ys).2.1], .int .i64 (slR xs ys).2.2]) ∧ Below w.heap.size w w' := by
  generalize ev : Value.slice (some ⟨b1, o1, none⟩) ys.length c1 = v1 at *
  have H0 := Lib.hid ((Below.refl w.heap.size w).alloc (Nat.le_refl _) (.cells #[v1] 29))
  have H1 := Lib.hid (heap_alloc_new w (.cells #[v1] 29))
  have H2 := Lib.hid (show w.heap.size < (w.alloc (.cells #[v1] 29)).heap.size by simp)
  subst ev
  have HI := Lib.hid he
  have S0 := Lib.hid hs
  have S1 := Lib.hid hs1
  obtain ⟨A0, c0, rfl, -⟩ := hs
  have LF := Lib.hid (fun W (he : Errs W s i y) (h0 : SliceOf W (.slice A0 xs.length c0) xs) (h1 : SliceOf W (.slice (some ⟨b1, o1, none⟩) ys.length c1) ys) (hb : w.heap.size < W.heap.size) (hx : W.heap[w.heap.size]? = some (.cells #[.slice (some ⟨b1, o1, none⟩) ys.length c1] 29 (0, 0))) =>
    firstChangeS_any (carS ys) _ _ (.pointer (some ⟨w.heap.size, 0, none⟩)) xs ys wf wfy W s i y he h0 h1 hn hny (fun W2 a b hW h60 ha hb2 =>
      oneSlip1_any ys a b w.heap.size b1 o1 c1 W2 h60 ha hb2 hc1 (Nat.lt_of_lt_of_le hb hW.size) (cell_of_row W2 _ 0 _ _ _ ((hW.block _ hb).trans hx)) (SliceOf.at_some (h1.below hW) (by omega)).1 (SliceOf.at_some (h1.below hW) (by omega)).2) (fun a b => by rw [carS_len]; unfold maxLen; omega))
  clear wf wfy he hn hny hs1
  have G := Lib.hid (show Below w.heap.size w ((w.alloc (.cells #[.slice (some ⟨b1, o1, none⟩) ys.length c1] 29)).alloc (.cells #[.int .i16 0, .int .i16 0] 26)) from H0.out.alloc (by simp) _)
  have GB := Lib.hid (show ((w.alloc (.cells #[.slice (some ⟨b1, o1, none⟩) ys.length c1] 29)).alloc (.cells #[.int .i16 0, .int .i16 0] 26)).heap[w.heap.size]? = some (.cells #[.slice (some ⟨b1, o1, none⟩) ys.length c1] 29 (0, 0)) from (Below.heap_alloc _ _ _ H2.out).trans H1.out)
  have GM := Lib.hid (show ((w.alloc (.cells #[.slice (some ⟨b1, o1, none⟩) ys.length c1] 29)).alloc (.cells #[.int .i16 0, .int .i16 0] 26)).heap[w.heap.size + 1]? = some (.cells #[.int .i16 0, .int .i16 0] 26 (0, 0)) from by have := heap_alloc_new (w.alloc (.cells #[.slice (some ⟨b1, o1, none⟩) ys.length c1] 29)) (.cells #[.int .i16 0, .int .i16 0] 26); rwa [show (w.alloc (.cells #[.slice (some ⟨b1, o1, none⟩) ys.length c1] 29)).heap.size = w.heap.size + 1 by simp] at this)
  clear H0 H1 H2
  go_enter Tryd.func10, Tryd.ntmps10
  go_upto_region 1 with (fail)
  generalize World.alloc _ _ = W2 at G GB GM ⊢
  have y0 : w.heap.size < W2.heap.size := (Array.getElem?_eq_some_iff.1 GB.out).1
  have y1 : w.heap.size + 1 < W2.heap.size := (Array.getElem?_eq_some_iff.1 GM.out).1
  have q0 : W2.cell? ⟨w.heap.size, 0, none⟩ = some (.slice (some ⟨b1, o1, none⟩) ys.length c1) := cell_of_row W2 _ 0 _ _ _ GB.out
  go_wp2_with fail
  refine (LF.out W2 (HI.out.below G.out) (S0.out.below G.out) (S1.out.below G.out) y0 GB.out).mono ?_
  rintro e w3 ⟨f, t, c, rfl, hf, h3⟩
  obtain ⟨e1, e2, e3⟩ := slR_of hf
  have E := Lib.hid (And.intro e1 (And.intro e2 e3))
  have M3 := Lib.hid ((h3.block _ y1).trans GM.out)
  have G3 := Lib.hid (bnext G.out h3)
  clear q0 h3 hf e1 e2 e3
  have p0 : w3.cell? ⟨w.heap.size + 1, 0, none⟩ = some (.int .i16 0) := cell_of_row w3 _ 0 _ _ _ M3.out
  have p1 : w3.cell? ⟨w.heap.size + 1, 1, none⟩ = some (.int .i16 0) := cell_of_row w3 _ 1 _ _ _ M3.out
  have fz : ∀ o, w3.frozen? ⟨w.heap.size + 1, o, none⟩ = false := fun o => frozen_of_row w3 _ o _ _ M3.out
  go_wp2
  (try simp only [Exit.inBlock, Exit.then])
  refine bodyPost_ret (v := .tuple #[.agg #[.int .i16 f, .int .i16 t], .int .i64 c]) (by rw [results_cell_tmp rfl]; go_simp) rfl ?_
  exact ⟨by rw [E.out.1, E.out.2.1, E.out.2.2], (G3.out.setCell (by show w.heap.size ≤ w.heap.size + 1; omega) _).setCell (by show w.heap.size ≤ w.heap.size + 1; omega) _⟩
end

end Go.Proofs.YtkclobdealnkhaaDoor
