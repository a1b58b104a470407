/- Shortest walks: plain form, by the model and by the program. No condition. -/
import Derived.Test.YtecpddkbbfpeeaaWk
import Derived.BigQuiet
import Derived.Deep.RegionHeldLaw
import Derived.Deep.AppendLies
import Derived.IntWalk
import Derived.Deep.RegionLaw
import Derived.Deep.Cut
import Derived.Test.YtecpddkbbfpeeaaOwn
import Derived.RangeFuncNested
import Derived.RangeFuncBound
import Derived.RangeFuncCalls
import Derived.RangeFuncLeaves
import Derived.Shelf.Abstract
import Derived.Shelf.RegionOpen
import Derived.OwnWalkIn
import Derived.TacticsInMore
import Derived.LoopNIn
import Derived.LoopIn
import Derived.Shelf.SortM.Plain
import Derived.Shelf.SortM.SortNone
import Derived.Shelf.SlGeneric
import Derived.Ground.SlgmProg
import Derived.Ground.SlgnProg
import Derived.Shelf.SlicesG.SearchI
import Derived.Sort.OwnSortedInts
import Derived.Test.YtecpddkbbfpeeaaWkI
import Derived.ScopeJumps
import Derived.WalkMore
namespace Go.Proofs.Ytecpddkbbfpeeaa
set_option linter.unusedSimpArgs false
set_option linter.unusedVariables false
set_option maxRecDepth 100000

section
def mnI (a b : Int) : Int := if a ≤ b then a else b
theorem ap_cases (a b : Int) : (b ≤ a ∧ apart a b = a - b) ∨ (a < b ∧ apart a b = b - a) := by unfold apart; omega
theorem mn_cases (a b : Int) : (a ≤ b ∧ mnI a b = a) ∨ (b < a ∧ mnI a b = b) := by unfold mnI; split <;> omega
/-- c is the least length of a walk to the stops of L from s. -/
def LeastIs (L : List Int) (s c : Int) : Prop := (L = [] ∧ c = 0) ∨ ∃ lo hi, lo ∈ L ∧ hi ∈ L ∧ (∀ x ∈ L, lo ≤ x ∧ x ≤ hi) ∧ c = hi - lo + mnI (apart s lo) (apart s hi)
/-- R is L without x: it may hold x once more. -/
def RemP (L : List Int) (x : Int) (R : List Int) : Prop := (∀ y ∈ R, y ∈ L) ∧ ∀ y ∈ L, y ≠ x → y ∈ R
theorem rem_erase (L : List Int) (i : Nat) (h : i < L.length) : RemP L L[i] (L.take i ++ L.drop (i + 1)) := by
  constructor
  · intro y hy
    rcases List.mem_append.1 hy with h1 | h1
    · exact List.mem_of_mem_take h1
    · exact List.mem_of_mem_drop h1
  · intro y hy hne
    obtain ⟨k, hk, rfl⟩ := List.getElem_of_mem hy
    rcases Nat.lt_trichotomy k i with h1 | h1 | h1
    · exact List.mem_append_left _ (List.mem_take_iff_getElem.2 ⟨k, by omega, rfl⟩)
    · subst h1; exact absurd rfl hne
    · refine List.mem_append_right _ (List.mem_drop_iff_getElem.2 ⟨k - (i + 1), by omega, ?_⟩)
      congr 1
      omega
theorem least_uniq {L : List Int} {s c c' : Int} (h : LeastIs L s c) (h' : LeastIs L s c') : c = c' := by
  rcases h with ⟨rfl, rfl⟩ | ⟨lo, hi, a1, a2, a3, a4⟩
  · rcases h' with ⟨_, rfl⟩ | ⟨_, _, b1, _⟩
    · rfl
    · cases b1
  · rcases h' with ⟨rfl, _⟩ | ⟨lo', hi', b1, b2, b3, b4⟩
    · cases a1
    · have e1 : lo = lo' := by have := (a3 lo' b1).1; have := (b3 lo a1).1; omega
      have e2 : hi = hi' := by have := (a3 hi' b2).2; have := (b3 hi a2).2; omega
      subst e1 e2
      rw [a4, b4]
/-- The least stop with which a shortest walk goes on. -/
structure StepOk (L : List Int) (s v : Int) : Prop where
  mem : v ∈ L
  yes : ∀ c R c', LeastIs L s c → RemP L v R → LeastIs R v c' → apart s v + c' = c
  min : ∀ c x R c', x ∈ L → LeastIs L s c → RemP L x R → LeastIs R x c' → apart s x + c' = c → v ≤ x
/-- What is left behind x. -/
theorem rest_cases {L R : List Int} {x c' lo hi : Int} (hr : RemP L x R) (h : LeastIs R x c') (b : ∀ y ∈ L, lo ≤ y ∧ y ≤ hi) (hlo : lo ∈ L) (hhi : hi ∈ L) :
    (c' = 0 ∧ lo = x ∧ hi = x) ∨ ∃ l h, l ∈ L ∧ h ∈ L ∧ lo ≤ l ∧ h ≤ hi ∧ l ≤ h ∧ (lo = x ∨ l = lo) ∧ (hi = x ∨ h = hi) ∧ c' = h - l + mnI (apart x l) (apart x h) := by
  rcases h with ⟨rfl, rfl⟩ | ⟨l, h, a1, a2, a3, a4⟩
  · left
    have all : ∀ y ∈ L, y = x := fun y hy => by
      by_cases e : y = x
      · exact e
      · exact absurd (hr.2 y hy e) (by simp)
    exact ⟨rfl, all lo hlo, all hi hhi⟩
  · right
    refine ⟨l, h, hr.1 l a1, hr.1 h a2, (b l (hr.1 l a1)).1, (b h (hr.1 h a2)).2, (a3 l a1).2, ?_, ?_, a4⟩
    · by_cases e : lo = x
      · exact .inl e
      · right
        have h1 := (a3 lo (hr.2 lo hlo e)).1
        have h2 := (b l (hr.1 l a1)).1
        omega
    · by_cases e : hi = x
      · exact .inl e
      · right
        have h1 := (a3 hi (hr.2 hi hhi e)).2
        have h2 := (b h (hr.1 h a2)).2
        omega
/-- Nearer to the least stop: it is the next one. -/
theorem step_low {L : List Int} {s lo hi : Int} (hlo : lo ∈ L) (hhi : hi ∈ L) (b : ∀ y ∈ L, lo ≤ y ∧ y ≤ hi) (h : apart s lo ≤ apart s hi) : StepOk L s lo := by
  have lh := (b lo hlo).2
  refine ⟨hlo, fun c R c' hc hr hR => ?_, fun c x R c' hx _ _ _ _ => (b x hx).1⟩
  have ec := least_uniq hc (.inr ⟨lo, hi, hlo, hhi, b, rfl⟩)
  have a1 := ap_cases s lo
  have a2 := ap_cases s hi
  have a3 := mn_cases (apart s lo) (apart s hi)
  rcases rest_cases hr hR b hlo hhi with ⟨h1, h2, h3⟩ | ⟨l, h', m1, m2, q1, q2, q3, q4, q5, q6⟩
  · omega
  · have a4 := ap_cases lo l
    have a5 := ap_cases lo h'
    have a6 := mn_cases (apart lo l) (apart lo h')
    omega
/-- Nearer to the greatest stop, and one lies ahead: the first of them. -/
theorem step_up {L : List Int} {s lo hi v : Int} (hlo : lo ∈ L) (hhi : hi ∈ L) (b : ∀ y ∈ L, lo ≤ y ∧ y ≤ hi) (h : apart s hi < apart s lo) (hv : v ∈ L) (hs : s ≤ v) (hmin : ∀ y ∈ L, s ≤ y → v ≤ y) : StepOk L s v := by
  have lh := (b lo hlo).2
  have bv := b v hv
  have hsh := hmin hi hhi
  have a1 := ap_cases s lo
  have a2 := ap_cases s hi
  have a3 := mn_cases (apart s lo) (apart s hi)
  refine ⟨hv, fun c R c' hc hr hR => ?_, fun c x R c' hx hc hr hR he => ?_⟩
  · have ec := least_uniq hc (.inr ⟨lo, hi, hlo, hhi, b, rfl⟩)
    have b1 := ap_cases s v
    rcases rest_cases hr hR b hlo hhi with ⟨h1, h2, h3⟩ | ⟨l, h', m1, m2, q1, q2, q3, q4, q5, q6⟩
    · omega
    · have a4 := ap_cases v l
      have a5 := ap_cases v h'
      have a6 := mn_cases (apart v l) (apart v h')
      omega
  · have ec := least_uniq hc (.inr ⟨lo, hi, hlo, hhi, b, rfl⟩)
    have b1 := ap_cases s x
    have bx := b x hx
    have hx2 := hmin x hx
    rcases rest_cases hr hR b hlo hhi with ⟨h1, h2, h3⟩ | ⟨l, h', m1, m2, q1, q2, q3, q4, q5, q6⟩
    · omega
    · have a4 := ap_cases x l
      have a5 := ap_cases x h'
      have a6 := mn_cases (apart x l) (apart x h')
      omega
/-- All stops lie behind: the greatest one is the next. -/
theorem step_down {L : List Int} {s lo hi : Int} (hlo : lo ∈ L) (hhi : hi ∈ L) (b : ∀ y ∈ L, lo ≤ y ∧ y ≤ hi) (hs : hi ≤ s) : StepOk L s hi := by
  have lh := (b lo hlo).2
  have a1 := ap_cases s lo
  have a2 := ap_cases s hi
  have a3 := mn_cases (apart s lo) (apart s hi)
  refine ⟨hhi, fun c R c' hc hr hR => ?_, fun c x R c' hx hc hr hR he => ?_⟩
  · have ec := least_uniq hc (.inr ⟨lo, hi, hlo, hhi, b, rfl⟩)
    rcases rest_cases hr hR b hlo hhi with ⟨h1, h2, h3⟩ | ⟨l, h', m1, m2, q1, q2, q3, q4, q5, q6⟩
    · omega
    · have a4 := ap_cases hi l
      have a5 := ap_cases hi h'
      have a6 := mn_cases (apart hi l) (apart hi h')
      omega
  · have ec := least_uniq hc (.inr ⟨lo, hi, hlo, hhi, b, rfl⟩)
    have b1 := ap_cases s x
    have bx := b x hx
    rcases rest_cases hr hR b hlo hhi with ⟨h1, h2, h3⟩ | ⟨l, h', m1, m2, q1, q2, q3, q4, q5, q6⟩
    · omega
    · have a4 := ap_cases x l
      have a5 := ap_cases x h'
      have a6 := mn_cases (apart x l) (apart x h')
      omega
theorem max_ex : ∀ {l : List Int}, l ≠ [] → ∃ m, m ∈ l ∧ ∀ y ∈ l, y ≤ m
  | [], h => absurd rfl h
  | [a], _ => ⟨a, by simp, by simp⟩
  | a :: b :: t, _ => by
    obtain ⟨m, h1, h2⟩ := max_ex (l := b :: t) (by simp)
    by_cases h : m ≤ a
    · refine ⟨a, by simp, fun y hy => ?_⟩
      rcases List.mem_cons.1 hy with rfl | hy
      · exact Int.le_refl _
      · exact Int.le_trans (h2 y hy) h
    · refine ⟨m, List.mem_cons_of_mem _ h1, fun y hy => ?_⟩
      rcases List.mem_cons.1 hy with rfl | hy
      · omega
      · exact h2 y hy
theorem min_ex : ∀ {l : List Int}, l ≠ [] → ∃ m, m ∈ l ∧ ∀ y ∈ l, m ≤ y
  | [], h => absurd rfl h
  | [a], _ => ⟨a, by simp, by simp⟩
  | a :: b :: t, _ => by
    obtain ⟨m, h1, h2⟩ := min_ex (l := b :: t) (by simp)
    by_cases h : a ≤ m
    · refine ⟨a, by simp, fun y hy => ?_⟩
      rcases List.mem_cons.1 hy with rfl | hy
      · exact Int.le_refl _
      · exact Int.le_trans h (h2 y hy)
    · refine ⟨m, List.mem_cons_of_mem _ h1, fun y hy => ?_⟩
      rcases List.mem_cons.1 hy with rfl | hy
      · omega
      · exact h2 y hy
theorem least_ex {L : List Int} (s : Int) : ∃ c, LeastIs L s c := by
  by_cases h : L = []
  · exact ⟨0, .inl ⟨h, rfl⟩⟩
  · obtain ⟨hi, h1, h2⟩ := max_ex h
    obtain ⟨lo, h3, h4⟩ := min_ex h
    exact ⟨_, .inr ⟨lo, hi, h3, h1, fun x hx => ⟨h4 x hx, h2 x hx⟩, rfl⟩⟩
theorem least_congr {L L' : List Int} {s c : Int} (he : ∀ y, y ∈ L ↔ y ∈ L') (h : LeastIs L s c) : LeastIs L' s c := by
  rcases h with ⟨rfl, rfl⟩ | ⟨lo, hi, a1, a2, a3, a4⟩
  · left
    refine ⟨List.eq_nil_iff_forall_not_mem.2 fun y hy => ?_, rfl⟩
    have := (he y).2 hy
    simp at this
  · exact .inr ⟨lo, hi, (he lo).1 a1, (he hi).1 a2, fun x hx => a3 x ((he x).2 hx), a4⟩
theorem step_congr {L L' : List Int} {s v : Int} (he : ∀ y, y ∈ L ↔ y ∈ L') (h : StepOk L s v) : StepOk L' s v :=
  ⟨(he v).1 h.mem, fun c R c' hc hr hR => h.yes c R c' (least_congr (fun y => (he y).symm) hc) ⟨fun y hy => (he y).2 (hr.1 y hy), fun y hy hne => hr.2 y ((he y).1 hy) hne⟩ hR,
   fun c x R c' hx hc hr hR e => h.min c x R c' ((he x).2 hx) (least_congr (fun y => (he y).symm) hc) ⟨fun y hy => (he y).2 (hr.1 y hy), fun y hy hne => hr.2 y ((he y).1 hy) hne⟩ hR e⟩
/-- W is the walk that is asked for. -/
def WalkOk : List Int → Int → Prop
  | [], _ => True
  | v :: W, s => StepOk (v :: W) s v ∧ WalkOk W v
theorem walk_len : ∀ {W : List Int} {s : Int}, WalkOk W s → LeastIs W s (farF s W)
  | [], _, _ => .inl ⟨rfl, rfl⟩
  | v :: W, s, h => by
    obtain ⟨c, hc⟩ := least_ex (L := v :: W) s
    have hr : RemP (v :: W) v W := ⟨fun y hy => List.mem_cons_of_mem _ hy, fun y hy hne => by
      rcases List.mem_cons.1 hy with e | e
      · exact absurd e hne
      · exact e⟩
    have := h.1.yes c W _ hc hr (walk_len h.2)
    rw [farF, this]
    exact hc
theorem walk_asc : ∀ {W : List Int} {s : Int}, W.Pairwise (· ≤ ·) → (∀ v t, W = v :: t → ∀ hi ∈ W, (∀ y ∈ W, y ≤ hi) → apart s v ≤ apart s hi) → WalkOk W s
  | [], _, _, _ => trivial
  | v :: t, s, hp, h => by
    obtain ⟨h1, h2⟩ := List.pairwise_cons.1 hp
    obtain ⟨hi, m1, m2⟩ := max_ex (l := v :: t) (by simp)
    refine ⟨step_low (lo := v) (by simp) m1 (fun y hy => ⟨?_, m2 y hy⟩) (h v t rfl hi m1 m2), walk_asc h2 fun v2 t2 e hi2 n1 n2 => ?_⟩
    · rcases List.mem_cons.1 hy with e | e
      · omega
      · exact h1 y e
    · subst e
      have a := h1 v2 (by simp)
      have b := n2 v2 (by simp)
      have c := ap_cases v v2
      have d := ap_cases v hi2
      omega
theorem walk_desc : ∀ {W : List Int} {s : Int}, W.Pairwise (fun a b => b ≤ a) → (∀ y ∈ W, y ≤ s) → WalkOk W s
  | [], _, _, _ => trivial
  | v :: t, s, hp, h => by
    obtain ⟨h1, h2⟩ := List.pairwise_cons.1 hp
    obtain ⟨lo, m1, m2⟩ := min_ex (l := v :: t) (by simp)
    refine ⟨step_down m1 (by simp) (fun y hy => ⟨m2 y hy, ?_⟩) (h v (by simp)), walk_desc h2 h1⟩
    rcases List.mem_cons.1 hy with e | e
    · omega
    · exact h1 y e
theorem walk_both {down : List Int} {lo : Int} (hd : down.Pairwise (fun a b => b ≤ a)) (hlo : lo ∈ down) (hmin : ∀ y ∈ down, lo ≤ y) : ∀ {up : List Int} {s : Int}, up.Pairwise (· ≤ ·) → (∀ y ∈ up, s ≤ y) → (∀ y ∈ down, y < s) → (∀ hi ∈ up, hi - s < s - lo) → WalkOk (up ++ down) s
  | [], s, _, _, h, _ => walk_desc hd (fun y hy => by have := h y hy; omega)
  | v :: t, s, hp, hu, h, hc => by
    obtain ⟨h1, h2⟩ := List.pairwise_cons.1 hp
    obtain ⟨hi, m1, m2⟩ := max_ex (l := v :: t) (by simp)
    have hv := hu v (by simp)
    have hvl := h lo hlo
    have hih := hu hi m1
    have hcc := hc hi m1
    refine ⟨step_up (L := (v :: t) ++ down) (lo := lo) (hi := hi) (List.mem_append_right _ hlo) (List.mem_append_left _ m1) (fun y hy => ?_) ?_ (by simp) hv (fun y hy hsy => ?_), walk_both hd hlo hmin h2 h1 (fun y hy => by have := h y hy; omega) (fun k hk => by have := hc k (List.mem_cons_of_mem _ hk); omega)⟩
    · rcases List.mem_append.1 (show y ∈ (v :: t) ++ down from hy) with e | e
      · have := hu y e
        exact ⟨by omega, m2 y e⟩
      · have := h y e
        exact ⟨hmin y e, by omega⟩
    · have c := ap_cases s hi
      have d := ap_cases s lo
      omega
    · rcases List.mem_append.1 (show y ∈ (v :: t) ++ down from hy) with e | e
      · rcases List.mem_cons.1 e with e | e
        · omega
        · exact h1 y e
      · have := h y e
        omega
/-- The walk by the program. -/
def turnB (row : List Int) (s : Int) : Bool := decide (0 < row.length) && decide (row.getD (row.length - 1) 0 - s < s - row.getD 0 0)
def walkL (row : List Int) (s : Int) (f : Nat) : List Int := row.drop f ++ (row.take f).reverse
theorem sorted_get {row : List Int} (hp : row.Pairwise (· ≤ ·)) {i j : Nat} (hij : i ≤ j) (hj : j < row.length) : row[i]'(by omega) ≤ row[j] := by
  rcases Nat.lt_or_ge i j with h | h
  · exact List.pairwise_iff_getElem.1 hp i j (by omega) hj h
  · obtain rfl : i = j := by omega
    exact Int.le_refl _
theorem walk_ok {row : List Int} {s : Int} {f : Nat} (hp : row.Pairwise (· ≤ ·)) (hf : f ≤ row.length) (h0 : turnB row s = false → f = 0) (h1 : turnB row s = true → (∀ i (h : i < row.length), i < f → row[i] < s) ∧ ∀ i (h : i < row.length), f ≤ i → s ≤ row[i]) : WalkOk (walkL row s f) s := by
  cases ht : turnB row s
  · rw [h0 ht]
    unfold walkL
    rw [List.take_zero, List.drop_zero, List.reverse_nil, List.append_nil]
    refine walk_asc hp fun v t e hi m1 m2 => ?_
    subst e
    have hl : (v :: t).getD ((v :: t).length - 1) 0 = hi := by
      obtain ⟨k, hk, rfl⟩ := List.getElem_of_mem m1
      rw [List.getD_eq_getElem?_getD, List.getElem?_eq_getElem (by simp)]
      have a := sorted_get hp (i := k) (j := (v :: t).length - 1) (by omega) (by simp)
      have b := m2 _ (List.getElem_mem (l := v :: t) (n := (v :: t).length - 1) (by simp))
      simp only [Option.getD_some]
      omega
    unfold turnB at ht
    rw [hl] at ht
    simp at ht
    have a := m2 v (by simp)
    have c := ap_cases s v
    have d := ap_cases s hi
    omega
  · obtain ⟨a1, a2⟩ := h1 ht
    unfold turnB at ht
    simp only [Bool.and_eq_true, decide_eq_true_eq] at ht
    obtain ⟨n0, hc⟩ := ht
    rw [List.getD_eq_getElem?_getD, List.getD_eq_getElem?_getD, List.getElem?_eq_getElem (by omega), List.getElem?_eq_getElem n0] at hc
    simp only [Option.getD_some] at hc
    have fpos : 0 < f := by
      rcases Nat.eq_zero_or_pos f with e | e
      · have b1 := a2 0 n0 (by omega)
        have b2 := sorted_get hp (i := 0) (j := row.length - 1) (by omega) (by omega)
        omega
      · exact e
    refine walk_both (lo := row[0]) ?_ ?_ ?_ (hp.drop) ?_ ?_ ?_
    · rw [List.pairwise_reverse]
      exact hp.take
    · rw [List.mem_reverse]
      exact List.mem_take_iff_getElem.2 ⟨0, by omega, rfl⟩
    · intro y hy
      rw [List.mem_reverse] at hy
      obtain ⟨k, hk, rfl⟩ := List.mem_take_iff_getElem.1 hy
      exact sorted_get hp (by omega) (by omega)
    · intro y hy
      obtain ⟨k, hk, rfl⟩ := List.mem_drop_iff_getElem.1 hy
      exact a2 _ (by omega) (by omega)
    · intro y hy
      rw [List.mem_reverse] at hy
      obtain ⟨k, hk, rfl⟩ := List.mem_take_iff_getElem.1 hy
      exact a1 _ (by omega) (by omega)
    · intro y hy
      obtain ⟨k, hk, rfl⟩ := List.mem_drop_iff_getElem.1 hy
      have := sorted_get hp (i := f + k) (j := row.length - 1) (by omega) (by omega)
      omega
theorem all_ge_lt {row : List Int} (hp : row.Pairwise (· ≤ ·)) (a : Int) : (∀ i (h : i < row.length), i < (row.takeWhile (fun x => decide (x < a))).length → row[i] < a) ∧ ∀ i (h : i < row.length), (row.takeWhile (fun x => decide (x < a))).length ≤ i → a ≤ row[i] := by
  induction row with
  | nil => exact ⟨fun i h => absurd h (Nat.not_lt_zero _), fun i h => absurd h (Nat.not_lt_zero _)⟩
  | cons v t ih =>
    obtain ⟨h1, h2⟩ := List.pairwise_cons.1 hp
    obtain ⟨i1, i2⟩ := ih h2
    by_cases hv : v < a
    · rw [List.takeWhile_cons_of_pos (by simpa using hv)]
      refine ⟨fun i h hi => ?_, fun i h hi => ?_⟩
      · match i, h, hi with
        | 0, _, _ => exact hv
        | i + 1, h, hi => exact i1 i (by simpa using h) (by simpa using hi)
      · match i, h, hi with
        | 0, _, hi => simp at hi
        | i + 1, h, hi => exact i2 i (by simpa using h) (by simpa using hi)
    · rw [List.takeWhile_cons_of_neg (by simpa using hv)]
      refine ⟨fun i h hi => absurd hi (Nat.not_lt_zero _), fun i h _ => ?_⟩
      match i, h with
      | 0, _ => show a ≤ v; omega
      | i + 1, h => have := h1 (t[i]'(by simpa using h)) (List.getElem_mem _); show a ≤ t[i]'(by simpa using h); omega
def lbI (row : List Int) (a : Int) : Nat := (row.takeWhile (fun x => decide (x < a))).length
theorem lbI_le (row : List Int) (a : Int) : lbI row a ≤ row.length := by
  unfold lbI
  exact (List.takeWhile_sublist _).length_le
theorem lb_uniq {row : List Int} (hp : row.Pairwise (· ≤ ·)) {a : Int} {p : Nat} (hl : p ≤ row.length) (h1 : ∀ i (h : i < row.length), i < p → row[i] < a) (h2 : ∀ i (h : i < row.length), p ≤ i → a ≤ row[i]) : p = lbI row a := by
  obtain ⟨b1, b2⟩ := all_ge_lt hp a
  have hl2 := lbI_le row a
  unfold lbI at hl2 ⊢
  rcases Nat.lt_trichotomy p (row.takeWhile (fun x => decide (x < a))).length with h | h | h
  · have := b1 p (by omega) h
    have := h2 p (by omega) (Nat.le_refl _)
    omega
  · exact h
  · have := h1 _ (by omega) h
    have := b2 _ (by omega) (Nat.le_refl _)
    omega
def rowI (zs : List Int) : List Int := zs.mergeSort (fun a b => decide (a ≤ b))
theorem rowI_perm (zs : List Int) : (rowI zs).Perm zs := List.mergeSort_perm _ _
theorem rowI_sorted (zs : List Int) : (rowI zs).Pairwise (· ≤ ·) := by
  have := List.pairwise_mergeSort (le := fun a b : Int => decide (a ≤ b)) (fun a b c h1 h2 => by simp at *; omega) (fun a b => by simp; omega) zs
  exact this.imp (fun h => by simpa using h)
theorem sorted_uniq {xs ys : List Int} (hp : xs.Perm ys) (h1 : xs.Pairwise (· ≤ ·)) (h2 : ys.Pairwise (· ≤ ·)) : xs = ys :=
  List.Perm.eq_of_pairwise (fun a b _ _ h1 h2 => by omega) h1 h2 hp
/-- The walk that is returned. -/
def fstI (zs : List Int) (a : Int) : Nat := if turnB (rowI zs) a then lbI (rowI zs) a else 0
def walkI (zs : List Int) (a : Int) : List Int := walkL (rowI zs) a (fstI zs a)
theorem walkI_perm (zs : List Int) (a : Int) : (walkI zs a).Perm zs := by
  unfold walkI walkL
  refine List.Perm.trans ?_ (rowI_perm zs)
  refine (List.perm_append_comm).trans ?_
  have := (List.reverse_perm ((rowI zs).take (fstI zs a))).append_right ((rowI zs).drop (fstI zs a))
  rwa [List.take_append_drop] at this
theorem walkI_ok (zs : List Int) (a : Int) : WalkOk (walkI zs a) a := by
  unfold walkI
  have hl := lbI_le (rowI zs) a
  refine walk_ok (rowI_sorted zs) (by unfold fstI; split <;> omega) (fun h => by unfold fstI; rw [h]; rfl) (fun h => ?_)
  unfold fstI
  rw [h]
  exact all_ge_lt (rowI_sorted zs) a
theorem walkI_least (zs : List Int) (a c : Int) (h : LeastIs zs a c) : c = farF a (walkI zs a) :=
  least_uniq (least_congr (fun y => (walkI_perm zs a).mem_iff.symm) h) (walk_len (walkI_ok zs a))
end

section
open Go.RowKit

theorem l00Min_any (a b : Int) (w : World) : Calls Try.prog 48 #[.int .i64 a, .int .i64 b] w fun e w' => e = .returned (.int .i64 (mnI a b)) ∧ w = w' := by
  by_cases h : a < b
  · have E := Lib.hid (show mnI a b = a by unfold mnI; rw [if_pos (by omega)])
    have h2 : ¬ (b ≤ a) := by omega
    have h3 : a ≤ b := by omega
    go_enter Try.func48, Try.ntmps48
    go_wp2
    go_ret
    exact ⟨by rw [E.out]; rfl, rfl⟩
  · have E := Lib.hid (show mnI a b = b by unfold mnI; split <;> omega)
    have h3 : b ≤ a := by omega
    go_enter Try.func48, Try.ntmps48
    go_wp2
    go_ret
    exact ⟨by rw [E.out]; rfl, rfl⟩

/-- The least and the greatest of the first k stops. -/
structure LoHi (L : List Int) (k : Nat) (lo hi : Int) : Prop where
  l : ∃ i, ∃ h : i < L.length, L[i] = lo
  h : ∃ i, ∃ h : i < L.length, L[i] = hi
  b : ∀ (i : Nat) (h : i < L.length), i < k → lo ≤ L[i] ∧ L[i] ≤ hi
theorem LoHi.step {L : List Int} {k : Nat} {lo hi : Int} (h : LoHi L k lo hi) (hk : k < L.length) : LoHi L (k + 1) (mnI lo L[k]) (if hi < L[k] then L[k] else hi) := by
  have mc := mn_cases lo L[k]
  refine ⟨?_, ?_, fun i hi' hik => ?_⟩
  · rcases mc with ⟨_, e⟩ | ⟨_, e⟩
    · rw [e]; exact h.l
    · rw [e]; exact ⟨k, hk, rfl⟩
  · split
    · exact ⟨k, hk, rfl⟩
    · exact h.h
  · by_cases e : i = k
    · subst e; split <;> omega
    · have := h.b i hi' (by omega)
      split <;> omega
theorem LoHi.least {L : List Int} {lo hi s : Int} (h : LoHi L L.length lo hi) : LeastIs L s (hi - lo + mnI (apart s lo) (apart s hi)) := by
  obtain ⟨i, h1, rfl⟩ := h.l
  obtain ⟨j, h2, rfl⟩ := h.h
  refine .inr ⟨_, _, List.getElem_mem h1, List.getElem_mem h2, fun x hx => ?_, rfl⟩
  obtain ⟨k, hk, rfl⟩ := List.getElem_of_mem hx
  exact h.b k hk hk

set_option maxHeartbeats 4000000 in
theorem l07Least_any (v : Value) (L : List Int) (s : Int) (w : World) (hs : IntsOf .i64 w v L) (hb : ∀ x ∈ L, 0 ≤ x ∧ x ≤ 999) (h0 : 0 ≤ s ∧ s ≤ 999) (h60 : L.length ≤ 60) :
    Calls Try.prog 25 #[v, .int .i64 s] w fun e w' => ∃ c, e = .returned (.int .i64 c) ∧ LeastIs L s c ∧ 0 ≤ c ∧ c ≤ 3000 ∧ Below w.heap.size w w' := by
  obtain ⟨A, cc, rfl, hat⟩ := hs
  have HAT := Lib.hid hat
  have HB := Lib.hid (fun i (h : i < L.length) => hb L[i] (List.getElem_mem h))
  clear hat hb
  by_cases hl : L.length = 0
  · have E := Lib.hid (show LeastIs L s 0 from .inl ⟨List.eq_nil_of_length_eq_zero hl, rfl⟩)
    have hl' : ((L.length : Nat) : Int) = 0 := by omega
    have d1 : (((L.length : Nat) : Int) == 0) = true := by rw [beq_iff_eq]; exact hl'
    clear hl
    go_enter Try.func25, Try.ntmps25
    go_wp2
    go_ret
    exact ⟨0, rfl, E.out, by omega, by omega, Below.refl _ _⟩
  · obtain ⟨g, o, rfl, hg, hc⟩ := HAT.out (by omega)
    have HC := Lib.hid hc
    have hpos : 0 < L.length := Nat.pos_of_ne_zero hl
    have c0 := hc 0 hpos
    rw [Nat.add_zero] at c0
    have d1 : (((L.length : Nat) : Int) == 0) = false := by rw [beq_eq_false_iff_ne]; omega
    have I0 := Lib.hid (show LoHi L 1 (L[0]'hpos) (L[0]'hpos) from ⟨⟨0, hpos, rfl⟩, ⟨0, hpos, rfl⟩, fun i h hi => (by obtain rfl : i = 0 := (by omega); exact ⟨Int.le_refl _, Int.le_refl _⟩)⟩)
    clear hc hl
    go_enter Try.func25, Try.ntmps25
    go_wp2
    clear c0
    go_loopw [5, 6, 7] (fun l_ h_ k_ wr => ∃ (k : Nat) (lo hi : Int), k ≤ L.length ∧ k_ = .int .i64 (k : Int) ∧ l_ = .int .i64 lo ∧ h_ = .int .i64 hi ∧ LoHi L k lo hi ∧ wr = w) (fun _ _ k_ _ => L.length - (intOf k_).toNat)
    case atStart => exact ⟨1, _, _, by omega, rfl, rfl, rfl, I0.out, rfl⟩
    case round =>
      obtain ⟨k, lo, hi, hk, rfl, rfl, rfl, hi0, rfl⟩ := hrel
      have HI := Lib.hid hi0
      clear hi0
      by_cases hlt : k < L.length
      · have p0 := HC.out k hlt
        have IS := Lib.hid (HI.out.step hlt)
        generalize L[k] = z at p0 IS
        go_wp2_with fail
        refine (l00Min_any lo z _).mono ?_
        rintro e w1 ⟨rfl, rfl⟩
        go_wp2_with fail
        refine (l00Max_any hi z _ rfl _).mono ?_
        rintro e w1 ⟨rfl, rfl⟩
        go_wp2
        go_roundw
        case rel => exact ⟨k + 1, _, _, by omega, by go_num, rfl, rfl, IS.out, by first | rfl | trivial⟩
        case measure => simp [intOf]; omega
      · obtain rfl : k = L.length := by omega
        have LI := Lib.hid (HI.out.least (s := s))
        obtain ⟨i, h1, e1⟩ := HI.out.l
        obtain ⟨j, h2, e2⟩ := HI.out.h
        have b1 : 0 ≤ lo ∧ lo ≤ 999 := by rw [← e1]; exact HB.out i h1
        have b2 : 0 ≤ hi ∧ hi ≤ 999 := by rw [← e2]; exact HB.out j h2
        have a1 := apart_bd h0 b1
        have a2 := apart_bd h0 b2
        have bl : lo ≤ hi := by
          have := HI.out.b i h1 h1
          omega
        have AP1 := Lib.hid (fun W => l07Apart_any s lo h0 b1 W)
        have AP2 := Lib.hid (fun W => l07Apart_any s hi h0 b2 W)
        have n1 : IntKind.i64.wrap (hi - lo) = hi - lo := IntWalk.i64_in _ (by omega)
        have mc := mn_cases (apart s lo) (apart s hi)
        have n2 : IntKind.i64.wrap (hi - lo + mnI (apart s lo) (apart s hi)) = hi - lo + mnI (apart s lo) (apart s hi) := IntWalk.i64_in _ (by omega)
        have FB := Lib.hid (show 0 ≤ hi - lo + mnI (apart s lo) (apart s hi) ∧ hi - lo + mnI (apart s lo) (apart s hi) ≤ 3000 by omega)
        clear e1 e2 h1 h2 mc hlt a1 a2 bl b1 b2
        go_wp2_with fail
        refine (AP1.out _).mono ?_
        rintro e w1 ⟨rfl, rfl⟩
        go_wp2_with fail
        refine (AP2.out _).mono ?_
        rintro e w1 ⟨rfl, rfl⟩
        go_wp2_with fail
        refine (l00Min_any _ _ _).mono ?_
        rintro e w1 ⟨rfl, rfl⟩
        go_wp2
        go_ret
        exact ⟨_, rfl, LI.out, FB.out.1, FB.out.2, Below.refl _ _⟩
end

section
open Go.RowKit

section
variable {P : Program} (w : World)
/-- An append to a row of the call's own, at a step of a drawn region. -/
theorem step_append_someI {ops : Array Oper} {o : Oper} {a : Act} {K : Act → World → Prop} {Q : Exit → Act → World → Prop} {E : Prop} (hgd : o.guard = none) (s x : Operand) (t : TypeId)
    (ho : o.op = .call { callee := .builtin .append, args := #[s, x], argTypes := #[t, t] })
    (base : Nat) (e : TypeId) (i : TypeInfo) (z : Value) (size bytes : Nat) (ht : P.underlying t = some (.slice e)) (hi : P.info? e = some i) (hz : i.zero = some z)
    (hsize : i.size = size) (hby : i.bytes = bytes) (hzs : z.cells.size = size) (hsz : 0 < size)
    (g0 c0 : Nat) (n : Nat) (xs : List Value) (hs : a.eval s = .slice (some ⟨g0, 0, none⟩) n c0) (hown : w.ownsRow base e size (.slice (some ⟨g0, 0, none⟩) n c0) n xs)
    (ad : Addr) (m c : Nat) (news : List Value) (hx : a.eval x = .slice (some ad) m c) (hl : news.length = m * size) (hnews : ∀ j u, news[j]? = some u → w.cell? (ad.add j) = some u) (h1 : ∀ u ∈ news, u.oneCell' = true)
    (h63 : n + m ≤ maxLen) (hbytes : (n + m) * bytes ≤ 140737488355328) (hbase : base ≤ w.heap.size)
    (h : ∀ g cap w', w'.ownsRow base e size (.slice (some ⟨g, 0, none⟩) (n + m) cap) (n + m) (xs ++ news) → w.grownBy w' (some g0) → K (a.put o.dst (.slice (some ⟨g, 0, none⟩) (n + m) cap)) w') :
    if Region.wanted o (yielded ops a.tmps) = true then Oper.wp P o a w K Q else E := by
  have hw : Region.wanted o (yielded ops a.tmps) = true := by simp [Region.wanted, hgd]
  rw [if_pos hw]
  refine wp_append_own w s x t ho base e i z size bytes ht hi hz hsize hby hzs hsz _ n xs hs hown ad m c news hx hl hnews h1 h63 hbytes hbase fun v' w' h2 h3 h4 => ?_
  rcases h2.2 with ⟨e1, _⟩ | ⟨g, cap, cur, rfl, _⟩
  · have := (h4.1 e1).1
    cases this
  · exact h g cap w' h2 h3
end
theorem own_emptyIS (W : World) (B : Nat) (h : B ≤ W.heap.size) : (W.alloc (.cells #[] 2)).drew.ownsRow B 2 1 (.slice (some ⟨W.heap.size, 0, none⟩) 0 0) 0 [] :=
  ⟨by simp, .inr ⟨W.heap.size, 0, #[], rfl, h, heap_alloc_new W _, Nat.le_refl _, Nat.zero_le _, by simp, by simp⟩⟩
theorem elemN : Try.prog.underlying 24 = some (.slice (Try.prog.elem 24)) := by kernel_rfl
theorem sizeN (w : World) : (sizeOf (Try.prog.elem 24)).run Try.prog w = .ok 1 w := by kernel_rfl
theorem infoIntS : (Try.prog.info? 2).map (fun i => (i.zero, i.size, i.bytes)) = some (some (.int .i64 0), 1, 8) := by kernel_rfl
theorem run_hiN (A : Option Addr) (n c k : Nat) (hk : k ≤ c) (w : World) :
    (Instr.slice 24 (.slice A n c) none (some (.int .i64 (k : Int))) none).run Try.prog w = .ok (.slice A k c) w := by
  rw [run_slice_h w _ _ _ _ elemN _ _ (by omega) (by omega), sizeN]
  cases A <;> simp [Result.andThen, sliced, Addr.add]
/-- Where the numbers from i on lie. -/
def loN (o i c : Nat) : Nat := if c = i then o else o + i
theorem run_loN (g o n c i : Nat) (hi : i ≤ n) (hc : n ≤ c) (w : World) :
    (Instr.slice 24 (.slice (some ⟨g, o, none⟩) n c) (some (.int .i64 (i : Int))) none none).run Try.prog w = .ok (.slice (some ⟨g, loN o i c, none⟩) (n - i) (c - i)) w := by
  rw [run_slice_l w _ _ _ _ elemN _ _ (by omega) (by omega), sizeN]
  unfold loN
  by_cases h : c = i
  · simp [Result.andThen, sliced, h]
  · simp [Result.andThen, sliced, h, Addr.add]
theorem ints_one (l : List Int) : ∀ u ∈ l.map (Value.int .i64), u.oneCell' = true := fun u hu => by
  obtain ⟨z, _, rfl⟩ := List.mem_map.1 hu
  rfl
theorem take_cells {W : World} {g o : Nat} {l : List Int} (h : IntsAt .i64 W g o l) (k : Nat) : ∀ j u, ((l.take k).map (Value.int .i64))[j]? = some u → W.cell? ((⟨g, o, none⟩ : Addr).add j) = some u := fun j u hu => by
  rw [Addr.add_lit]
  rw [List.getElem?_map] at hu
  obtain ⟨z, hz, rfl⟩ := Option.map_eq_some_iff.1 hu
  rw [List.getElem?_take] at hz
  split at hz
  · obtain ⟨hj, rfl⟩ := List.getElem?_eq_some_iff.1 hz
    exact h j hj
  · cases hz
theorem drop_cells {W : World} {g : Nat} {l : List Int} (h : IntsAt .i64 W g 0 l) (k c : Nat) (hc : l.length ≤ c) : ∀ j u, ((l.drop k).map (Value.int .i64))[j]? = some u → W.cell? ((⟨g, loN 0 k c, none⟩ : Addr).add j) = some u := fun j u hu => by
  rw [Addr.add_lit]
  rw [List.getElem?_map] at hu
  obtain ⟨z, hz, rfl⟩ := Option.map_eq_some_iff.1 hu
  rw [List.getElem?_drop] at hz
  obtain ⟨hj, rfl⟩ := List.getElem?_eq_some_iff.1 hz
  have := h (k + j) hj
  unfold loN
  rw [if_neg (by omega)]
  rwa [Nat.zero_add] at this ⊢
theorem least_bd {L : List Int} {s c : Int} (h : LeastIs L s c) (hb : ∀ x ∈ L, 0 ≤ x ∧ x ≤ 999) (h0 : 0 ≤ s ∧ s ≤ 999) : 0 ≤ c ∧ c ≤ 3000 := by
  rcases h with ⟨_, rfl⟩ | ⟨lo, hi, a1, a2, a3, rfl⟩
  · omega
  · have b1 := hb lo a1
    have b2 := hb hi a2
    have b3 := (a3 lo a1).2
    have := mn_cases (apart s lo) (apart s hi)
    have := apart_bd h0 b1
    have := apart_bd h0 b2
    omega
theorem l07Least_is (v : Value) (L : List Int) (s c : Int) (w : World) (hs : IntsOf .i64 w v L) (hb : ∀ x ∈ L, 0 ≤ x ∧ x ≤ 999) (h0 : 0 ≤ s ∧ s ≤ 999) (h60 : L.length ≤ 60) (hc : LeastIs L s c) :
    Calls Try.prog 25 #[v, .int .i64 s] w fun e w' => e = .returned (.int .i64 c) ∧ Below w.heap.size w w' :=
  (l07Least_any v L s w hs hb h0 h60).mono fun e w' h => by
    obtain ⟨c', rfl, h1, _, _, h2⟩ := h
    exact ⟨by rw [least_uniq hc h1], h2⟩
def erI (L : List Int) (i : Nat) : List Int := L.take i ++ L.drop (i + 1)
/-- With the stop at k a shortest walk goes on. -/
def ValidK (L : List Int) (s need : Int) (k : Nat) : Prop := ∃ h : k < L.length, ∃ c, LeastIs (erI L k) L[k] c ∧ apart s L[k] + c = need
/-- The best among the first i. -/
def BestK (L : List Int) (s need : Int) (i : Nat) (b : Int) : Prop :=
  (b = -1 ∧ ∀ k, k < i → ¬ ValidK L s need k) ∨ ∃ m : Nat, b = (m : Int) ∧ m < i ∧ ∃ h : m < L.length, ValidK L s need m ∧ ∀ k (hk : k < L.length), k < i → ValidK L s need k → L[m] ≤ L[k]
theorem BestK.no {L : List Int} {s need b : Int} {i : Nat} (h : BestK L s need i b) (hv : ¬ ValidK L s need i) : BestK L s need (i + 1) b := by
  rcases h with ⟨rfl, h⟩ | ⟨m, rfl, h1, h2, h3, h4⟩
  · exact .inl ⟨rfl, fun k hk => by
      by_cases e : k = i
      · subst e; exact hv
      · exact h k (by omega)⟩
  · exact .inr ⟨m, rfl, by omega, h2, h3, fun k hk hki hvk => by
      by_cases e : k = i
      · subst e; exact absurd hvk hv
      · exact h4 k hk (by omega) hvk⟩
theorem BestK.first {L : List Int} {s need : Int} {i : Nat} (h : BestK L s need i (-1)) (hi : i < L.length) (hv : ValidK L s need i) : BestK L s need (i + 1) (i : Int) := by
  rcases h with ⟨_, h⟩ | ⟨m, e, _⟩
  · exact .inr ⟨i, rfl, by omega, hi, hv, fun k hk hki hvk => by
      by_cases e : k = i
      · subst e; exact Int.le_refl _
      · exact absurd hvk (h k (by omega))⟩
  · omega
theorem BestK.less {L : List Int} {s need : Int} {i m : Nat} (h : BestK L s need i (m : Int)) (hi : i < L.length) (hm : m < L.length) (hv : ValidK L s need i) (hl : L[i] < L[m]) : BestK L s need (i + 1) (i : Int) := by
  rcases h with ⟨e, _⟩ | ⟨m', e, h1, h2, h3, h4⟩
  · omega
  · obtain rfl : m = m' := by omega
    exact .inr ⟨i, rfl, by omega, hi, hv, fun k hk hki hvk => by
      by_cases e : k = i
      · subst e; exact Int.le_refl _
      · have := h4 k hk (by omega) hvk
        omega⟩
theorem BestK.more {L : List Int} {s need : Int} {i m : Nat} (h : BestK L s need i (m : Int)) (hi : i < L.length) (hm : m < L.length) (hl : ¬ L[i] < L[m]) : BestK L s need (i + 1) (m : Int) := by
  rcases h with ⟨e, _⟩ | ⟨m', e, h1, h2, h3, h4⟩
  · omega
  · obtain rfl : m = m' := by omega
    exact .inr ⟨m, rfl, by omega, h2, h3, fun k hk hki hvk => by
      by_cases e : k = i
      · subst e; omega
      · exact h4 k hk (by omega) hvk⟩
theorem BestK.form {L : List Int} {s need b : Int} {i : Nat} (h : BestK L s need i b) : b = -1 ∨ ∃ m : Nat, b = (m : Int) ∧ m < i ∧ m < L.length := by
  rcases h with ⟨rfl, _⟩ | ⟨m, e, h1, h2, _⟩
  · exact .inl rfl
  · exact .inr ⟨m, e, h1, h2⟩
/-- At the end the best one is the next of the walk. -/
theorem best_end {L : List Int} {s need b v : Int} {W : List Int} (hp : L.Perm (v :: W)) (hw : StepOk (v :: W) s v) (hn : LeastIs L s need) (h : BestK L s need L.length b) : ∃ m : Nat, b = (m : Int) ∧ ∃ hm : m < L.length, L[m] = v ∧ (erI L m).Perm W := by
  have hs : StepOk L s v := step_congr (fun y => hp.mem_iff.symm) hw
  obtain ⟨k0, hk0, e0⟩ := List.getElem_of_mem hs.mem
  have vk : ValidK L s need k0 := by
    obtain ⟨c, hc⟩ := least_ex (L := erI L k0) L[k0]
    refine ⟨hk0, c, hc, ?_⟩
    have := hs.yes need (erI L k0) c hn (by rw [← e0]; exact rem_erase L k0 hk0) (by rw [← e0]; exact hc)
    rw [e0]; exact this
  rcases h with ⟨rfl, h⟩ | ⟨m, rfl, h1, h2, h3, h4⟩
  · exact absurd vk (h k0 hk0)
  · refine ⟨m, rfl, h2, ?_⟩
    have le := h4 k0 hk0 hk0 vk
    rw [e0] at le
    obtain ⟨_, c, hc, hcn⟩ := h3
    have ge := hs.min need L[m] (erI L m) c (List.getElem_mem h2) hn (rem_erase L m h2) hc hcn
    have ev : L[m] = v := by omega
    refine ⟨ev, ?_⟩
    have p1 : L.Perm (L[m] :: erI L m) := by
      unfold erI
      have e : L = L.take m ++ L[m] :: L.drop (m + 1) := by
        rw [← List.drop_eq_getElem_cons h2, List.take_append_drop]
      exact (List.Perm.of_eq e).trans List.perm_middle
    rw [ev] at p1
    exact (p1.symm.trans hp).cons_inv
/-- Where the walk stands. -/
def stI (a : Int) (W : List Int) : Nat → Int
  | 0 => a
  | j + 1 => W.getD j 0
theorem walk_at : ∀ {W : List Int} {a : Int} (j : Nat) (h : j < W.length), WalkOk W a → StepOk (W[j] :: W.drop (j + 1)) (stI a W j) W[j]
  | v :: W, a, 0, _, hw => hw.1
  | v :: W, a, 1, h, hw => walk_at (W := W) 0 (by simpa using h) hw.2
  | v :: W, a, j + 2, h, hw => by
    have := walk_at (W := W) (a := v) (j + 1) (by simp only [List.length_cons] at h; omega) hw.2
    simpa [stI] using this
def swR (zs : List Int) (a : Int) : List Int := if wkC zs a = 0 then walkI zs a else []
def swV (zs : List Int) (a : Int) : Int := if wkC zs a = 0 then farF a (walkI zs a) else 0
theorem swR_len (zs : List Int) (a : Int) : (swR zs a).length ≤ 60 := by
  unfold swR
  split
  · rename_i h
    rw [(walkI_perm zs a).length_eq]
    unfold wkC at h
    split at h
    · split at h
      · by_cases h3 : zs.length ≤ 60
        · exact h3
        · simp [h3] at h
      · cases h
    · cases h
  · simp

/-- A list of numbers in block g. -/
def LefP (W : World) (v : Value) (g : Nat) (l : List Int) : Prop := ∃ c, v = .slice (some ⟨g, 0, none⟩) l.length c ∧ g < W.heap.size ∧ l.length ≤ c ∧ IntsAt .i64 W g 0 l
theorem LefP.below {W W' : World} {v : Value} {g B : Nat} {l : List Int} (h : LefP W v g l) (hb : Below B W W') (hg : g < B) : LefP W' v g l := by
  obtain ⟨c, e, h1, h2, h3⟩ := h
  exact ⟨c, e, Nat.lt_of_lt_of_le h1 hb.size, h2, fun i hi => (hb.cell (p := ⟨g, 0 + i, none⟩) hg).trans (h3 i hi)⟩
theorem LefP.kept {W W' : World} {v : Value} {g : Nat} {l : List Int} {row : Option Nat} (h : LefP W v g l) (hg : W.grownBy W' row) (hne : some g ≠ row) : LefP W' v g l := by
  obtain ⟨c, e, h1, h2, h3⟩ := h
  exact ⟨c, e, Nat.lt_of_lt_of_le h1 hg.size, h2, fun i hi => hg.cell (h3 i hi) hne⟩
theorem LefP.of {W : World} {B g n c : Nat} {l : List Int} (h : W.ownsRow B 2 1 (.slice (some ⟨g, 0, none⟩) n c) n (l.map (Value.int .i64))) (hn : n = l.length) : B ≤ g ∧ LefP W (.slice (some ⟨g, 0, none⟩) n c) g l := by
  subst hn
  have hb := h.lt g rfl
  have ho := ownInts h
  refine ⟨hb.1, c, rfl, hb.2, ?_, fun i hi => ?_⟩
  · rcases h.2 with ⟨h, _⟩ | ⟨g', cap', cur, h, _, _, hc, _⟩
    · cases h
    · injection h with h1 h2 h3
      omega
  · obtain ⟨A, c', e, hf⟩ := ho
    obtain ⟨g', o', hA, _, hat⟩ := hf (by omega)
    injection e with q1 q2 q3
    rw [hA] at q1
    injection q1 with q1
    injection q1 with q1 q2
    subst q1 q2
    exact hat i hi
def lenV : Value → Nat
  | .slice _ n _ => n
  | _ => 0
theorem stI_bd {a : Int} {W zs : List Int} (hp : W.Perm zs) (ha : 0 ≤ a ∧ a ≤ 999) (hz : ∀ x ∈ zs, 0 ≤ x ∧ x ≤ 999) : ∀ j, j ≤ W.length → 0 ≤ stI a W j ∧ stI a W j ≤ 999
  | 0, _ => ha
  | j + 1, h => by
    have e : stI a W (j + 1) = W[j]'(by omega) := by simp [stI, List.getD_eq_getElem?_getD, List.getElem?_eq_getElem (show j < W.length by omega)]
    rw [e]
    exact hz _ (hp.mem_iff.1 (List.getElem_mem _))

set_option maxHeartbeats 16000000 in
theorem specShortestWalk_any (gz oz cz : Nat) (zs : List Int) (a : Int) (w : World) (hs : IntsOf .i64 w (.slice (some ⟨gz, oz, none⟩) zs.length cz) zs) (hn : zs.length ≤ maxLen) :
    Calls Try.prog 8 #[.slice (some ⟨gz, oz, none⟩) zs.length cz, .int .i64 a] w fun e w' => ∃ u, e = .returned (.tuple #[u, .int .i64 (swV zs a), .int .i64 (wkC zs a)]) ∧ w'.ownsRow w.heap.size 2 1 u (swR zs a).length ((swR zs a).map (Value.int .i64)) ∧ Below w.heap.size w w' := by
  have HS := Lib.hid hs
  obtain ⟨i0, hi0, hz0, hz1, hz2⟩ := info_parts infoIntS
  by_cases h : wkC zs a = 0
  · have EC := Lib.hid h
    have E1 := Lib.hid (show swV zs a = farF a (walkI zs a) by unfold swV; rw [if_pos h])
    have E2 := Lib.hid (show swR zs a = walkI zs a by unfold swR; rw [if_pos h])
    obtain ⟨ha, hz, h60⟩ : stopB a = true ∧ zs.all stopB = true ∧ zs.length ≤ 60 := by
      rcases wk_cases zs a with ⟨_, h1, _⟩ | ⟨_, _, h1, _⟩ | ⟨_, _, _, h1, _⟩ | ⟨h1, h2, h3, _⟩
      · omega
      · omega
      · omega
      · exact ⟨h1, h2, h3⟩
    have HA := Lib.hid (stopB_bd ha)
    have HZ := Lib.hid (show ∀ x ∈ zs, 0 ≤ x ∧ x ≤ 999 from fun x hx => stopB_bd (List.all_eq_true.1 hz x hx))
    have WP := Lib.hid (walkI_perm zs a)
    have WL := Lib.hid (show (walkI zs a).length = zs.length from (walkI_perm zs a).length_eq)
    have WO := Lib.hid (fun j (hj : j < (walkI zs a).length) => walk_at j hj (walkI_ok zs a))
    have LW := Lib.hid (fun c hc => walkI_least zs a c hc)
    have NC := Lib.hid (fun j u (hj : (zs.map (Value.int .i64))[j]? = some u) => (show w.cell? ((⟨gz, oz, none⟩ : Addr).add j) = some u ∧ gz < w.heap.size from by
      rw [List.getElem?_map] at hj
      obtain ⟨z, hz, rfl⟩ := Option.map_eq_some_iff.1 hj
      obtain ⟨hjl, rfl⟩ := List.getElem?_eq_some_iff.1 hz
      obtain ⟨A, c, e, hf⟩ := HS.out
      obtain ⟨g', o', hA, hg', hat⟩ := hf (by omega)
      injection e with q1 q2 q3
      rw [hA] at q1
      injection q1 with q1
      injection q1 with q1 q2
      subst q1 q2
      rw [Addr.add_lit]
      exact ⟨hat j hjl, hg'⟩))
    generalize walkI zs a = WW at E1 E2 WP WL WO LW
    clear h ha hz hs
    go_enter Try.func8, Try.ntmps8
    go_wp2_with fail
    refine (l07Walk_any _ zs a _ HS.out hn).mono ?_
    rintro e w1 ⟨rfl, rfl⟩
    rw [EC.out]
    go_wp2_with fail
    refine (l07Least_any _ zs a _ HS.out HZ.out HA.out h60).mono ?_
    rintro e w1 ⟨call, rfl, hcall, -, -, g1⟩
    have CALL := Lib.hid (show call = farF a WW from LW.out _ hcall)
    have B1 := Lib.hid g1
    have hle := g1.size
    have OE := Lib.hid (show (w1.alloc (.cells #[] 2)).ownsRow w1.heap.size 2 1 (.slice (some ⟨w1.heap.size, 0, none⟩) 0 0) 0 [] from ⟨rfl, .inr ⟨w1.heap.size, 0, #[], rfl, Nat.le_refl _, heap_alloc_new w1 _, Nat.le_refl _, Nat.zero_le _, rfl, rfl⟩⟩)
    have B1a := Lib.hid ((Below.refl w1.heap.size w1).alloc (Nat.le_refl _) (.cells #[] 2))
    clear hcall g1
    go_wp2_with (at_builtin; refine wpList_append_own _ rfl (.tmp 25) (.tmp 26) _ rfl w1.heap.size 2 i0 (.int .i64 0) 1 8 Try.underlying24 hi0 hz0 hz1 hz2 rfl (by decide) _ _ _ rfl OE.out ⟨gz, oz, none⟩ zs.length cz (zs.map (Value.int .i64)) rfl (by simp) ?c1a ?c2a ?c3a ?c4a ?c5a ?_)
    case c1a =>
      intro j u hj
      have := NC.out j u hj
      rw [Addr.add_lit] at this ⊢
      exact ((bnext B1.out B1a.out).cell (p := ⟨gz, oz + j, none⟩) this.2).trans this.1
    case c2a => exact ints_one _
    case c3a => (unfold maxLen; omega)
    case c4a => omega
    case c5a => (simp)
    intro v' w2 hown hgrow hnil
    obtain ⟨gl0, cl0, rfl⟩ : ∃ gl0 cl0, v' = .slice (some ⟨gl0, 0, none⟩) zs.length cl0 := by
      rcases hown.2 with ⟨e1, _⟩ | ⟨g, cap, cur, rfl, _⟩
      · exact absurd e1 hnil
      · exact ⟨g, cap, rfl⟩
    obtain ⟨lb0, lp0⟩ := LefP.of hown rfl
    have L0 := Lib.hid lp0
    have B2 := Lib.hid (show Below w1.heap.size w1 w2 from B1a.out.grown hgrow B1a.out.size (fun k hk => by first | (injection hk with hk; omega) | (simp [Value.ownBlock] at hk; omega)))
    have z2 := B2.out.size
    have LA := Lib.hid (LefP.below L0.out ((Below.refl w2.heap.size w2).alloc (Nat.le_refl _) (.cells #[] 2)) (by obtain ⟨_, _, h, _⟩ := L0.out; exact h))
    have OO := Lib.hid (show (w2.alloc (.cells #[] 2)).ownsRow w1.heap.size 2 1 (.slice (some ⟨w2.heap.size, 0, none⟩) 0 0) 0 ((WW.take 0).map (Value.int .i64)) from ⟨by simp, .inr ⟨w2.heap.size, 0, #[], rfl, z2, heap_alloc_new w2 _, Nat.le_refl _, Nat.zero_le _, by simp, by simp⟩⟩)
    have BA := Lib.hid (B2.out.alloc z2 (.cells #[] 2))
    have DJ := Lib.hid (show ∀ k, (Value.slice (some ⟨w2.heap.size, 0, none⟩) 0 0).ownBlock = some k → k ≠ gl0 from fun k hk => by
      obtain ⟨_, _, h, _⟩ := L0.out
      simp [Value.ownBlock] at hk
      omega)
    clear hown hgrow hnil lp0
    go_wp2
    go_loopw [1, 9, 10] (fun a_ l_ o_ wr => ∃ (j : Nat) (lv : List Int) (gl : Nat), j ≤ WW.length ∧ lv.Perm (WW.drop j) ∧ a_ = .int .i64 (stI a WW j) ∧ LefP wr l_ gl lv ∧ w1.heap.size ≤ gl ∧ wr.ownsRow w1.heap.size 2 1 o_ j ((WW.take j).map (Value.int .i64)) ∧ (∀ k, o_.ownBlock = some k → k ≠ gl) ∧ Below w1.heap.size w1 wr) (fun _ l_ _ _ => lenV l_)
    case atStart => exact ⟨0, zs, gl0, Nat.zero_le _, WP.out.symm, rfl, LA.out, lb0, OO.out, DJ.out, BA.out⟩
    case round =>
      obtain ⟨j, lv, gl, hj, hperm, rfl, hlef, hlg, hown, hdj, hb⟩ := hrel
      have PE := Lib.hid hperm
      have OW := Lib.hid hown
      have DJ := Lib.hid hdj
      have BB := Lib.hid hb
      have hbs := hb.size
      obtain ⟨cl, rfl, zgl, hcl, hat⟩ := hlef
      have HL := Lib.hid hat
      have hlen : lv.length = WW.length - j := by rw [PE.out.length_eq, List.length_drop]
      have n60 : lv.length ≤ 60 := by have := WL.out; omega
      obtain ⟨s, hs⟩ : ∃ s, stI a WW j = s := ⟨_, rfl⟩
      have sb := Lib.hid (show 0 ≤ s ∧ s ≤ 999 by rw [← hs]; exact stI_bd WP.out HA.out HZ.out j hj)
      have HSJ := Lib.hid hs
      rw [hs]
      clear hperm hown hdj hb hat hs
      have HLEN := Lib.hid hlen
      clear hlen
      by_cases h0 : lv.length = 0
      · have hjl : j = WW.length := by have := HLEN.out; omega
        obtain ⟨Ao, co, rfl⟩ := vlen_own1 OW.out
        have OF := Lib.hid (show wr.ownsRow w.heap.size 2 1 (.slice Ao j co) (swR zs a).length ((swR zs a).map (Value.int .i64)) by
          have := ownsMono OW.out hle
          rw [hjl, List.take_length] at this
          rw [E2.out, ← hjl]
          rw [← hjl] at this
          exact this)
        have hn0 : ((lv.length : Nat) : Int) = 0 := by omega
        have BF := Lib.hid (B1.out.trans (BB.out.mono hle))
        clear h0 hjl
        go_wp2
        refine bodyPost_ret (v := .tuple #[.slice Ao j co, .int .i64 call, .int .i64 0]) (by simp [results, Try.results8, go_sem]) rfl ?_
        exact ⟨_, by rw [E1.out, ← CALL.out, EC.out], OF.out, BF.out⟩
      · have hjl : j < WW.length := by have := HLEN.out; omega
        have ZL := Lib.hid (show ∀ x ∈ lv, 0 ≤ x ∧ x ≤ 999 from fun x hx => HZ.out x (WP.out.mem_iff.1 (List.mem_of_mem_drop (PE.out.mem_iff.1 hx))))
        have PV := Lib.hid (show lv.Perm (WW[j] :: WW.drop (j + 1)) by rw [← List.drop_eq_getElem_cons hjl]; exact PE.out)
        have SV := Lib.hid (show StepOk (WW[j] :: WW.drop (j + 1)) s WW[j] by rw [← HSJ.out]; exact WO.out j hjl)
        have TK := Lib.hid (show WW.take (j + 1) = WW.take j ++ [WW[j]] from by rw [List.take_succ_eq_append_getElem hjl])
        have NX := Lib.hid (show stI a WW (j + 1) = WW[j] by simp [stI, List.getD_eq_getElem?_getD, List.getElem?_eq_getElem hjl])
        obtain ⟨need, hneed⟩ := least_ex (L := lv) s
        have ND := Lib.hid hneed
        have nb := least_bd hneed ZL.out sb.out
        generalize WW[j] = v at PV SV TK NX
        have hn0 : (0 : Int) < (lv.length : Int) := by omega
        have hgl2 : lv.length ≤ cl := hcl
        obtain ⟨wo, rfl⟩ : ∃ wo : World, wo = wr := ⟨_, rfl⟩
        clear hneed
        go_wp2_with fail
        refine (l07Least_is _ lv s need _ ⟨_, _, rfl, fun _ => ⟨gl, 0, rfl, zgl, HL.out⟩⟩ ZL.out sb.out n60 ND.out).mono ?_
        rintro e w3 ⟨rfl, g3⟩
        have G30 := Lib.hid g3
        have I0 := Lib.hid (show BestK lv s need 0 (-1) from .inl ⟨rfl, fun k hk => absurd hk (Nat.not_lt_zero _)⟩)
        clear g3 h0
        go_wp2
        go_loopw [11, 13] (fun b_ i_ wq => ∃ (i : Nat) (b : Int), i ≤ lv.length ∧ i_ = .int .i64 (i : Int) ∧ b_ = .int .i64 b ∧ BestK lv s need i b ∧ Below wo.heap.size wo wq) (fun _ i_ _ => lv.length - (intOf i_).toNat)
        case atStart => exact ⟨0, -1, Nat.zero_le _, rfl, rfl, I0.out, G30.out⟩
        case round =>
          obtain ⟨i, b, hi, rfl, rfl, hbest, hbq⟩ := hrel
          have BK := Lib.hid hbest
          have BQ := Lib.hid hbq
          have HLo := Lib.hid HL.out
          have HL := Lib.hid (show IntsAt .i64 wr gl 0 lv from fun k hk => (hbq.cell (p := ⟨gl, 0 + k, none⟩) zgl).trans (HL.out k hk))
          have zglo := zgl
          have zgl : gl < wr.heap.size := Nat.lt_of_lt_of_le zgl hbq.size
          clear hbest hbq
          by_cases hil : i < lv.length
          · have LT := Lib.hid (show ((lv.take i).map (Value.int .i64)).length = i * 1 by rw [List.length_map, List.length_take]; omega)
            have LD := Lib.hid (show ((lv.drop (i + 1)).map (Value.int .i64)).length = (lv.length - (i + 1)) * 1 by rw [List.length_map, List.length_drop]; omega)
            obtain ⟨nr, hnr⟩ : ∃ nr, i + (lv.length - (i + 1)) = nr := ⟨_, rfl⟩
            have NR := Lib.hid hnr
            have ER := Lib.hid (show (erI lv i).length = nr by unfold erI; rw [List.length_append, List.length_take, List.length_drop]; omega)
            clear hnr
            go_wp2
            have G1 := Lib.hid (show Below wr.heap.size wr (wr.alloc (.cells #[] 2)).drew from ((Below.refl _ _).alloc (Nat.le_refl _) _).drew)
            have O1 := Lib.hid (show (wr.alloc (.cells #[] 2)).drew.ownsRow wr.heap.size 2 1 (.slice (some ⟨wr.heap.size, 0, none⟩) 0 0) 0 [] from own_emptyIS wr _ (Nat.le_refl _))
            have C1 := Lib.hid (take_cells (HL.out.below G1.out zgl) i)
            have z1 : wr.heap.size ≤ (wr.alloc (.cells #[] 2)).drew.heap.size := G1.out.size
            have s1 := fun W => run_hiN (some ⟨gl, 0, none⟩) lv.length cl i (by omega) W
            obtain ⟨q, hq⟩ : ∃ q : Nat, q = i + 1 := ⟨_, rfl⟩
            have wq1 : IntKind.i64.wrap (q : Int) = (q : Int) := IntWalk.i64_in _ (by omega)
            have wq2 : (i : Int) + 1 = (q : Int) := by omega
            have s2 := fun W => run_loN gl 0 lv.length cl q (by omega) (by omega) W
            have LDq := Lib.hid (show ((lv.drop q).map (Value.int .i64)).length = (lv.length - q) * 1 by rw [hq]; exact LD.out)
            have NRq := Lib.hid (show i + (lv.length - q) = nr by rw [hq]; exact NR.out)
            have HQ := Lib.hid hq
            have hqn : q ≤ lv.length := by omega
            clear hq
            go_region_law (first
              | (refine step_append_someI _ (by rfl) (.tmp 41) (.tmp 44) _ (by rfl) wr.heap.size 2 i0 (.int .i64 0) 1 8 Try.underlying24 hi0 hz0 hz1 hz2 rfl (by decide) wr.heap.size 0 0 [] (by rfl) O1.out ⟨gl, 0, none⟩ i cl ((lv.take i).map (Value.int .i64)) (by rfl) LT.out C1.out (ints_one _) (by unfold maxLen; omega) (by omega) z1 ?_
                 intro g2 n2 W2 ho2 hk2
                 have G2 := Lib.hid (G1.out.grown hk2 G1.out.size (fun k hk => by injection hk with hk; omega))
                 have C2 := Lib.hid (drop_cells (HL.out.below G2.out zgl) q cl (by omega))
                 have z2 := G2.out.size
                 have O2 := Lib.hid (show W2.ownsRow wr.heap.size 2 1 (.slice (some ⟨g2, 0, none⟩) i n2) i ((lv.take i).map (Value.int .i64)) by simpa using ho2)
                 clear ho2)
              | (refine step_append_someI _ (by rfl) (.tmp 45) (.tmp 49) _ (by rfl) wr.heap.size 2 i0 (.int .i64 0) 1 8 Try.underlying24 hi0 hz0 hz1 hz2 rfl (by decide) g2 n2 i ((lv.take i).map (Value.int .i64)) (by rfl) O2.out ⟨gl, loN 0 q cl, none⟩ (lv.length - q) (cl - q) ((lv.drop q).map (Value.int .i64)) (by rfl) LDq.out C2.out (ints_one _) (by unfold maxLen; omega) (by omega) z2 ?_
                 intro g3 n3 W3 ho3 hk3
                 have G3 := Lib.hid (G2.out.grown hk3 G2.out.size (fun k hk => (O2.out.lt k hk).1))
                 rw [NRq.out] at ho3 ⊢
                 rw [← List.map_append, HQ.out] at ho3
                 have O3 := Lib.hid ho3
                 clear ho3 hk3))
            clear O1 C1 O2 C2 z1 z2 G1 G2 hk2 s1 s2 wq1 wq2 LDq NRq hqn
            have G3H := Lib.hid (bnext BQ.out G3.out)
            have hx0 := (G3.out.cell (p := ⟨gl, 0 + i, none⟩) zgl).trans (HL.out i hil)
            rw [Nat.zero_add] at hx0
            have zg3 : gl < W3.heap.size := Nat.lt_of_lt_of_le zgl G3.out.size
            obtain ⟨c, hc⟩ := least_ex (L := erI lv i) lv[i]
            have xb := ZL.out lv[i] (List.getElem_mem hil)
            have EB := Lib.hid (show ∀ y ∈ erI lv i, 0 ≤ y ∧ y ≤ 999 from fun y hy => ZL.out y ((rem_erase lv i hil).1 y hy))
            have cb := least_bd hc EB.out xb
            have HC := Lib.hid hc
            have ab := apart_bd sb.out xb
            have VY := Lib.hid (show apart s lv[i] + c = need → ValidK lv s need i from fun h => ⟨hil, c, hc, h⟩)
            have VN := Lib.hid (show apart s lv[i] + c ≠ need → ¬ ValidK lv s need i from fun h hv => by
              obtain ⟨_, c', h1, h2⟩ := hv
              rw [least_uniq h1 HC.out] at h2
              exact h h2)
            clear hc
            have RI := Lib.hid (show IntsOf .i64 W3 (.slice (some ⟨g3, 0, none⟩) nr n3) (erI lv i) by
              have h := ownInts (l := erI lv i) (show W3.ownsRow wr.heap.size 2 1 (.slice (some ⟨g3, 0, none⟩) nr n3) (erI lv i).length ((erI lv i).map (Value.int .i64)) by rw [ER.out]; exact O3.out)
              exact h)
            have BI := Lib.hid hil
            have FI := Lib.hid (fun m (hm : m < lv.length) => (show BestK lv s need i (m : Int) → ValidK lv s need i → lv[i] < lv[m] → BestK lv s need (i + 1) (i : Int) from fun h1 h2 h3 => h1.less hil hm h2 h3))
            have FM := Lib.hid (fun m (hm : m < lv.length) => (show BestK lv s need i (m : Int) → ¬ lv[i] < lv[m] → BestK lv s need (i + 1) (m : Int) from fun h1 h3 => h1.more hil hm h3))
            have FF := Lib.hid (show BestK lv s need i (-1) → ValidK lv s need i → BestK lv s need (i + 1) (i : Int) from fun h1 h2 => h1.first hil h2)
            have ME := Lib.hid (fun m (hm : m < lv.length) => (by have h := (G3.out.cell (p := ⟨gl, 0 + m, none⟩) zgl).trans (HL.out m hm); rw [Nat.zero_add] at h; exact h : W3.cell? ⟨gl, m, none⟩ = some (.int .i64 lv[m])))
            generalize lv[i] = x at hx0 xb ab VY VN HC FI FM
            have AP := Lib.hid (fun W => (l07Apart_any s x sb.out xb W).mono (fun e w' h => (show e = .returned (.int .i64 (apart s x)) ∧ Below W.heap.size W w' from ⟨h.1, h.2 ▸ Below.refl _ _⟩)))
            have CL := Lib.hid (fun (p : BelowBy W3) => l07Least_is _ (erI lv i) x c p.W (RI.out.below p.h) EB.out xb (by rw [ER.out]; have := NR.out; omega) HC.out)
            have nw : IntKind.i64.wrap (apart s x + c) = apart s x + c := IntWalk.i64_in _ (by omega)
            have px := belowBy_cell zg3 hx0
            clear hx0 O3 LT LD
            generalize apart s x = ap at *
            by_cases hv : ap + c = need
            · have d1 : (ap + c == need) = true := by rw [beq_iff_eq]; exact hv
              have VV := Lib.hid (VY.out hv)
              clear hv
              rcases BK.out.form with hb1 | ⟨m, hb1, hm1, hm2⟩
              · subst hb1
                go_wp2
                refine wp_region_below (by kernel_rfl) (by kernel_rfl) ?_
                iterate 30 (first | go_big_quiet_step ((first | (go_at_call 26; with_reducible exact calls_below (AP.out _)) | (go_at_call 25; with_reducible exact calls_below (CL.out _)))) | quiet_step ((first | (go_at_call 26; with_reducible exact calls_below (AP.out _)) | (go_at_call 25; with_reducible exact calls_below (CL.out _)))))
                refine wpQuiet_nil ?_
                rintro w9 ⟨⟨_, hq9⟩, rfl⟩
                have Q9 := Lib.hid hq9
                clear hq9 px
                have FB := Lib.hid (FF.out BK.out VV.out)
                go_wp2
                go_roundw
                case rel => exact ⟨i + 1, (i : Int), by omega, by go_num, rfl, FB.out, bnext G3H.out Q9.out⟩
                case measure => simp [intOf]; omega
              · subst hb1
                have pm0 := ME.out m hm2
                have e1 : ¬ ((m : Int) < 0) := by omega
                have e2 : decide ((m : Int) < 0) = false := decide_eq_false e1
                by_cases hl : x < lv[m]
                · have FB := Lib.hid (FI.out m hm2 BK.out VV.out hl)
                  generalize lv[m] = y at pm0 hl
                  have pm := belowBy_cell zg3 pm0
                  have e3 : decide (x < y) = true := decide_eq_true hl
                  clear pm0
                  go_wp2
                  refine wp_region_below (by kernel_rfl) (by kernel_rfl) ?_
                  iterate 30 (first | go_big_quiet_step ((first | (go_at_call 26; with_reducible exact calls_below (AP.out _)) | (go_at_call 25; with_reducible exact calls_below (CL.out _)))) | quiet_step ((first | (go_at_call 26; with_reducible exact calls_below (AP.out _)) | (go_at_call 25; with_reducible exact calls_below (CL.out _)))))
                  refine wpQuiet_nil ?_
                  rintro w9 ⟨⟨_, hq9⟩, rfl⟩
                  have Q9 := Lib.hid hq9
                  clear hq9 px pm e1 e2 e3 hl
                  go_wp2
                  go_roundw
                  case rel => exact ⟨i + 1, (i : Int), by omega, by go_num, rfl, FB.out, bnext G3H.out Q9.out⟩
                  case measure => simp [intOf]; omega
                · have FB := Lib.hid (FM.out m hm2 BK.out hl)
                  generalize lv[m] = y at pm0 hl
                  have pm := belowBy_cell zg3 pm0
                  have e3 : decide (x < y) = false := decide_eq_false hl
                  clear pm0
                  go_wp2
                  refine wp_region_below (by kernel_rfl) (by kernel_rfl) ?_
                  iterate 30 (first | go_big_quiet_step ((first | (go_at_call 26; with_reducible exact calls_below (AP.out _)) | (go_at_call 25; with_reducible exact calls_below (CL.out _)))) | quiet_step ((first | (go_at_call 26; with_reducible exact calls_below (AP.out _)) | (go_at_call 25; with_reducible exact calls_below (CL.out _)))))
                  refine wpQuiet_nil ?_
                  rintro w9 ⟨⟨_, hq9⟩, rfl⟩
                  have Q9 := Lib.hid hq9
                  clear hq9 px pm e1 e2 e3 hl
                  go_wp2
                  go_roundw
                  case rel => exact ⟨i + 1, (m : Int), by omega, by go_num, rfl, FB.out, bnext G3H.out Q9.out⟩
                  case measure => simp [intOf]; omega
            · have d1 : (ap + c == need) = false := by rw [beq_eq_false_iff_ne]; exact hv
              have FB := Lib.hid (BK.out.no (VN.out hv))
              clear hv
              go_wp2
              refine wp_region_below (by kernel_rfl) (by kernel_rfl) ?_
              iterate 30 (first | go_big_quiet_step ((first | (go_at_call 26; with_reducible exact calls_below (AP.out _)) | (go_at_call 25; with_reducible exact calls_below (CL.out _)))) | quiet_step ((first | (go_at_call 26; with_reducible exact calls_below (AP.out _)) | (go_at_call 25; with_reducible exact calls_below (CL.out _)))))
              refine wpQuiet_nil ?_
              rintro w9 ⟨⟨_, hq9⟩, rfl⟩
              have Q9 := Lib.hid hq9
              clear hq9 px
              go_wp2
              go_roundw
              case rel => exact ⟨i + 1, b, by omega, by go_num, rfl, FB.out, bnext G3H.out Q9.out⟩
              case measure => simp [intOf]; omega
          · obtain rfl : i = lv.length := by omega
            obtain ⟨m, rfl, hm, hmv, hmp⟩ := best_end PV.out SV.out ND.out BK.out
            have MP := Lib.hid hmp
            have pm := HL.out m hm
            rw [Nat.zero_add, hmv] at pm
            have OW3 := Lib.hid (ownBelow OW.out BQ.out)
            have B3 := Lib.hid (show Below w1.heap.size w1 wr from BB.out.trans (BQ.out.mono hbs))
            have z3 := B3.out.size
            have jl : j ≤ 60 := by have := WL.out; omega
            have HLa := Lib.hid (show IntsAt .i64 (wr.alloc (.cells #[.int .i64 v] 2)) gl 0 lv from fun k hk => (((Below.refl wr.heap.size wr).alloc (Nat.le_refl _) _).cell (p := ⟨gl, 0 + k, none⟩) zgl).trans (HL.out k hk))
            have Ba := Lib.hid (B3.out.alloc z3 (.cells #[.int .i64 v] 2))
            clear hmv hmp
            go_wp2_with (at_builtin; refine wpList_append_lies _ rfl (.tmp 86) (.tmp 88) _ rfl w1.heap.size 2 i0 (.int .i64 0) 1 8 Try.underlying24 hi0 hz0 hz1 hz2 rfl (by decide) _ _ _ rfl (OW3.out.alloc _) ⟨wr.heap.size, 0, none⟩ 1 1 [.int .i64 v] rfl rfl (cell_one_new _ _ _) (fun u hu => by simp at hu; subst hu; rfl) (by decide) (by unfold maxLen; omega) (by omega) (by simp; omega) _ rfl ?_)
            intro go cap w5 ho5 hg5 hlie hgo
            have OW5 := Lib.hid (show w5.ownsRow w1.heap.size 2 1 (.slice (some ⟨go, 0, none⟩) (j + 1) cap) (j + 1) ((WW.take (j + 1)).map (Value.int .i64)) by rw [TK.out, List.map_append]; simpa using ho5)
            have zgl0 := zgl
            have hsza : (wr.alloc (.cells #[.int .i64 v] 2)).heap.size = wr.heap.size + 1 := by simp
            have HL := Lib.hid (show IntsAt .i64 w5 gl 0 lv from fun k hk => hg5.cell (HLa.out k hk) (fun e => DJ.out gl e.symm rfl))
            have B5 := Lib.hid (show Below w1.heap.size w1 w5 from Ba.out.grown hg5 Ba.out.size (fun k hk => (OW3.out.lt k hk).1))
            have zgl : gl < w5.heap.size := by have := hg5.size; omega
            have LT := Lib.hid (show ((lv.take m).map (Value.int .i64)).length = m * 1 by rw [List.length_map, List.length_take]; omega)
            have LD := Lib.hid (show ((lv.drop (m + 1)).map (Value.int .i64)).length = (lv.length - (m + 1)) * 1 by rw [List.length_map, List.length_drop]; omega)
            obtain ⟨nr, hnr⟩ : ∃ nr, m + (lv.length - (m + 1)) = nr := ⟨_, rfl⟩
            have NR := Lib.hid hnr
            have nlt : nr < lv.length := by omega
            have ER := Lib.hid (show nr = (erI lv m).length by unfold erI; rw [List.length_append, List.length_take, List.length_drop]; omega)
            have z5 := B5.out.size
            clear hnr ho5 hg5 hlie pm hsza
            go_wp2
            have G1 := Lib.hid (show Below w5.heap.size w5 (w5.alloc (.cells #[] 2)).drew from ((Below.refl _ _).alloc (Nat.le_refl _) _).drew)
            have O1 := Lib.hid (show (w5.alloc (.cells #[] 2)).drew.ownsRow w5.heap.size 2 1 (.slice (some ⟨w5.heap.size, 0, none⟩) 0 0) 0 [] from own_emptyIS w5 _ (Nat.le_refl _))
            have C1 := Lib.hid (take_cells (HL.out.below G1.out zgl) m)
            have z1 : w5.heap.size ≤ (w5.alloc (.cells #[] 2)).drew.heap.size := G1.out.size
            have s1 := fun W => run_hiN (some ⟨gl, 0, none⟩) lv.length cl m (by omega) W
            obtain ⟨q, hq⟩ : ∃ q : Nat, q = m + 1 := ⟨_, rfl⟩
            have wq1 : IntKind.i64.wrap (q : Int) = (q : Int) := IntWalk.i64_in _ (by omega)
            have wq2 : (m : Int) + 1 = (q : Int) := by omega
            have s2 := fun W => run_loN gl 0 lv.length cl q (by omega) (by omega) W
            have LDq := Lib.hid (show ((lv.drop q).map (Value.int .i64)).length = (lv.length - q) * 1 by rw [hq]; exact LD.out)
            have NRq := Lib.hid (show m + (lv.length - q) = nr by rw [hq]; exact NR.out)
            have HQ := Lib.hid hq
            have hqn : q ≤ lv.length := by omega
            clear hq
            go_region_law (first
              | (refine step_append_someI _ (by rfl) (.tmp 90) (.tmp 93) _ (by rfl) w5.heap.size 2 i0 (.int .i64 0) 1 8 Try.underlying24 hi0 hz0 hz1 hz2 rfl (by decide) w5.heap.size 0 0 [] (by rfl) O1.out ⟨gl, 0, none⟩ m cl ((lv.take m).map (Value.int .i64)) (by rfl) LT.out C1.out (ints_one _) (by unfold maxLen; omega) (by omega) z1 ?_
                 intro g2 n2 W2 ho2 hk2
                 have G2 := Lib.hid (G1.out.grown hk2 G1.out.size (fun k hk => by injection hk with hk; omega))
                 have C2 := Lib.hid (drop_cells (HL.out.below G2.out zgl) q cl (by omega))
                 have z2 := G2.out.size
                 have O2 := Lib.hid (show W2.ownsRow w5.heap.size 2 1 (.slice (some ⟨g2, 0, none⟩) m n2) m ((lv.take m).map (Value.int .i64)) by simpa using ho2)
                 clear ho2)
              | (refine step_append_someI _ (by rfl) (.tmp 94) (.tmp 98) _ (by rfl) w5.heap.size 2 i0 (.int .i64 0) 1 8 Try.underlying24 hi0 hz0 hz1 hz2 rfl (by decide) g2 n2 m ((lv.take m).map (Value.int .i64)) (by rfl) O2.out ⟨gl, loN 0 q cl, none⟩ (lv.length - q) (cl - q) ((lv.drop q).map (Value.int .i64)) (by rfl) LDq.out C2.out (ints_one _) (by unfold maxLen; omega) (by omega) z2 ?_
                 intro g3 n3 W3 ho3 hk3
                 have G3 := Lib.hid (G2.out.grown hk3 G2.out.size (fun k hk => (O2.out.lt k hk).1))
                 rw [NRq.out] at ho3 ⊢
                 rw [← List.map_append, HQ.out] at ho3
                 have O3 := Lib.hid ho3
                 clear ho3 hk3))
            clear O1 C1 O2 C2 z1 z2 G1 G2 hk2 s1 s2 wq1 wq2 LDq NRq hqn
            obtain ⟨lbn, lpn⟩ := LefP.of (l := erI lv m) O3.out ER.out
            have LPN := Lib.hid lpn
            have DJN := Lib.hid (show ∀ k, (Value.slice (some ⟨go, 0, none⟩) (j + 1) cap).ownBlock = some k → k ≠ g3 from fun k hk => by
              simp [Value.ownBlock] at hk
              omega)
            have OWN := Lib.hid (ownBelow OW5.out G3.out)
            have BN := Lib.hid (B5.out.trans (G3.out.mono z5))
            clear lpn LT LD
            go_simp
            go_wp2
            go_roundw
            case rel => exact ⟨j + 1, erI lv m, g3, by omega, MP.out, by rw [NX.out], LPN.out, by omega, OWN.out, DJN.out, BN.out⟩
            case measure => simp [lenV]; omega
  · have EV := Lib.hid (show swV zs a = 0 by unfold swV; rw [if_neg h])
    have EL := Lib.hid (show swR zs a = [] by unfold swR; rw [if_neg h])
    have d1 : (wkC zs a != 0) = true := by rw [bne_iff_ne]; exact h
    clear h hs
    generalize hcc : wkC zs a = cc at d1
    have HCC := Lib.hid hcc
    clear hcc
    go_enter Try.func8, Try.ntmps8
    go_wp2_with fail
    refine (l07Walk_any _ zs a _ HS.out hn).mono ?_
    rintro e w1 ⟨rfl, rfl⟩
    rw [HCC.out]
    have OE := Lib.hid (show (w.alloc (.cells #[] 2)).ownsRow w.heap.size 2 1 (.slice (some ⟨w.heap.size, 0, none⟩) 0 0) 0 [] from ⟨rfl, .inr ⟨w.heap.size, 0, #[], rfl, Nat.le_refl _, heap_alloc_new w _, Nat.le_refl _, Nat.zero_le _, rfl, rfl⟩⟩)
    go_wp2
    refine bodyPost_ret (v := .tuple #[.slice (some ⟨w.heap.size, 0, none⟩) 0 0, .int .i64 0, .int .i64 cc]) (by simp [results, Try.results8, go_sem]) rfl ?_
    exact ⟨_, by rw [EV.out], by rw [EL.out]; exact OE.out, (Below.refl _ _).alloc (Nat.le_refl _) _⟩
end

section
open Go.RowKit Go.Shelf
attribute [local go_sem] Oper.semAt_some

/-- What a round that goes on keeps: all blocks below B. -/
def KpV (B : Nat) (W W' : World) : Prop := W.heap.size ≤ W'.heap.size ∧ ∀ g, g < B → W'.heap[g]? = W.heap[g]?
theorem kpV_t {B : Nat} {X Y Z : World} (h : KpV B X Y) (k : KpV B Y Z) : KpV B X Z := ⟨Nat.le_trans h.1 k.1, fun g hg => (k.2 g hg).trans (h.2 g hg)⟩
theorem kpV_b {B : Nat} {w : World} (hB : B ≤ w.heap.size) (W : World) (l : Nat) (o o' : Obj) (hl : w.heap.size ≤ l) (_ : W.heap[l]? = some o) (_ : o.isCells = false) (_ : o.isWalk = false) : KpV B W (W.putObj l o') :=
  ⟨by simp, fun g hg => World.putObj_heap_other (by omega)⟩
theorem kpV_below {B : Nat} {W W' : World} (h : Below B W W') : KpV B W W' := ⟨h.size, h.block⟩

/-- An index, on the way up. -/
abbrev VQ (hs : List Int) := { i : Nat // i < hs.length }
def vwE (hs : List Int) (q : VQ hs) : Array Value := #[.int .i64 (hs[q.1]'q.2)]
set_option maxHeartbeats 1000000 in
theorem values_any (A : Option Addr) (n c : Nat) (w : World) :
    Calls Try.prog 45 #[.slice A n c] w fun e w' => e = .returned (.func (.func 60) #[] #[.pointer (some ⟨w.heap.size, 0, none⟩)]) ∧ w.alloc (.cells #[.slice A n c] 24) = w' := by
  go_enter Try.func45, Try.ntmps45
  go_wp2
  go_ret
  exact ⟨rfl, rfl⟩
theorem cell_of_blockV {W W' : World} {g : Nat} (h : W'.heap[g]? = W.heap[g]?) (o : Nat) : W'.cell? ⟨g, o, none⟩ = W.cell? ⟨g, o, none⟩ := by simp [World.cell?, h]
/-- The numbers of a list lie where they lay. -/
def IntsV (W : World) (B : Nat) (A : Option Addr) (hs : List Int) : Prop := 0 < hs.length → ∃ g o, A = some ⟨g, o, none⟩ ∧ g < B ∧ ∀ (k : Nat) (hk : k < hs.length), W.cell? ⟨g, o + k, none⟩ = some (.int .i64 hs[k])
theorem IntsV.kp {W W' : World} {B : Nat} {A : Option Addr} {hs : List Int} (h : IntsV W B A hs) (hk : KpV B W W') : IntsV W' B A hs := fun h0 => by
  obtain ⟨g, o, e, hg, hc⟩ := h h0
  refine ⟨g, o, e, hg, fun k hlt => ?_⟩
  rw [← hc k hlt]
  exact cell_of_blockV (hk.2 g hg) _
set_option maxHeartbeats 8000000 in
theorem vw_stops (n : Nat) (hn : 1 ≤ n) (B Bn : Nat) (A : Option Addr) (c : Nat) (hs : List Int) (w : World) (hc : w.heap[Bn]? = some (.cells #[.slice A hs.length c] 24 (0, 0))) (hbn : Bn < B) (hi : IntsV w B A hs) (hB : B ≤ w.heap.size) (hlen : hs.length ≤ 100) :
    SeqStopsK Fence.wide n Try.prog 60 #[.pointer (some ⟨Bn, 0, none⟩)] (vwE hs) (KpV B) (fun ys => ys.map Subtype.val = List.range hs.length) (fun _ => True) hs.length w := by
  intro l J Jx W hW hJ hJx hY h0
  have HC := Lib.hid ((hW.block _ (Array.getElem?_eq_some_iff.1 hc).1).trans hc)
  have HI := Lib.hid (hi.kp (kpV_below (hW.mono hB)))
  have c0 : W.cell? ⟨Bn, 0, none⟩ = some (.slice A hs.length c) := cell_of_row W Bn 0 _ _ _ HC.out
  have HY := Lib.hid hY
  have H0 := Lib.hid h0
  clear hY h0 hJ hJx hc hi
  refine callsIn_of_wp Try.func60 rfl trivial ?_ rfl
  simp only [Try.ntmps60, List.size_toArray, List.length_cons, List.length_nil, Nat.reduceAdd, Nat.reduceSub, Array.replicate_succ, Array.replicate_zero, List.push_toArray, List.append_toArray, List.nil_append, List.cons_append]
  gi_wp2
  clear c0
  gi_loopw [7] (fun i_ wr => ∃ (i : Nat) (pre : List (VQ hs)), i ≤ hs.length ∧ i_ = .int .i64 (i : Int) ∧ pre.map Subtype.val = List.range i ∧ wr.heap[Bn]? = some (.cells #[.slice A hs.length c] 24 (0, 0)) ∧ IntsV wr B A hs ∧ J pre wr) (fun i_ _ => hs.length - (intOf i_).toNat)
  case atStart => exact ⟨0, [], Nat.zero_le _, rfl, rfl, HC.out, HI.out, H0.out⟩
  case round =>
    obtain ⟨i, pre, hi, rfl, hx, hbx, hik, hJs⟩ := hrel
    have HX := Lib.hid hx
    have HBX := Lib.hid hbx
    have HIK := Lib.hid hik
    have HS := Lib.hid hJs
    clear hx hbx hik hJs
    have c0 : wr.cell? ⟨Bn, 0, none⟩ = some (.slice A hs.length c) := cell_of_row wr Bn 0 _ _ _ HBX.out
    by_cases hj : i < hs.length
    · obtain ⟨g, o, rfl, hg, hcs⟩ := HIK.out (by omega)
      have q0 := hcs i hj
      obtain ⟨fn, tmps, assign, body, hy, hR⟩ := HY.out pre ⟨i, hj⟩ wr HS.out (by
        have := congrArg List.length HX.out
        simp at this
        omega)
      have hR := Lib.hid hR
      unfold vwE at hy
      dsimp only at hy
      clear hcs
      gi_wp2
      refine hR.out.mono ?_
      rintro e W3 (⟨rfl, hJ3, hk3⟩ | ⟨rfl, hJx3⟩)
      · have HB3 := Lib.hid ((hk3.2 _ hbn).trans HBX.out)
        have HI3 := Lib.hid (HIK.out.kp hk3)
        have HJ3 := Lib.hid hJ3
        clear hJ3 hy hk3 q0 c0
        gi_wp2
        go_roundw
        case rel => exact ⟨i + 1, pre ++ [⟨i, hj⟩], by omega, by go_num, by rw [List.map_append, HX.out, List.range_succ]; rfl, HB3.out, HI3.out, HJ3.out⟩
        case measure => simp [intOf] <;> omega
      · gi_wp2
        refine bodyPost_ret (results_none rfl _ _ _) rfl ?_
        exact ⟨⟨_, rfl⟩, .inr ⟨_, trivial, hJx3⟩⟩
    · obtain rfl : i = hs.length := by omega
      gi_wp2
      go_end0
      exact ⟨⟨_, rfl⟩, .inl ⟨pre, HX.out, HS.out⟩⟩
end

section
open Go.RowKit Go.Shelf
attribute [local go_sem] Oper.semAt_some

theorem own_kindV {W : World} {base : Nat} {e : TypeId} {v : Value} {n : Nat} {l : List Value} (h : W.ownsRow base e 1 v n l) : ∀ k, v.ownBlock = some k → ∃ cs, W.heap[k]? = some (.cells cs e (0, 0)) := by
  intro k hk
  rcases h.2 with ⟨rfl, _⟩ | ⟨g, cap, cur, rfl, _, hg, _⟩
  · cases hk
  · injection hk with hk
    subst hk
    exact ⟨cur, hg⟩
theorem below_grownV {w w' : World} {row : Option Nat} (h : Below w.heap.size w w') : w.grownBy w' row := ⟨h.os, h.tape, h.output, h.size, fun i hi _ => h.block i hi⟩
def valsQ (hs : List Int) (pre : List (VQ hs)) : List Int := pre.map (fun q => hs[q.1]'q.2)
theorem valsQ_all {hs : List Int} {ys : List (VQ hs)} (h : ys.map Subtype.val = List.range hs.length) : valsQ hs ys = hs := by
  have hl : ys.length = hs.length := by have := congrArg List.length h; simpa using this
  refine List.ext_getElem (by simp [valsQ, hl]) fun i h1 h2 => ?_
  simp only [valsQ, List.getElem_map]
  have : (ys.map Subtype.val)[i]'(by simp; omega) = (List.range hs.length)[i]'(by simp; exact h2) := by simp only [h]
  simp only [List.getElem_map, List.getElem_range] at this
  congr 1
set_option maxHeartbeats 8000000 in
theorem appendSeq_any (Bn : Nat) (A : Option Addr) (c : Nat) (hs : List Int) (w : World) (hc : w.heap[Bn]? = some (.cells #[.slice A hs.length c] 24 (0, 0))) (hi : IntsV w w.heap.size A hs) (hlen : hs.length ≤ 100) :
    Calls Try.prog 72 #[.slice none 0 0, .func (.func 60) #[] #[.pointer (some ⟨Bn, 0, none⟩)]] w fun e w' => ∃ u, e = .returned u ∧ w'.ownsRow w.heap.size 2 1 u hs.length (hs.map (Value.int .i64)) ∧ Below w.heap.size w w' := by
  have hbn : Bn < w.heap.size := (Array.getElem?_eq_some_iff.1 hc).1
  have HI := Lib.hid hi
  have HC := Lib.hid hc
  obtain ⟨i0, hi0, hz0, hz1, hz2⟩ := info_parts infoIntS
  clear hi hc
  refine (callsIn_wide (n := 3)).1 ?_
  refine callsIn_of_wp_marks Try.func72 rfl trivial ?_ rfl
  simp only [Try.ntmps72, List.size_toArray, List.length_cons, List.length_nil, Nat.reduceAdd, Nat.reduceSub, Array.replicate_succ, Array.replicate_zero, List.push_toArray, List.append_toArray, List.nil_append, List.cons_append]
  gi_wp2
  have b0 : (w.alloc (.cells #[.slice none 0 0] 24)).heap[w.heap.size]? = some (.cells #[.slice none 0 0] 24 (0, 0)) := heap_alloc_new w _
  have b2 : Below w.heap.size w (w.alloc (.cells #[.slice none 0 0] 24)) := (Below.refl _ _).alloc (Nat.le_refl _) _
  have b3 : (w.alloc (.cells #[.slice none 0 0] 24)).heap.size = w.heap.size + 1 := by simp
  generalize World.alloc w _ = W0 at b0 b2 b3 ⊢
  have HG := Lib.hid b2
  have HB := Lib.hid b0
  have HZ := Lib.hid b3
  have hws : w.heap.size ≤ W0.heap.size := b2.size
  clear b3
  refine wpIn_rangeFunc_ownH rfl (by omega : 1 ≤ 3) (gf := 60) (lb := #[.pointer (some ⟨Bn, 0, none⟩)]) rfl trivial (enters_of Try.func60 (by kernel_rfl) rfl)
    (vw_stops 2 (by omega) w.heap.size Bn A c hs W0 ((HG.out.block _ hbn).trans HC.out) hbn (HI.out.kp (kpV_below HG.out)) hws hlen) kpV_t (kpV_b hws) (Below.refl _ _) (fun _ => rfl)
    (fun pre W => ∃ vv, W.heap[w.heap.size]? = some (.cells #[vv] 24 (0, 0)) ∧ W.ownsRow W0.heap.size 2 1 vv (valsQ hs pre).length ((valsQ hs pre).map (Value.int .i64)) ∧ Below w.heap.size w W ∧ W0.heap.size ≤ W.heap.size)
    (fun _ _ _ => False)
    ?hI ?hIx ⟨_, b0, ⟨rfl, .inl ⟨rfl, rfl⟩⟩, b2, Nat.le_refl _⟩
    (fun x a' _ => a' = { tmps := #[.slice none 0 0, .func (.func 60) #[] #[.pointer (some ⟨Bn, 0, none⟩)], .pointer (some ⟨w.heap.size, 0, none⟩), undef, .slice none 0 0, .int .i64 (hs[x.1]'x.2), .func (.func 60) #[] #[.pointer (some ⟨Bn, 0, none⟩)], .int .i64 (hs[x.1]'x.2), undef, undef, undef, undef, undef], defers := [] })
    ?hAx ?assign ?body ?done ?stop
  case hI =>
    rintro s X Y row ⟨vv, e1, e2, e5, e6⟩ hg hr
    refine ⟨vv, (hg.block _ (Array.getElem?_eq_some_iff.1 e1).1 (fun e => by have := (hr _ e.symm).1; have := HZ.out; omega)).trans e1, ownOther e2 hg (fun k hk e => ?_), e5.grown hg e5.size (fun k e => by have := (hr k e).1; omega), Nat.le_trans e6 hg.size⟩
    obtain ⟨_, ob, h1, h2⟩ := hr k e.symm
    obtain ⟨cs, h3⟩ := own_kindV e2 k hk
    rw [h3] at h1
    cases h1
    cases h2
  case hIx => rintro c s X Y row h _ _; exact h
  case hAx => rintro x a' _ X Y row h _ _; exact h
  case assign =>
    rintro l pre x W K hI hK
    unfold vwE
    gi_wp2
    exact hK _ _ (KeepsOthers.refl _ |>.from _) (kpV_below (Below.refl _ _)) hI rfl
  case body =>
    rintro l pre x a' W hl _ hI rfl hlt
    obtain ⟨j, hj⟩ := x
    obtain ⟨vv, e1, e2, e5, e6⟩ := hI
    have SQ := Lib.hid (show valsQ hs (pre ++ [(⟨j, hj⟩ : VQ hs)]) = valsQ hs pre ++ [hs[j]] by simp [valsQ])
    have LQ := Lib.hid (show (valsQ hs pre).length ≤ 100 by simp [valsQ]; omega)
    have zp : w.heap.size < W.heap.size := (Array.getElem?_eq_some_iff.1 e1).1
    have d9 : Below W.heap.size W (W.alloc (.cells #[.int .i64 hs[j]] 2)) := (Below.refl _ _).alloc (Nat.le_refl _) _
    have OD := Lib.hid (ownBelow e2 d9)
    have X9 := Lib.hid ((d9.block _ zp).trans e1)
    have c9 : (W.alloc (.cells #[.int .i64 hs[j]] 2)).cell? ⟨w.heap.size, 0, none⟩ = some vv := cell_of_row _ _ 0 _ _ _ X9.out
    have c0 : W.cell? ⟨w.heap.size, 0, none⟩ = some vv := cell_of_row _ _ 0 _ _ _ e1
    have D9 := Lib.hid d9
    have E5 := Lib.hid e5
    have hvl := Lib.hid (fun k hk => (OD.out.lt k hk).1)
    dsimp only
    generalize hs[j] = x at SQ OD X9 c9 D9 ⊢
    generalize valsQ hs pre = xsf at SQ LQ OD ⊢
    have lq := LQ.out
    clear e1 e2 e5 d9
    gi_wp2_with (refine wpListIn_append_own _ rfl (.tmp 8) (.tmp 10) _ rfl W0.heap.size 2 i0 (.int .i64 0) 1 8 Try.underlying24 hi0 hz0 hz1 hz2 rfl (by decide) _ _ _ rfl OD.out ⟨W.heap.size, 0, none⟩ 1 1 [.int .i64 x] rfl rfl (cell_one_new _ _ _) (by intro u hu; simp at hu; subst hu; rfl) (by unfold maxLen; omega) (by omega) (by simp; have := HZ.out; omega) ?_)
    intro v4 w4 ho4 hg4 hn4
    have hneB : some w.heap.size ≠ vv.ownBlock := fun e => by have := hvl.out _ e.symm; have := HZ.out; omega
    have X4 := Lib.hid ((hg4.block _ (by simp; omega) hneB).trans X9.out)
    have hc4 : w4.ownsRow W0.heap.size 2 1 v4 (xsf.length + 1) ((xsf ++ [x]).map (Value.int .i64)) := by
      rw [List.map_append]
      exact ho4
    have hrow : ∀ (j : Nat) (o : Obj), vv.ownBlock = some j → (W.alloc (.cells #[.int .i64 x] 2)).heap[j]? = some o → o.isCells = true := fun j o hj ho => by
      obtain ⟨cs, h9⟩ := own_kindV OD.out j hj
      rw [h9] at ho
      cases ho
      rfl
    have KO4 := Lib.hid ((KeepsOthers.alloc W (.cells #[.int .i64 x] 2)).trans (KeepsOthers.of_grownBy hg4 hrow))
    have B4 := Lib.hid (show Below w.heap.size W w4 from (D9.out.mono (by omega)).grown hg4 (by simp; omega) (fun k hk => by have := hvl.out k hk; have := HZ.out; omega))
    obtain ⟨A4, n4, rfl⟩ := vlen_own1 hc4
    have c4 : w4.cell? ⟨w.heap.size, 0, none⟩ = some vv := cell_of_row _ _ 0 _ _ _ X4.out
    have f4 : w4.frozen? ⟨w.heap.size, 0, none⟩ = false := frozen_of_row w4 _ 0 _ _ X4.out
    have X5 := Lib.hid (show (w4.setCell ⟨w.heap.size, 0, none⟩ (.slice A4 (xsf.length + 1) n4)).heap[w.heap.size]? = some (.cells #[.slice A4 (xsf.length + 1) n4] 24 (0, 0)) from heap_setCell_same _ _ _ _ _ _ X4.out)
    have O5 := Lib.hid (ownsRow_setCell_below hc4 (a := ⟨w.heap.size, 0, none⟩) (by show w.heap.size < W0.heap.size; have := HZ.out; omega) (.slice A4 (xsf.length + 1) n4))
    have B5 := Lib.hid (B4.out.setCell (p := ⟨w.heap.size, 0, none⟩) (Nat.le_refl _) (.slice A4 (xsf.length + 1) n4))
    have KO5 := Lib.hid (KO4.out.trans (KeepsOthers.setCell w4 ⟨w.heap.size, 0, none⟩ (.slice A4 (xsf.length + 1) n4)))
    have z4 : W0.heap.size ≤ (w4.setCell ⟨w.heap.size, 0, none⟩ (.slice A4 (xsf.length + 1) n4)).heap.size := Nat.le_trans e6 B5.out.size
    clear ho4 hg4 hn4 hc4 hrow c9 c0
    gi_wp2
    exact ⟨KO5.out.from _, kpV_below B5.out, _, X5.out, by rw [SQ.out, List.length_append]; exact O5.out, E5.out.trans B5.out, z4⟩
  case done =>
    rintro D ys W hD hys ⟨vv, e1, e2, e5, e6⟩ hK
    have t0 : W.cell? ⟨w.heap.size, 0, none⟩ = some vv := cell_of_row W _ 0 _ _ _ e1
    rw [valsQ_all hys] at e2
    have OZ := Lib.hid e2
    have BZ := Lib.hid e5
    obtain ⟨Av, cv, rfl⟩ := vlen_own1 e2
    clear e1 e2 e5 hys
    gi_wp2
    refine ⟨by simp, .inl ⟨_, _, rfl, run_takeDeferred hK, ?_⟩⟩
    have g6 : Below w.heap.size w (W.putObj D (.deferred none)) := BZ.out.grown (grownBy_putObj' W D (.deferred none)) BZ.out.size (fun k e => by cases e; omega)
    have o6 := ownOther OZ.out (grownBy_putObj' W D (.deferred none)) (fun k hk e => by
      obtain ⟨cs, h3⟩ := own_kindV OZ.out k hk
      injection e with e
      subst e
      rw [h3] at hK
      cases hK)
    generalize W.putObj D (.deferred none) = W6 at g6 o6 ⊢
    refine ⟨.slice Av hs.length cv, ?_, ⟨_, rfl, ownsMono o6 hws, g6⟩⟩
    simp [results, Try.f72, go_sem]
  case stop =>
    rintro D c pre W hD hpre h hK
    exact h.elim

set_option maxHeartbeats 1000000 in
theorem collect_any (Bn : Nat) (A : Option Addr) (c : Nat) (hs : List Int) (w : World) (hc : w.heap[Bn]? = some (.cells #[.slice A hs.length c] 24 (0, 0))) (hi : IntsV w w.heap.size A hs) (hlen : hs.length ≤ 100) :
    Calls Try.prog 58 #[.func (.func 60) #[] #[.pointer (some ⟨Bn, 0, none⟩)]] w fun e w' => ∃ u, e = .returned u ∧ w'.ownsRow w.heap.size 2 1 u hs.length (hs.map (Value.int .i64)) ∧ Below w.heap.size w w' := by
  have AQ := Lib.hid (appendSeq_any Bn A c hs w hc hi hlen)
  clear hc hi
  go_enter Try.func58, Try.ntmps58
  go_wp2_with fail
  refine AQ.out.mono ?_
  rintro e w1 ⟨u, rfl, ho, hb⟩
  have OO := Lib.hid ho
  obtain ⟨Au, cu, rfl⟩ := vlen_own1 ho
  clear ho
  go_wp2
  go_ret
  exact ⟨_, rfl, OO.out, hb⟩
end

section
open Go.RowKit Go.Shelf

shelf_lay_g SlLaysM.n5 Slgm 5 at Try 59 as sortZL
shelf_lay_g SlLaysN.n49 Slgn 49 at Try 46 as searchZL

theorem sortInts_any (v : Value) (zs : List Int) (base : Nat) (w : World) (hown : w.ownsRow base 2 1 v zs.length (zs.map (Value.int .i64))) (hn : zs.length ≤ 100) :
    Calls Try.prog 59 #[v] w fun e w' => e = .returned (.tuple #[]) ∧ w'.ownsRow base 2 1 v zs.length ((rowI zs).map (Value.int .i64)) ∧ w.grownBy w' v.ownBlock := by
  by_cases h0 : zs.length = 0
  · obtain ⟨A, c, rfl⟩ := vlen_own1 hown
    obtain rfl : zs = [] := List.eq_nil_of_length_eq_zero h0
    have H := AnyM.slices_Sort_int_none sortZL A c w
    refine H.mono fun e w' h => ?_
    obtain ⟨h1, h2⟩ := h
    subst h2
    refine ⟨h1, ?_, World.grownBy.refl _ _⟩
    simpa [rowI] using hown
  · rcases hown.2 with ⟨_, h⟩ | ⟨g, cap, cur, rfl, hb, hg, hc, hm, hs, ht⟩
    · exact absurd h h0
    · have hlt := (Array.getElem?_eq_some_iff.1 hg).1
      have H := AnyM.slices_Sort_int sortZL g 0 cap zs w (holds_of_blockI hg (by simpa using ht)) hlt (by omega)
      refine H.mono fun e w' h => ?_
      obtain ⟨h1, n, os, rfl⟩ := h
      exact ⟨h1, ownsRow_sortedI (by rw [List.length_mergeSort]) hb hg hc hm hs, grownBy_sortedI _⟩
theorem rowI_length (zs : List Int) : (rowI zs).length = zs.length := (rowI_perm zs).length_eq

set_option maxHeartbeats 1000000 in
theorem sorted_any (Bn : Nat) (A : Option Addr) (c : Nat) (hs : List Int) (w : World) (hc : w.heap[Bn]? = some (.cells #[.slice A hs.length c] 24 (0, 0))) (hi : IntsV w w.heap.size A hs) (hlen : hs.length ≤ 100) :
    Calls Try.prog 44 #[.func (.func 60) #[] #[.pointer (some ⟨Bn, 0, none⟩)]] w fun e w' => ∃ u, e = .returned u ∧ w'.ownsRow w.heap.size 2 1 u hs.length ((rowI hs).map (Value.int .i64)) ∧ Below w.heap.size w w' := by
  have AQ := Lib.hid (collect_any Bn A c hs w hc hi hlen)
  clear hc hi
  go_enter Try.func44, Try.ntmps44
  go_wp2_with fail
  refine AQ.out.mono ?_
  rintro e w1 ⟨u, rfl, ho, hb⟩
  have OO := Lib.hid ho
  obtain ⟨Au, cu, rfl⟩ := vlen_own1 ho
  clear ho
  go_wp2_with fail
  refine (sortInts_any _ hs w.heap.size _ OO.out hlen).mono ?_
  rintro e w2 ⟨rfl, ho, hg⟩
  have O2 := Lib.hid ho
  have B2 := Lib.hid (hb.grown hg hb.size (fun k hk => (OO.out.lt k hk).1))
  clear ho hg
  go_wp2
  go_ret
  exact ⟨_, rfl, O2.out, B2.out⟩

theorem countP_lb : ∀ {row : List Int} (_ : row.Pairwise (· ≤ ·)) (a : Int), row.countP (fun x => decide (x < a)) = lbI row a
  | [], _, _ => rfl
  | v :: t, hp, a => by
    obtain ⟨h1, h2⟩ := List.pairwise_cons.1 hp
    have ih := countP_lb h2 a
    unfold lbI at ih ⊢
    by_cases hv : v < a
    · rw [List.countP_cons_of_pos (by simpa using hv), List.takeWhile_cons_of_pos (by simpa using hv), List.length_cons, ih]
    · rw [List.countP_cons_of_neg (by simpa using hv), List.takeWhile_cons_of_neg (by simpa using hv), List.length_nil, List.countP_eq_zero]
      intro x hx
      have := h1 x hx
      simp
      omega
theorem search_any (g : Nat) (c : Nat) (row : List Int) (a : Int) (w : World) (hat : IntsAt .i64 w g 0 row) (hp : row.Pairwise (· ≤ ·)) (hn : row.length ≤ 100) :
    Calls Try.prog 46 #[.slice (some ⟨g, 0, none⟩) row.length c, .int .i64 a] w fun e w' => (∃ b, e = .returned (.tuple #[.int .i64 ((lbI row a : Nat) : Int), .bool b])) ∧ Below w.heap.size w w' := by
  have H := AnyG.slices_BinarySearch_int searchZL g 0 row.length c row a w (Nat.le_refl _) (by omega) (fun j hj => by rw [hat j hj, List.getD_eq_getElem?_getD, List.getElem?_eq_getElem hj]; rfl) (by rw [List.take_length]; exact hp)
  refine H.mono fun e w' h => ?_
  obtain ⟨h1, q, rfl⟩ := h
  rw [List.take_length, countP_lb hp] at h1
  exact ⟨⟨_, h1⟩, below_drewN (Below.refl _ _) q⟩
end

section
open Go.RowKit Go.Shelf

/-- Ways out of a scope: by a goto, J of its label. -/
def Exit.jumpsW (J : Nat → Act → World → Prop) (Q : Exit → Act → World → Prop) : Exit → Act → World → Prop
  | .goto l, a, w => J l a w
  | e, a, w => Q e a w
theorem wp_scope_labels {P : Program} {a : Act} {w : World} {Q : Exit → Act → World → Prop} {c : Code} (J : Nat → Act → World → Prop) (μ : Nat → Act → World → Nat)
    (first : c.wp P (Exit.jumpsW J Q) a w)
    (pass : ∀ l a w, J l a w → ∃ rest, findLabel c l = some rest ∧ rest.wp P (Exit.jumpsW (fun l' a' w' => J l' a' w' ∧ μ l' a' w' < μ l a w) Q) a w) : (Code.scope c).wp P Q a w := by
  intro b k cs
  have go : ∀ n l a w, μ l a w = n → J l a w → ∃ rest, findLabel c l = some rest ∧ ∃ e a' w', Q e a' w' ∧ Arrives P (lone (b.at a (.code rest :: .inScope c :: k)) cs w) b k cs e a' w' := by
    intro n
    induction n using Nat.strongRecOn with
    | _ n ih =>
      intro l a w hn hJ
      obtain ⟨rest, hf, hp⟩ := pass l a w hJ
      refine ⟨rest, hf, ?_⟩
      obtain ⟨e, a1, w1, hq, harr⟩ := hp b (.inScope c :: k) cs
      cases e with
      | goto l' =>
        obtain ⟨hJ', hlt⟩ := hq
        obtain ⟨rest', hf', e2, a2, w2, hq2, harr2⟩ := ih _ (by omega) l' a1 w1 rfl hJ'
        exact ⟨e2, a2, w2, hq2, .of_steps (harr _ (by simp [gotoIn, hf'])) harr2⟩
      | normal => exact ⟨_, a1, w1, hq, Steps.trans harr (.one step_inScope)⟩
      | exit id => exact ⟨.exit id, a1, w1, hq, fun k' hk => harr k' (by simp [exitTo, hk])⟩
      | ret => exact ⟨_, a1, w1, hq, harr⟩
      | panic ch => exact ⟨_, a1, w1, hq, harr⟩
      | outgrown => exact ⟨_, a1, w1, hq, harr⟩
  obtain ⟨e, a1, w1, hq, harr⟩ := first b (.inScope c :: k) cs
  cases e with
  | goto l' =>
    obtain ⟨rest', hf', e2, a2, w2, hq2, harr2⟩ := go _ l' a1 w1 rfl hq
    exact ⟨e2, a2, w2, hq2, .of_steps (.head step_scope (harr _ (by simp [gotoIn, hf']))) harr2⟩
  | normal => exact ⟨_, a1, w1, hq, .head step_scope (Steps.trans harr (.one step_inScope))⟩
  | exit id => exact ⟨.exit id, a1, w1, hq, fun k' hk => .head step_scope (harr k' (by simp [exitTo, hk]))⟩
  | ret => exact ⟨_, a1, w1, hq, .of_steps (.one step_scope) harr⟩
  | panic ch => exact ⟨_, a1, w1, hq, .of_steps (.one step_scope) harr⟩
  | outgrown => exact ⟨_, a1, w1, hq, .of_steps (.one step_scope) harr⟩
theorem wp_jumps_mono {P : Program} {a : Act} {w : World} {Q : Exit → Act → World → Prop} {c : Code} {J J' : Nat → Act → World → Prop} (h : c.wp P (Exit.jumpsW J Q) a w) (hJ : ∀ l a w, J l a w → J' l a w) : c.wp P (Exit.jumpsW J' Q) a w := by
  intro b k cs
  obtain ⟨e, a1, w1, hq, harr⟩ := h b k cs
  refine ⟨e, a1, w1, ?_, harr⟩
  cases e with
  | goto l => exact hJ l _ _ hq
  | normal => exact hq
  | exit id => exact hq
  | ret => exact hq
  | panic ch => exact hq
  | outgrown => exact hq

/-- The walk when all stops from i on have been taken. -/
def walkT (row : List Int) (f i : Nat) : List Int := row.drop f ++ ((row.take f).drop i).reverse
theorem walkT_f (row : List Int) (f : Nat) : walkT row f f = row.drop f := by
  unfold walkT
  have h : (row.take f).drop f = [] := List.drop_eq_nil_of_le (by rw [List.length_take]; omega)
  rw [h]
  simp
theorem walkT_zero (row : List Int) (s : Int) (f : Nat) : walkT row f 0 = walkL row s f := by unfold walkT walkL; simp
theorem walkT_step {row : List Int} {f i : Nat} (hi : i < f) (hf : f ≤ row.length) : walkT row f i = walkT row f (i + 1) ++ [row[i]'(by omega)] := by
  unfold walkT
  rw [List.append_assoc]
  congr 1
  rw [List.drop_eq_getElem_cons (by rw [List.length_take]; omega), List.reverse_cons]
  congr 2
  simp
theorem walkT_length {row : List Int} {f i : Nat} (hi : i ≤ f) (hf : f ≤ row.length) : (walkT row f i).length = row.length - i := by
  unfold walkT
  simp
  omega
/-- The frame at both labels. -/
def ShFr (a' : Act) (A : Option Addr) (n c : Nat) (a : Int) (row vv : Value) (x6 x8 : Int) : Prop :=
  ∃ u9 u10 u11 u12 u13 u14 u15 u16 u17 u18 u19 u20 u21 u22 u23 u24 u25 u26 u27 u28 u29 u30 u31 u32 u33 u34 u35 u36 u37 u38 u39 u40 u41 u42 u43 u44 u45 u46 u47 u48 u49 u50 u51 u52 u53 u54 u55 u56 u57 u58 u59 u60 u61 u62 : Value, a' = { tmps := #[.slice A n c, .int .i64 a, undef, undef, .slice none 0 0, row, .int .i64 x6, vv, .int .i64 x8, u9, u10, u11, u12, u13, u14, u15, u16, u17, u18, u19, u20, u21, u22, u23, u24, u25, u26, u27, u28, u29, u30, u31, u32, u33, u34, u35, u36, u37, u38, u39, u40, u41, u42, u43, u44, u45, u46, u47, u48, u49, u50, u51, u52, u53, u54, u55, u56, u57, u58, u59, u60, u61, u62], defers := [] }
def m6 (a' : Act) : Nat := (intOf (a'.tmps.getD 6 undef)).toNat
def m8 (a' : Act) : Nat := (intOf (a'.tmps.getD 8 undef)).toNat

theorem wp_scope_labels2 {P : Program} {a : Act} {w : World} {Q : Exit → Act → World → Prop} {c : Code} (J : Nat → Act → World → Prop) (μ : Nat → Act → World → Nat)
    (pass : ∀ l a w, J l a w → ∃ rest, findLabel c l = some (Code.skip.seq rest) ∧ rest.wp P (Exit.jumpsW (fun l' a' w' => J l' a' w' ∧ μ l' a' w' < μ l a w) Q) a w)
    (first : (∀ l a w, J l a w → ∀ rest, findLabel c l = some (Code.skip.seq rest) → rest.wp P (Exit.jumpsW J Q) a w) → c.wp P (Exit.jumpsW J Q) a w) : (Code.scope c).wp P Q a w :=
  wp_scope_labels J μ (first fun l a w h rest hr => by
    obtain ⟨r, h1, h2⟩ := pass l a w h
    rw [hr] at h1
    injection h1 with h1
    injection h1 with _ h1
    subst h1
    exact wp_jumps_mono h2 fun l a w h => h.1) fun l a w h => by
    obtain ⟨r, h1, h2⟩ := pass l a w h
    exact ⟨_, h1, wp_seq (wp_skip h2)⟩
theorem jumpsW_ret {J : Nat → Act → World → Prop} {Q : Exit → Act → World → Prop} {a : Act} {w : World} : Exit.jumpsW J Q .ret a w = Q .ret a w := rfl
/-- At the first label. -/
def ShJ0 (w : World) (A : Option Addr) (n c : Nat) (a : Int) (row : List Int) (ff : Nat) (a' : Act) (w' : World) : Prop :=
  ∃ (next : Nat) (vv : Value) (Au : Option Addr) (cu : Nat) (w1 : World), ff ≤ next ∧ next ≤ row.length ∧ ShFr a' A n c a (.slice Au row.length cu) vv (ff : Int) (next : Int) ∧ IntsOf .i64 w1 (.slice Au row.length cu) row ∧ Below w.heap.size w w1 ∧ Below w1.heap.size w1 w' ∧ w'.ownsRow w1.heap.size 2 1 vv (next - ff) (((row.drop ff).take (next - ff)).map (Value.int .i64))
/-- At the second label. -/
def ShJ1 (w : World) (A : Option Addr) (n c : Nat) (a : Int) (row : List Int) (ff : Nat) (a' : Act) (w' : World) : Prop :=
  ∃ (i : Nat) (x8 : Int) (vv : Value) (Au : Option Addr) (cu : Nat) (w1 : World), i ≤ ff ∧ ShFr a' A n c a (.slice Au row.length cu) vv (i : Int) x8 ∧ IntsOf .i64 w1 (.slice Au row.length cu) row ∧ Below w.heap.size w w1 ∧ Below w1.heap.size w1 w' ∧ w'.ownsRow w1.heap.size 2 1 vv (row.length - i) ((walkT row ff i).map (Value.int .i64))

set_option maxRecDepth 1000000 in
set_option maxHeartbeats 16000000 in
theorem shortestOf_any (v : Value) (zs : List Int) (a : Int) (w : World) (hs : IntsOf .i64 w v zs) (hb : ∀ x ∈ zs, 0 ≤ x ∧ x ≤ 999) (h0 : 0 ≤ a ∧ a ≤ 999) (h60 : zs.length ≤ 60) :
    Calls Try.prog 22 #[v, .int .i64 a] w fun e w' => ∃ u, e = .returned u ∧ w'.ownsRow w.heap.size 2 1 u zs.length ((walkI zs a).map (Value.int .i64)) ∧ Below w.heap.size w w' := by
  obtain ⟨A, c, rfl, hat⟩ := hs
  have HAT := Lib.hid hat
  obtain ⟨i0, hi0, hz0, hz1, hz2⟩ := info_parts infoIntS
  have X1 := Lib.hid (heap_alloc_new w (.cells #[.slice A zs.length c] 24))
  have D1 := Lib.hid ((Below.refl w.heap.size w).alloc (Nat.le_refl _) (.cells #[.slice A zs.length c] 24))
  have S1 := Lib.hid (show (w.alloc (.cells #[.slice A zs.length c] 24)).heap.size = w.heap.size + 1 by simp)
  have IV := Lib.hid (show IntsV (w.alloc (.cells #[.slice A zs.length c] 24)) (w.alloc (.cells #[.slice A zs.length c] 24)).heap.size A zs from fun hp => by
    obtain ⟨g, o, e, hg, hc⟩ := hat hp
    exact ⟨g, o, e, by simp; omega, fun k hk => ((D1.out.cell (p := ⟨g, o + k, none⟩) hg).trans (hc k hk))⟩)
  have RL := Lib.hid (rowI_length zs)
  have RS := Lib.hid (rowI_sorted zs)
  have RB := Lib.hid (show ∀ x ∈ rowI zs, 0 ≤ x ∧ x ≤ 999 from fun x hx => hb x ((rowI_perm zs).mem_iff.1 hx))
  have FE := Lib.hid (show walkI zs a = walkL (rowI zs) a (fstI zs a) from rfl)
  have FF := Lib.hid (show fstI zs a = if turnB (rowI zs) a then lbI (rowI zs) a else 0 from rfl)
  have LB := Lib.hid (lbI_le (rowI zs) a)
  generalize hrow : rowI zs = row at *
  have HROW := Lib.hid hrow
  clear hrow
  generalize walkI zs a = WW at *
  generalize fstI zs a = ff at *
  clear hat hb
  go_enter Try.func22, Try.ntmps22
  go_wp2_with fail
  have FFL := Lib.hid (show ff ≤ row.length by rw [FF.out]; have := LB.out; split <;> omega)
  refine wp_scope_labels2 (fun l a' w' => (l = 0 ∧ ShJ0 w A zs.length c a row ff a' w') ∨ (l = 1 ∧ ShJ1 w A zs.length c a row ff a' w')) (fun l a' _ => if l = 0 then 1000 - m8 a' else m6 a') ?pass ?first
  case pass =>
    rintro l a' w' (⟨rfl, next, vv, Au, cu, w1, hfn, hnl, hfr, hr, bw1, bb, ow⟩ | ⟨rfl, i, x8, vv, Au, cu, w1, hif, hfr, hr, bw1, bb, ow⟩)
    · refine ⟨_, rfl, ?_⟩
      obtain ⟨u9, u10, u11, u12, u13, u14, u15, u16, u17, u18, u19, u20, u21, u22, u23, u24, u25, u26, u27, u28, u29, u30, u31, u32, u33, u34, u35, u36, u37, u38, u39, u40, u41, u42, u43, u44, u45, u46, u47, u48, u49, u50, u51, u52, u53, u54, u55, u56, u57, u58, u59, u60, u61, u62, rfl⟩ := hfr
      have HR := Lib.hid hr
      have BW1 := Lib.hid bw1
      have BB := Lib.hid bb
      have OW := Lib.hid ow
      have hfl := FFL.out
      have r60 : row.length ≤ 60 := by rw [RL.out]; exact h60
      obtain ⟨A', c', e', hrx⟩ := hr
      obtain ⟨rfl, rfl⟩ : Au = A' ∧ cu = c' := by injection e' with q1 q2 q3; exact ⟨q1, q3⟩
      have HRX := Lib.hid hrx
      clear bw1 bb ow hrx e'
      by_cases hnx : next < row.length
      · have hnx2 : (next : Int) < (row.length : Int) := by omega
        obtain ⟨g, o, hAu, hg, hcs⟩ := HRX.out (by omega)
        subst hAu
        have p0 := (BB.out.cell (p := ⟨g, o + next, none⟩) hg).trans (hcs next hnx)
        have ST := Lib.hid (show (row.drop ff).take (next + 1 - ff) = (row.drop ff).take (next - ff) ++ [row[next]] by
          rw [show next + 1 - ff = (next - ff) + 1 by omega, List.take_succ_eq_append_getElem (by rw [List.length_drop]; omega), List.getElem_drop]
          congr 2
          simp only [show ff + (next - ff) = next by omega])
        generalize row[next] = x at p0 ST
        clear hcs
        have hsz := BB.out.size
        have OA := Lib.hid (OW.out.alloc (.cells #[.int .i64 (x)] 2))
        have BA := Lib.hid (BB.out.alloc hsz (.cells #[.int .i64 (x)] 2))
        have hbz : w1.heap.size ≤ (w'.alloc (.cells #[.int .i64 (x)] 2)).heap.size := BA.out.size
        go_wp2_with (at_builtin; refine wpList_append_own _ rfl (.tmp 42) (.tmp 47) _ rfl w1.heap.size 2 i0 (.int .i64 0) 1 8 Try.underlying24 hi0 hz0 hz1 hz2 rfl (by decide) _ _ _ rfl OA.out ⟨w'.heap.size, 0, none⟩ 1 1 [.int .i64 (x)] rfl rfl ?c1bq1 ?c2bq1 ?c3bq1 ?c4bq1 ?c5bq1 ?_)
        case c1bq1 => exact cell_one_new _ _ _
        case c2bq1 => (intro u hu; simp at hu; subst hu; rfl)
        case c3bq1 => (unfold maxLen; omega)
        case c4bq1 => omega
        case c5bq1 => (first | exact hbz | (simp; omega))
        intro v5 w5 ho5 hg5 _
        have B5 := Lib.hid (show Below w1.heap.size w1 w5 from BA.out.grown hg5 BA.out.size (fun k hk => (OW.out.lt k hk).1))
        have O5 := Lib.hid ho5
        clear ho5 hg5
        have O6 := Lib.hid (show w5.ownsRow w1.heap.size 2 1 v5 (next + 1 - ff) (((row.drop ff).take (next + 1 - ff)).map (Value.int .i64)) by rw [ST.out, List.map_append, show next + 1 - ff = next - ff + 1 by omega]; simpa using O5.out)
        go_wp2
        go_step3
        exact ⟨.inl ⟨rfl, ⟨next + 1, v5, _, cu, w1, by omega, by omega, ⟨_, _, _, _, _, _, _, _, _, _, _, _, _, _, _, _, _, _, _, _, _, _, _, _, _, _, _, _, _, _, _, _, _, _, _, _, _, _, _, _, _, _, _, _, _, _, _, _, _, _, _, _, _, _, rfl⟩, HR.out, BW1.out, B5.out, O6.out⟩⟩, by simp [m8, m6, intOf] <;> omega⟩
      · have hnr : next = row.length := by omega
        have hnx2 : ¬ ((next : Int) < (row.length : Int)) := by omega
        obtain ⟨i, hi⟩ : ∃ i : Nat, i = ff := ⟨_, rfl⟩
        have hif : i ≤ ff := by omega
        have OW := Lib.hid (show w'.ownsRow w1.heap.size 2 1 vv (row.length - i) ((walkT row ff i).map (Value.int .i64)) by
          have h := OW.out
          have e1 : next - ff = row.length - ff := by omega
          rw [e1, List.take_of_length_le (by rw [List.length_drop]; omega)] at h
          rw [hi, walkT_f]
          exact h)
        clear hnr
        go_wp2
        go_step3
        rw [show ((ff : Nat) : Int) = (i : Int) by rw [hi]]
        clear hi hnx2
        rcases i with _ | i
        · have OZ := Lib.hid OW.out
          rw [walkT_zero row a ff] at OZ
          obtain ⟨Az, cz, rfl⟩ := vlen_own1 OZ.out
          have OF := Lib.hid (ownsMono OZ.out (show w.heap.size ≤ w1.heap.size from BW1.out.size))
          have BF := Lib.hid (BW1.out.trans (BB.out.mono BW1.out.size))
          go_wp2
          rw [jumpsW_ret]
          go_ret
          exact ⟨_, rfl, by rw [FE.out, ← RL.out]; exact OF.out, BF.out⟩
        · have hil : i < row.length := by omega
          have hi1 : ((i + 1 : Nat) : Int) - 1 = (i : Int) := by omega
          have hi2 : (0 : Int) < ((i + 1 : Nat) : Int) := by omega
          have hi3 : ¬ (((i + 1 : Nat) : Int) = 0) := by omega
          obtain ⟨g, o, hAu, hg, hcs⟩ := HRX.out (by omega)
          subst hAu
          have p0 := (BB.out.cell (p := ⟨g, o + i, none⟩) hg).trans (hcs i hil)
          have ST := Lib.hid (walkT_step (row := row) (f := ff) (i := i) (by omega) hfl)
          have RB1 := RB.out row[i] (List.getElem_mem hil)
          generalize row[i] = x at p0 ST RB1
          clear hcs
          have hsz := BB.out.size
          have OA := Lib.hid (OW.out.alloc (.cells #[.int .i64 (x)] 2))
          have BA := Lib.hid (BB.out.alloc hsz (.cells #[.int .i64 (x)] 2))
          have hbz : w1.heap.size ≤ (w'.alloc (.cells #[.int .i64 (x)] 2)).heap.size := BA.out.size
          go_wp2_with (at_builtin; refine wpList_append_own _ rfl (.tmp 55) (.tmp 60) _ rfl w1.heap.size 2 i0 (.int .i64 0) 1 8 Try.underlying24 hi0 hz0 hz1 hz2 rfl (by decide) _ _ _ rfl OA.out ⟨w'.heap.size, 0, none⟩ 1 1 [.int .i64 (x)] rfl rfl ?c1aq2 ?c2aq2 ?c3aq2 ?c4aq2 ?c5aq2 ?_)
          case c1aq2 => exact cell_one_new _ _ _
          case c2aq2 => (intro u hu; simp at hu; subst hu; rfl)
          case c3aq2 => (unfold maxLen; omega)
          case c4aq2 => omega
          case c5aq2 => (first | exact hbz | (simp; omega))
          intro v5 w5 ho5 hg5 _
          have B5 := Lib.hid (show Below w1.heap.size w1 w5 from BA.out.grown hg5 BA.out.size (fun k hk => (OW.out.lt k hk).1))
          have O5 := Lib.hid ho5
          clear ho5 hg5
          have O6 := Lib.hid (show w5.ownsRow w1.heap.size 2 1 v5 (row.length - i) ((walkT row ff i).map (Value.int .i64)) by rw [ST.out, List.map_append, show row.length - i = row.length - (i + 1) + 1 by omega]; exact O5.out)
          go_wp2
          go_step3
          exact ⟨.inr ⟨rfl, ⟨i, _, v5, _, cu, w1, by omega, ⟨_, _, _, _, _, _, _, _, _, _, _, _, _, _, _, _, _, _, _, _, _, _, _, _, _, _, _, _, _, _, _, _, _, _, _, _, _, _, _, _, _, _, _, _, _, _, _, _, _, _, _, _, _, _, rfl⟩, HR.out, BW1.out, B5.out, O6.out⟩⟩, by simp [m8, m6, intOf] <;> omega⟩
    · refine ⟨_, rfl, ?_⟩
      obtain ⟨u9, u10, u11, u12, u13, u14, u15, u16, u17, u18, u19, u20, u21, u22, u23, u24, u25, u26, u27, u28, u29, u30, u31, u32, u33, u34, u35, u36, u37, u38, u39, u40, u41, u42, u43, u44, u45, u46, u47, u48, u49, u50, u51, u52, u53, u54, u55, u56, u57, u58, u59, u60, u61, u62, rfl⟩ := hfr
      have HR := Lib.hid hr
      have BW1 := Lib.hid bw1
      have BB := Lib.hid bb
      have OW := Lib.hid ow
      have hfl := FFL.out
      have r60 : row.length ≤ 60 := by rw [RL.out]; exact h60
      obtain ⟨A', c', e', hrx⟩ := hr
      obtain ⟨rfl, rfl⟩ : Au = A' ∧ cu = c' := by injection e' with q1 q2 q3; exact ⟨q1, q3⟩
      have HRX := Lib.hid hrx
      clear bw1 bb ow hrx e'
      rcases i with _ | i
      · have OZ := Lib.hid OW.out
        rw [walkT_zero row a ff] at OZ
        obtain ⟨Az, cz, rfl⟩ := vlen_own1 OZ.out
        have OF := Lib.hid (ownsMono OZ.out (show w.heap.size ≤ w1.heap.size from BW1.out.size))
        have BF := Lib.hid (BW1.out.trans (BB.out.mono BW1.out.size))
        go_wp2
        rw [jumpsW_ret]
        go_ret
        exact ⟨_, rfl, by rw [FE.out, ← RL.out]; exact OF.out, BF.out⟩
      · have hil : i < row.length := by omega
        have hi1 : ((i + 1 : Nat) : Int) - 1 = (i : Int) := by omega
        have hi2 : (0 : Int) < ((i + 1 : Nat) : Int) := by omega
        have hi3 : ¬ (((i + 1 : Nat) : Int) = 0) := by omega
        obtain ⟨g, o, hAu, hg, hcs⟩ := HRX.out (by omega)
        subst hAu
        have p0 := (BB.out.cell (p := ⟨g, o + i, none⟩) hg).trans (hcs i hil)
        have ST := Lib.hid (walkT_step (row := row) (f := ff) (i := i) (by omega) hfl)
        have RB1 := RB.out row[i] (List.getElem_mem hil)
        generalize row[i] = x at p0 ST RB1
        clear hcs
        have hsz := BB.out.size
        have OA := Lib.hid (OW.out.alloc (.cells #[.int .i64 (x)] 2))
        have BA := Lib.hid (BB.out.alloc hsz (.cells #[.int .i64 (x)] 2))
        have hbz : w1.heap.size ≤ (w'.alloc (.cells #[.int .i64 (x)] 2)).heap.size := BA.out.size
        go_wp2_with (at_builtin; refine wpList_append_own _ rfl (.tmp 55) (.tmp 60) _ rfl w1.heap.size 2 i0 (.int .i64 0) 1 8 Try.underlying24 hi0 hz0 hz1 hz2 rfl (by decide) _ _ _ rfl OA.out ⟨w'.heap.size, 0, none⟩ 1 1 [.int .i64 (x)] rfl rfl ?c1aq3 ?c2aq3 ?c3aq3 ?c4aq3 ?c5aq3 ?_)
        case c1aq3 => exact cell_one_new _ _ _
        case c2aq3 => (intro u hu; simp at hu; subst hu; rfl)
        case c3aq3 => (unfold maxLen; omega)
        case c4aq3 => omega
        case c5aq3 => (first | exact hbz | (simp; omega))
        intro v5 w5 ho5 hg5 _
        have B5 := Lib.hid (show Below w1.heap.size w1 w5 from BA.out.grown hg5 BA.out.size (fun k hk => (OW.out.lt k hk).1))
        have O5 := Lib.hid ho5
        clear ho5 hg5
        have O6 := Lib.hid (show w5.ownsRow w1.heap.size 2 1 v5 (row.length - i) ((walkT row ff i).map (Value.int .i64)) by rw [ST.out, List.map_append, show row.length - i = row.length - (i + 1) + 1 by omega]; exact O5.out)
        go_wp2
        go_step3
        exact ⟨.inr ⟨rfl, ⟨i, _, v5, _, cu, w1, by omega, ⟨_, _, _, _, _, _, _, _, _, _, _, _, _, _, _, _, _, _, _, _, _, _, _, _, _, _, _, _, _, _, _, _, _, _, _, _, _, _, _, _, _, _, _, _, _, _, _, _, _, _, _, _, _, _, rfl⟩, HR.out, BW1.out, B5.out, O6.out⟩⟩, by simp [m8, m6, intOf] <;> omega⟩
  case first =>
    intro PASS
    have PASS := Lib.hid PASS
    go_wp2_with fail
    refine (values_any A zs.length c _).mono ?_
    rintro e w0 ⟨rfl, rfl⟩
    go_wp2_with fail
    refine (sorted_any w.heap.size A c zs _ X1.out IV.out (by omega)).mono ?_
    rintro e w1 ⟨u, rfl, ho, g1⟩
    obtain ⟨Au, cu, rfl⟩ := vlen_own1 ho
    rw [show Value.slice Au zs.length cu = Value.slice Au row.length cu by rw [RL.out]]
    have BW1 := Lib.hid (show Below w.heap.size w w1 from D1.out.trans (g1.mono (by rw [S1.out]; omega)))
    have HRO := Lib.hid (show w1.ownsRow (w.alloc (.cells #[.slice A zs.length c] 24)).heap.size 2 1 (.slice Au row.length cu) row.length (row.map (Value.int .i64)) by rw [RL.out, ← HROW.out]; exact ho)
    have HR := Lib.hid (ownInts (l := row) HRO.out)
    have hfl := FFL.out
    have r60 : row.length ≤ 60 := by rw [RL.out]; exact h60
    obtain ⟨A', c', e', hrx⟩ := HR.out
    obtain ⟨rfl, rfl⟩ : Au = A' ∧ cu = c' := by injection e' with q1 q2 q3; exact ⟨q1, q3⟩
    have HRX := Lib.hid hrx
    clear ho g1 hrx e'
    by_cases hpos : 0 < row.length
    · obtain ⟨g, hAu⟩ : ∃ g, Au = some ⟨g, 0, none⟩ := by
        rcases HRO.out.2 with ⟨_, h⟩ | ⟨g, cap, cur, h, _⟩
        · omega
        · injection h with h1 _ _; exact ⟨g, h1⟩
      subst hAu
      obtain ⟨g', o', hg', hgl, hcs⟩ := HRX.out hpos
      obtain ⟨rfl, rfl⟩ : g = g' ∧ o' = 0 := by injection hg' with h; injection h with h1 h2; exact ⟨h1, h2.symm⟩
      have HCS := Lib.hid hcs
      have p0 := hcs 0 hpos
      obtain ⟨m, hm⟩ : ∃ m, m + 1 = row.length := ⟨row.length - 1, by omega⟩
      have hml : m < row.length := by omega
      have p1 := hcs m hml
      rw [Nat.zero_add] at p1
      rw [Nat.add_zero] at p0
      have RB0 := RB.out row[0] (List.getElem_mem hpos)
      have RB1 := RB.out row[m] (List.getElem_mem hml)
      have TB := Lib.hid (show turnB row a = decide (row[m] - a < a - row[0]) by
        unfold turnB
        rw [decide_eq_true hpos, Bool.true_and, show row.length - 1 = m by omega, List.getD_eq_getElem?_getD, List.getD_eq_getElem?_getD, List.getElem?_eq_getElem hml, List.getElem?_eq_getElem hpos]
        rfl)
      have wm : (row.length : Int) - 1 = (m : Int) := by omega
      have wm2 : IntKind.i64.wrap (m : Int) = (m : Int) := IntWalk.i64_in _ (by omega)
      have hposI : (0 : Int) < (row.length : Int) := by omega
      generalize row[0] = x at p0 RB0 TB
      generalize row[m] = y at p1 RB1 TB
      have n1 : IntKind.i64.wrap (a - x) = a - x := IntWalk.i64_in _ (by omega)
      have n2 : IntKind.i64.wrap (y - a) = y - a := IntWalk.i64_in _ (by omega)
      have q0 := belowBy_cell hgl p0
      have q1 := belowBy_cell hgl p1
      have d0 : decide ((0 : Int) < (row.length : Int)) = true := decide_eq_true hposI
      clear hcs hg' hm
      cases ht : turnB row a
      · have d2 : decide (y - a < a - x) = false := by rw [← TB.out]; exact ht
        have HFF := Lib.hid (show ff = 0 by rw [FF.out, ht]; rfl)
        clear ht
        go_wp2
        refine wp_region_below (by kernel_rfl) (by kernel_rfl) ?_
        iterate 19 (first | go_big_quiet_step (fail) | quiet_step (fail))
        refine wpQuiet_nil ?_
        rintro w2 ⟨⟨_, hq⟩, rfl⟩
        clear q0 q1 p0 p1
        have BB := Lib.hid hq
        clear hq d0 d2 wm wm2 n1 n2 hposI
        have OW := Lib.hid (show w2.ownsRow w1.heap.size 2 1 (.slice none 0 0) (ff - ff) (((row.drop ff).take (ff - ff)).map (Value.int .i64)) from ⟨by simp, .inl ⟨rfl, by omega⟩⟩)
        go_wp2
        go_step3
        rename_i aa
        exact aa _ _ (PASS.out 0 _ _ (.inl ⟨rfl, ff, _, _, cu, w1, Nat.le_refl _, hfl, ⟨_, _, _, _, _, _, _, _, _, _, _, _, _, _, _, _, _, _, _, _, _, _, _, _, _, _, _, _, _, _, _, _, _, _, _, _, _, _, _, _, _, _, _, _, _, _, _, _, _, _, _, _, _, _, by first | (rw [HFF.out]; done) | (rw [HFF.out]; rfl)⟩, HR.out, BW1.out, BB.out, OW.out⟩) _ rfl)
      · have d2 : decide (y - a < a - x) = true := by rw [← TB.out]; exact ht
        have HFF := Lib.hid (show ff = lbI row a by rw [FF.out, ht]; rfl)
        clear ht
        go_wp2
        refine wp_region_below (by kernel_rfl) (by kernel_rfl) ?_
        iterate 19 (first | go_big_quiet_step (fail) | quiet_step (fail))
        refine wpQuiet_nil ?_
        rintro w3 ⟨⟨_, hq⟩, rfl⟩
        clear q0 q1 p0 p1
        have BQ := Lib.hid hq
        clear hq d0 d2 wm wm2 n1 n2 hposI
        go_wp2_with fail
        refine (search_any g cu row a _ (fun k hk => (BQ.out.cell (p := ⟨g, 0 + k, none⟩) hgl).trans (HCS.out k hk)) RS.out (by omega)).mono ?_
        rintro e w2 ⟨⟨bb, rfl⟩, hq⟩
        have BB := Lib.hid (bnext BQ.out hq)
        clear hq
        have OW := Lib.hid (show w2.ownsRow w1.heap.size 2 1 (.slice none 0 0) (ff - ff) (((row.drop ff).take (ff - ff)).map (Value.int .i64)) from ⟨by simp, .inl ⟨rfl, by omega⟩⟩)
        go_wp2
        go_step3
        rename_i aa
        exact aa _ _ (PASS.out 0 _ _ (.inl ⟨rfl, ff, _, _, cu, w1, Nat.le_refl _, hfl, ⟨_, _, _, _, _, _, _, _, _, _, _, _, _, _, _, _, _, _, _, _, _, _, _, _, _, _, _, _, _, _, _, _, _, _, _, _, _, _, _, _, _, _, _, _, _, _, _, _, _, _, _, _, _, _, by first | (rw [HFF.out]; done) | (rw [HFF.out]; rfl)⟩, HR.out, BW1.out, BB.out, OW.out⟩) _ rfl)
    · have HFF := Lib.hid (show ff = 0 by have := LB.out; rw [FF.out]; split <;> omega)
      have d0 : decide ((0 : Int) < (row.length : Int)) = false := decide_eq_false (by omega)
      go_wp2
      refine wp_region_below (by kernel_rfl) (by kernel_rfl) ?_
      iterate 19 (first | go_big_quiet_step (fail) | quiet_step (fail))
      refine wpQuiet_nil ?_
      rintro w2 ⟨⟨_, hq⟩, rfl⟩
      have BB := Lib.hid hq
      clear hq d0
      have OW := Lib.hid (show w2.ownsRow w1.heap.size 2 1 (.slice none 0 0) (ff - ff) (((row.drop ff).take (ff - ff)).map (Value.int .i64)) from ⟨by simp, .inl ⟨rfl, by omega⟩⟩)
      go_wp2
      go_step3
      rename_i aa
      exact aa _ _ (PASS.out 0 _ _ (.inl ⟨rfl, ff, _, _, cu, w1, Nat.le_refl _, hfl, ⟨_, _, _, _, _, _, _, _, _, _, _, _, _, _, _, _, _, _, _, _, _, _, _, _, _, _, _, _, _, _, _, _, _, _, _, _, _, _, _, _, _, _, _, _, _, _, _, _, _, _, _, _, _, _, by first | (rw [HFF.out]; done) | (rw [HFF.out]; rfl)⟩, HR.out, BW1.out, BB.out, OW.out⟩) _ rfl)
end

section
open Go.RowKit Go.Shelf

set_option maxHeartbeats 16000000 in
theorem shortestWalk_any (v : Value) (zs : List Int) (a : Int) (w : World) (hs : IntsOf .i64 w v zs) (hn : zs.length ≤ maxLen) :
    Calls Try.prog 7 #[v, .int .i64 a] w fun e w' => ∃ u, e = .returned (.tuple #[u, .int .i64 (swV zs a), .int .i64 (wkC zs a)]) ∧ w'.ownsRow w.heap.size 2 1 u (swR zs a).length ((swR zs a).map (Value.int .i64)) ∧ Below w.heap.size w w' := by
  have HS := Lib.hid hs
  have CK := Lib.hid (checkWalk_any v zs a w hs hn)
  obtain ⟨A0, c0, rfl, -⟩ := hs
  by_cases h : wkC zs a = 0
  · have EC := Lib.hid h
    have E1 := Lib.hid (show swV zs a = farF a (walkI zs a) by unfold swV; rw [if_pos h])
    have E2 := Lib.hid (show swR zs a = walkI zs a by unfold swR; rw [if_pos h])
    obtain ⟨ha, hz, h60⟩ : stopB a = true ∧ zs.all stopB = true ∧ zs.length ≤ 60 := by
      rcases wk_cases zs a with ⟨_, h1, _⟩ | ⟨_, _, h1, _⟩ | ⟨_, _, _, h1, _⟩ | ⟨h1, h2, h3, _⟩
      · omega
      · omega
      · omega
      · exact ⟨h1, h2, h3⟩
    have HA := Lib.hid (stopB_bd ha)
    have HZ := Lib.hid (show ∀ x ∈ zs, 0 ≤ x ∧ x ≤ 999 from fun x hx => stopB_bd (List.all_eq_true.1 hz x hx))
    have WL := Lib.hid (show (walkI zs a).length = zs.length from (walkI_perm zs a).length_eq)
    have WZ := Lib.hid (show (walkI zs a).all stopB = true from List.all_eq_true.2 fun x hx => List.all_eq_true.1 hz x ((walkI_perm zs a).mem_iff.1 hx))
    clear h ha hz
    go_enter Try.func7, Try.ntmps7
    go_wp2_with fail
    refine CK.out.mono ?_
    rintro e w1 ⟨rfl, rfl⟩
    rw [EC.out]
    go_wp2_with fail
    refine (shortestOf_any _ zs a _ HS.out HZ.out HA.out h60).mono ?_
    rintro e w1 ⟨u, rfl, hown, hb⟩
    rw [← WL.out] at hown
    have OW := Lib.hid hown
    have B1 := Lib.hid hb
    clear hown hb
    obtain ⟨Ao, co, rfl⟩ := vlen_own1 OW.out
    go_wp2_with fail
    refine (lengthOf_any _ (walkI zs a) a _ (ownInts OW.out) HA.out WZ.out (by rw [WL.out]; exact h60)).mono ?_
    rintro e w2 ⟨rfl, hb⟩
    have B2 := Lib.hid hb
    clear hb
    go_wp2
    refine bodyPost_ret (v := .tuple #[.slice Ao (walkI zs a).length co, .int .i64 (farF a (walkI zs a)), .int .i64 0]) (by simp [results, Try.results7, go_sem]) rfl ?_
    exact ⟨_, by rw [E1.out, EC.out], by rw [E2.out]; exact ownBelow OW.out B2.out, bnext B1.out B2.out⟩
  · have EC := Lib.hid h
    have E1 := Lib.hid (show swV zs a = 0 by unfold swV; rw [if_neg h])
    have E2 := Lib.hid (show swR zs a = [] by unfold swR; rw [if_neg h])
    have d1 : (wkC zs a != 0) = true := by rw [bne_iff_ne]; exact h
    clear h
    generalize hcc : wkC zs a = cc at d1
    have HCC := Lib.hid hcc
    clear hcc
    go_enter Try.func7, Try.ntmps7
    go_wp2_with fail
    refine CK.out.mono ?_
    rintro e w1 ⟨rfl, rfl⟩
    rw [HCC.out]
    go_wp2
    refine bodyPost_ret (v := .tuple #[.slice none 0 0, .int .i64 0, .int .i64 cc]) (by simp [results, Try.results7, go_sem]) rfl ?_
    exact ⟨_, by rw [E1.out], by rw [E2.out]; exact ⟨rfl, .inl ⟨rfl, rfl⟩⟩, Below.refl _ _⟩
end

end Go.Proofs.Ytecpddkbbfpeeaa
