/- Shortest walks: the plain form. No condition. -/
import Derived.Test.YtpamflkefgpdpaaWk
namespace Go.Proofs.Ytpamflkefgpdpaa
set_option linter.unusedSimpArgs false
set_option linter.unusedVariables false
set_option maxRecDepth 100000

def mnI (a b : Int) : Int := if a ≤ b then a else b
theorem ap_cases (a b : Int) : (b ≤ a ∧ apart a b = a - b) ∨ (a < b ∧ apart a b = b - a) := by unfold apart; omega
theorem mn_cases (a b : Int) : (a ≤ b ∧ mnI a b = a) ∨ (b < a ∧ mnI a b = b) := by unfold mnI; split <;> omega
/-- c is the least length of a walk to the stops of L from s. -/
def LeastIs (L : List Int) (s c : Int) : Prop := (L = [] ∧ c = 0) ∨ ∃ lo hi, lo ∈ L ∧ hi ∈ L ∧ (∀ x ∈ L, lo ≤ x ∧ x ≤ hi) ∧ c = hi - lo + mnI (apart s lo) (apart s hi)
/-- R is L without x: it may hold x once more. -/
def RemP (L : List Int) (x : Int) (R : List Int) : Prop := (∀ y ∈ R, y ∈ L) ∧ ∀ y ∈ L, y ≠ x → y ∈ R
theorem rem_erase (L : List Int) (i : Nat) (h : i < L.length) : RemP L L[i] (L.take i ++ L.drop (i + 1)) := by
  constructor
  · intro y hy
    rcases List.mem_append.1 hy with h1 | h1
    · exact List.mem_of_mem_take h1
    · exact List.mem_of_mem_drop h1
  · intro y hy hne
    obtain ⟨k, hk, rfl⟩ := List.getElem_of_mem hy
    rcases Nat.lt_trichotomy k i with h1 | h1 | h1
    · exact List.mem_append_left _ (List.mem_take_iff_getElem.2 ⟨k, by omega, rfl⟩)
    · subst h1; exact absurd rfl hne
    · refine List.mem_append_right _ (List.mem_drop_iff_getElem.2 ⟨k - (i + 1), by omega, ?_⟩)
      congr 1
      omega
theorem least_uniq {L : List Int} {s c c' : Int} (h : LeastIs L s c) (h' : LeastIs L s c') : c = c' := by
  rcases h with ⟨rfl, rfl⟩ | ⟨lo, hi, a1, a2, a3, a4⟩
  · rcases h' with ⟨_, rfl⟩ | ⟨_, _, b1, _⟩
    · rfl
    · cases b1
  · rcases h' with ⟨rfl, _⟩ | ⟨lo', hi', b1, b2, b3, b4⟩
    · cases a1
    · have e1 : lo = lo' := by have := (a3 lo' b1).1; have := (b3 lo a1).1; omega
      have e2 : hi = hi' := by have := (a3 hi' b2).2; have := (b3 hi a2).2; omega
      subst e1 e2
      rw [a4, b4]
/-- The least stop with which a shortest walk goes on. -/
structure StepOk (L : List Int) (s v : Int) : Prop where
  mem : v ∈ L
  yes : ∀ c R c', LeastIs L s c → RemP L v R → LeastIs R v c' → apart s v + c' = c
  min : ∀ c x R c', x ∈ L → LeastIs L s c → RemP L x R → LeastIs R x c' → apart s x + c' = c → v ≤ x
/-- What is left behind x. -/
theorem rest_cases {L R : List Int} {x c' lo hi : Int} (hr : RemP L x R) (h : LeastIs R x c') (b : ∀ y ∈ L, lo ≤ y ∧ y ≤ hi) (hlo : lo ∈ L) (hhi : hi ∈ L) :
    (c' = 0 ∧ lo = x ∧ hi = x) ∨ ∃ l h, l ∈ L ∧ h ∈ L ∧ lo ≤ l ∧ h ≤ hi ∧ l ≤ h ∧ (lo = x ∨ l = lo) ∧ (hi = x ∨ h = hi) ∧ c' = h - l + mnI (apart x l) (apart x h) := by
  rcases h with ⟨rfl, rfl⟩ | ⟨l, h, a1, a2, a3, a4⟩
  · left
    have all : ∀ y ∈ L, y = x := fun y hy => by
      by_cases e : y = x
      · exact e
      · exact absurd (hr.2 y hy e) (by simp)
    exact ⟨rfl, all lo hlo, all hi hhi⟩
  · right
    refine ⟨l, h, hr.1 l a1, hr.1 h a2, (b l (hr.1 l a1)).1, (b h (hr.1 h a2)).2, (a3 l a1).2, ?_, ?_, a4⟩
    · by_cases e : lo = x
      · exact .inl e
      · right
        have h1 := (a3 lo (hr.2 lo hlo e)).1
        have h2 := (b l (hr.1 l a1)).1
        omega
    · by_cases e : hi = x
      · exact .inl e
      · right
        have h1 := (a3 hi (hr.2 hi hhi e)).2
        have h2 := (b h (hr.1 h a2)).2
        omega
/-- Nearer to the least stop: it is the next one. -/
theorem step_low {L : List Int} {s lo hi : Int} (hlo : lo ∈ L) (hhi : hi ∈ L) (b : ∀ y ∈ L, lo ≤ y ∧ y ≤ hi) (h : apart s lo ≤ apart s hi) : StepOk L s lo := by
  have lh := (b lo hlo).2
  refine ⟨hlo, fun c R c' hc hr hR => ?_, fun c x R c' hx _ _ _ _ => (b x hx).1⟩
  have ec := least_uniq hc (.inr ⟨lo, hi, hlo, hhi, b, rfl⟩)
  have a1 := ap_cases s lo
  have a2 := ap_cases s hi
  have a3 := mn_cases (apart s lo) (apart s hi)
  rcases rest_cases hr hR b hlo hhi with ⟨h1, h2, h3⟩ | ⟨l, h', m1, m2, q1, q2, q3, q4, q5, q6⟩
  · omega
  · have a4 := ap_cases lo l
    have a5 := ap_cases lo h'
    have a6 := mn_cases (apart lo l) (apart lo h')
    omega
/-- Nearer to the greatest stop, and one lies ahead: the first of them. -/
theorem step_up {L : List Int} {s lo hi v : Int} (hlo : lo ∈ L) (hhi : hi ∈ L) (b : ∀ y ∈ L, lo ≤ y ∧ y ≤ hi) (h : apart s hi < apart s lo) (hv : v ∈ L) (hs : s ≤ v) (hmin : ∀ y ∈ L, s ≤ y → v ≤ y) : StepOk L s v := by
  have lh := (b lo hlo).2
  have bv := b v hv
  have hsh := hmin hi hhi
  have a1 := ap_cases s lo
  have a2 := ap_cases s hi
  have a3 := mn_cases (apart s lo) (apart s hi)
  refine ⟨hv, fun c R c' hc hr hR => ?_, fun c x R c' hx hc hr hR he => ?_⟩
  · have ec := least_uniq hc (.inr ⟨lo, hi, hlo, hhi, b, rfl⟩)
    have b1 := ap_cases s v
    rcases rest_cases hr hR b hlo hhi with ⟨h1, h2, h3⟩ | ⟨l, h', m1, m2, q1, q2, q3, q4, q5, q6⟩
    · omega
    · have a4 := ap_cases v l
      have a5 := ap_cases v h'
      have a6 := mn_cases (apart v l) (apart v h')
      omega
  · have ec := least_uniq hc (.inr ⟨lo, hi, hlo, hhi, b, rfl⟩)
    have b1 := ap_cases s x
    have bx := b x hx
    have hx2 := hmin x hx
    rcases rest_cases hr hR b hlo hhi with ⟨h1, h2, h3⟩ | ⟨l, h', m1, m2, q1, q2, q3, q4, q5, q6⟩
    · omega
    · have a4 := ap_cases x l
      have a5 := ap_cases x h'
      have a6 := mn_cases (apart x l) (apart x h')
      omega
/-- All stops lie behind: the greatest one is the next. -/
theorem step_down {L : List Int} {s lo hi : Int} (hlo : lo ∈ L) (hhi : hi ∈ L) (b : ∀ y ∈ L, lo ≤ y ∧ y ≤ hi) (hs : hi ≤ s) : StepOk L s hi := by
  have lh := (b lo hlo).2
  have a1 := ap_cases s lo
  have a2 := ap_cases s hi
  have a3 := mn_cases (apart s lo) (apart s hi)
  refine ⟨hhi, fun c R c' hc hr hR => ?_, fun c x R c' hx hc hr hR he => ?_⟩
  · have ec := least_uniq hc (.inr ⟨lo, hi, hlo, hhi, b, rfl⟩)
    rcases rest_cases hr hR b hlo hhi with ⟨h1, h2, h3⟩ | ⟨l, h', m1, m2, q1, q2, q3, q4, q5, q6⟩
    · omega
    · have a4 := ap_cases hi l
      have a5 := ap_cases hi h'
      have a6 := mn_cases (apart hi l) (apart hi h')
      omega
  · have ec := least_uniq hc (.inr ⟨lo, hi, hlo, hhi, b, rfl⟩)
    have b1 := ap_cases s x
    have bx := b x hx
    rcases rest_cases hr hR b hlo hhi with ⟨h1, h2, h3⟩ | ⟨l, h', m1, m2, q1, q2, q3, q4, q5, q6⟩
    · omega
    · have a4 := ap_cases x l
      have a5 := ap_cases x h'
      have a6 := mn_cases (apart x l) (apart x h')
      omega
theorem max_ex : ∀ {l : List Int}, l ≠ [] → ∃ m, m ∈ l ∧ ∀ y ∈ l, y ≤ m
  | [], h => absurd rfl h
  | [a], _ => ⟨a, by simp, by simp⟩
  | a :: b :: t, _ => by
    obtain ⟨m, h1, h2⟩ := max_ex (l := b :: t) (by simp)
    by_cases h : m ≤ a
    · refine ⟨a, by simp, fun y hy => ?_⟩
      rcases List.mem_cons.1 hy with rfl | hy
      · exact Int.le_refl _
      · exact Int.le_trans (h2 y hy) h
    · refine ⟨m, List.mem_cons_of_mem _ h1, fun y hy => ?_⟩
      rcases List.mem_cons.1 hy with rfl | hy
      · omega
      · exact h2 y hy
theorem min_ex : ∀ {l : List Int}, l ≠ [] → ∃ m, m ∈ l ∧ ∀ y ∈ l, m ≤ y
  | [], h => absurd rfl h
  | [a], _ => ⟨a, by simp, by simp⟩
  | a :: b :: t, _ => by
    obtain ⟨m, h1, h2⟩ := min_ex (l := b :: t) (by simp)
    by_cases h : a ≤ m
    · refine ⟨a, by simp, fun y hy => ?_⟩
      rcases List.mem_cons.1 hy with rfl | hy
      · exact Int.le_refl _
      · exact Int.le_trans h (h2 y hy)
    · refine ⟨m, List.mem_cons_of_mem _ h1, fun y hy => ?_⟩
      rcases List.mem_cons.1 hy with rfl | hy
      · omega
      · exact h2 y hy
theorem least_ex {L : List Int} (s : Int) : ∃ c, LeastIs L s c := by
  by_cases h : L = []
  · exact ⟨0, .inl ⟨h, rfl⟩⟩
  · obtain ⟨hi, h1, h2⟩ := max_ex h
    obtain ⟨lo, h3, h4⟩ := min_ex h
    exact ⟨_, .inr ⟨lo, hi, h3, h1, fun x hx => ⟨h4 x hx, h2 x hx⟩, rfl⟩⟩
theorem least_congr {L L' : List Int} {s c : Int} (he : ∀ y, y ∈ L ↔ y ∈ L') (h : LeastIs L s c) : LeastIs L' s c := by
  rcases h with ⟨rfl, rfl⟩ | ⟨lo, hi, a1, a2, a3, a4⟩
  · left
    refine ⟨List.eq_nil_iff_forall_not_mem.2 fun y hy => ?_, rfl⟩
    have := (he y).2 hy
    simp at this
  · exact .inr ⟨lo, hi, (he lo).1 a1, (he hi).1 a2, fun x hx => a3 x ((he x).2 hx), a4⟩
theorem step_congr {L L' : List Int} {s v : Int} (he : ∀ y, y ∈ L ↔ y ∈ L') (h : StepOk L s v) : StepOk L' s v :=
  ⟨(he v).1 h.mem, fun c R c' hc hr hR => h.yes c R c' (least_congr (fun y => (he y).symm) hc) ⟨fun y hy => (he y).2 (hr.1 y hy), fun y hy hne => hr.2 y ((he y).1 hy) hne⟩ hR,
   fun c x R c' hx hc hr hR e => h.min c x R c' ((he x).2 hx) (least_congr (fun y => (he y).symm) hc) ⟨fun y hy => (he y).2 (hr.1 y hy), fun y hy hne => hr.2 y ((he y).1 hy) hne⟩ hR e⟩
/-- W is the walk that is asked for. -/
def WalkOk : List Int → Int → Prop
  | [], _ => True
  | v :: W, s => StepOk (v :: W) s v ∧ WalkOk W v
theorem walk_len : ∀ {W : List Int} {s : Int}, WalkOk W s → LeastIs W s (farF s W)
  | [], _, _ => .inl ⟨rfl, rfl⟩
  | v :: W, s, h => by
    obtain ⟨c, hc⟩ := least_ex (L := v :: W) s
    have hr : RemP (v :: W) v W := ⟨fun y hy => List.mem_cons_of_mem _ hy, fun y hy hne => by
      rcases List.mem_cons.1 hy with e | e
      · exact absurd e hne
      · exact e⟩
    have := h.1.yes c W _ hc hr (walk_len h.2)
    rw [farF, this]
    exact hc
theorem walk_asc : ∀ {W : List Int} {s : Int}, W.Pairwise (· ≤ ·) → (∀ v t, W = v :: t → ∀ hi ∈ W, (∀ y ∈ W, y ≤ hi) → apart s v ≤ apart s hi) → WalkOk W s
  | [], _, _, _ => trivial
  | v :: t, s, hp, h => by
    obtain ⟨h1, h2⟩ := List.pairwise_cons.1 hp
    obtain ⟨hi, m1, m2⟩ := max_ex (l := v :: t) (by simp)
    refine ⟨step_low (lo := v) (by simp) m1 (fun y hy => ⟨?_, m2 y hy⟩) (h v t rfl hi m1 m2), walk_asc h2 fun v2 t2 e hi2 n1 n2 => ?_⟩
    · rcases List.mem_cons.1 hy with e | e
      · omega
      · exact h1 y e
    · subst e
      have a := h1 v2 (by simp)
      have b := n2 v2 (by simp)
      have c := ap_cases v v2
      have d := ap_cases v hi2
      omega
theorem walk_desc : ∀ {W : List Int} {s : Int}, W.Pairwise (fun a b => b ≤ a) → (∀ y ∈ W, y ≤ s) → WalkOk W s
  | [], _, _, _ => trivial
  | v :: t, s, hp, h => by
    obtain ⟨h1, h2⟩ := List.pairwise_cons.1 hp
    obtain ⟨lo, m1, m2⟩ := min_ex (l := v :: t) (by simp)
    refine ⟨step_down m1 (by simp) (fun y hy => ⟨m2 y hy, ?_⟩) (h v (by simp)), walk_desc h2 h1⟩
    rcases List.mem_cons.1 hy with e | e
    · omega
    · exact h1 y e
theorem walk_both {down : List Int} {lo : Int} (hd : down.Pairwise (fun a b => b ≤ a)) (hlo : lo ∈ down) (hmin : ∀ y ∈ down, lo ≤ y) : ∀ {up : List Int} {s : Int}, up.Pairwise (· ≤ ·) → (∀ y ∈ up, s ≤ y) → (∀ y ∈ down, y < s) → (∀ hi ∈ up, hi - s < s - lo) → WalkOk (up ++ down) s
  | [], s, _, _, h, _ => walk_desc hd (fun y hy => by have := h y hy; omega)
  | v :: t, s, hp, hu, h, hc => by
    obtain ⟨h1, h2⟩ := List.pairwise_cons.1 hp
    obtain ⟨hi, m1, m2⟩ := max_ex (l := v :: t) (by simp)
    have hv := hu v (by simp)
    have hvl := h lo hlo
    have hih := hu hi m1
    have hcc := hc hi m1
    refine ⟨step_up (L := (v :: t) ++ down) (lo := lo) (hi := hi) (List.mem_append_right _ hlo) (List.mem_append_left _ m1) (fun y hy => ?_) ?_ (by simp) hv (fun y hy hsy => ?_), walk_both hd hlo hmin h2 h1 (fun y hy => by have := h y hy; omega) (fun k hk => by have := hc k (List.mem_cons_of_mem _ hk); omega)⟩
    · rcases List.mem_append.1 (show y ∈ (v :: t) ++ down from hy) with e | e
      · have := hu y e
        exact ⟨by omega, m2 y e⟩
      · have := h y e
        exact ⟨hmin y e, by omega⟩
    · have c := ap_cases s hi
      have d := ap_cases s lo
      omega
    · rcases List.mem_append.1 (show y ∈ (v :: t) ++ down from hy) with e | e
      · rcases List.mem_cons.1 e with e | e
        · omega
        · exact h1 y e
      · have := h y e
        omega
/-- The walk by the program. -/
def turnB (row : List Int) (s : Int) : Bool := decide (0 < row.length) && decide (row.getD (row.length - 1) 0 - s < s - row.getD 0 0)
def walkL (row : List Int) (s : Int) (f : Nat) : List Int := row.drop f ++ (row.take f).reverse
theorem sorted_get {row : List Int} (hp : row.Pairwise (· ≤ ·)) {i j : Nat} (hij : i ≤ j) (hj : j < row.length) : row[i]'(by omega) ≤ row[j] := by
  rcases Nat.lt_or_ge i j with h | h
  · exact List.pairwise_iff_getElem.1 hp i j (by omega) hj h
  · obtain rfl : i = j := by omega
    exact Int.le_refl _
theorem walk_ok {row : List Int} {s : Int} {f : Nat} (hp : row.Pairwise (· ≤ ·)) (hf : f ≤ row.length) (h0 : turnB row s = false → f = 0) (h1 : turnB row s = true → (∀ i (h : i < row.length), i < f → row[i] < s) ∧ ∀ i (h : i < row.length), f ≤ i → s ≤ row[i]) : WalkOk (walkL row s f) s := by
  cases ht : turnB row s
  · rw [h0 ht]
    unfold walkL
    rw [List.take_zero, List.drop_zero, List.reverse_nil, List.append_nil]
    refine walk_asc hp fun v t e hi m1 m2 => ?_
    subst e
    have hl : (v :: t).getD ((v :: t).length - 1) 0 = hi := by
      obtain ⟨k, hk, rfl⟩ := List.getElem_of_mem m1
      rw [List.getD_eq_getElem?_getD, List.getElem?_eq_getElem (by simp)]
      have a := sorted_get hp (i := k) (j := (v :: t).length - 1) (by omega) (by simp)
      have b := m2 _ (List.getElem_mem (l := v :: t) (n := (v :: t).length - 1) (by simp))
      simp only [Option.getD_some]
      omega
    unfold turnB at ht
    rw [hl] at ht
    simp at ht
    have a := m2 v (by simp)
    have c := ap_cases s v
    have d := ap_cases s hi
    omega
  · obtain ⟨a1, a2⟩ := h1 ht
    unfold turnB at ht
    simp only [Bool.and_eq_true, decide_eq_true_eq] at ht
    obtain ⟨n0, hc⟩ := ht
    rw [List.getD_eq_getElem?_getD, List.getD_eq_getElem?_getD, List.getElem?_eq_getElem (by omega), List.getElem?_eq_getElem n0] at hc
    simp only [Option.getD_some] at hc
    have fpos : 0 < f := by
      rcases Nat.eq_zero_or_pos f with e | e
      · have b1 := a2 0 n0 (by omega)
        have b2 := sorted_get hp (i := 0) (j := row.length - 1) (by omega) (by omega)
        omega
      · exact e
    refine walk_both (lo := row[0]) ?_ ?_ ?_ (hp.drop) ?_ ?_ ?_
    · rw [List.pairwise_reverse]
      exact hp.take
    · rw [List.mem_reverse]
      exact List.mem_take_iff_getElem.2 ⟨0, by omega, rfl⟩
    · intro y hy
      rw [List.mem_reverse] at hy
      obtain ⟨k, hk, rfl⟩ := List.mem_take_iff_getElem.1 hy
      exact sorted_get hp (by omega) (by omega)
    · intro y hy
      obtain ⟨k, hk, rfl⟩ := List.mem_drop_iff_getElem.1 hy
      exact a2 _ (by omega) (by omega)
    · intro y hy
      rw [List.mem_reverse] at hy
      obtain ⟨k, hk, rfl⟩ := List.mem_take_iff_getElem.1 hy
      exact a1 _ (by omega) (by omega)
    · intro y hy
      obtain ⟨k, hk, rfl⟩ := List.mem_drop_iff_getElem.1 hy
      have := sorted_get hp (i := f + k) (j := row.length - 1) (by omega) (by omega)
      omega
theorem all_ge_lt {row : List Int} (hp : row.Pairwise (· ≤ ·)) (a : Int) : (∀ i (h : i < row.length), i < (row.takeWhile (fun x => decide (x < a))).length → row[i] < a) ∧ ∀ i (h : i < row.length), (row.takeWhile (fun x => decide (x < a))).length ≤ i → a ≤ row[i] := by
  induction row with
  | nil => exact ⟨fun i h => absurd h (Nat.not_lt_zero _), fun i h => absurd h (Nat.not_lt_zero _)⟩
  | cons v t ih =>
    obtain ⟨h1, h2⟩ := List.pairwise_cons.1 hp
    obtain ⟨i1, i2⟩ := ih h2
    by_cases hv : v < a
    · rw [List.takeWhile_cons_of_pos (by simpa using hv)]
      refine ⟨fun i h hi => ?_, fun i h hi => ?_⟩
      · match i, h, hi with
        | 0, _, _ => exact hv
        | i + 1, h, hi => exact i1 i (by simpa using h) (by simpa using hi)
      · match i, h, hi with
        | 0, _, hi => simp at hi
        | i + 1, h, hi => exact i2 i (by simpa using h) (by simpa using hi)
    · rw [List.takeWhile_cons_of_neg (by simpa using hv)]
      refine ⟨fun i h hi => absurd hi (Nat.not_lt_zero _), fun i h _ => ?_⟩
      match i, h with
      | 0, _ => show a ≤ v; omega
      | i + 1, h => have := h1 (t[i]'(by simpa using h)) (List.getElem_mem _); show a ≤ t[i]'(by simpa using h); omega
def lbI (row : List Int) (a : Int) : Nat := (row.takeWhile (fun x => decide (x < a))).length
theorem lbI_le (row : List Int) (a : Int) : lbI row a ≤ row.length := by
  unfold lbI
  exact (List.takeWhile_sublist _).length_le
theorem lb_uniq {row : List Int} (hp : row.Pairwise (· ≤ ·)) {a : Int} {p : Nat} (hl : p ≤ row.length) (h1 : ∀ i (h : i < row.length), i < p → row[i] < a) (h2 : ∀ i (h : i < row.length), p ≤ i → a ≤ row[i]) : p = lbI row a := by
  obtain ⟨b1, b2⟩ := all_ge_lt hp a
  have hl2 := lbI_le row a
  unfold lbI at hl2 ⊢
  rcases Nat.lt_trichotomy p (row.takeWhile (fun x => decide (x < a))).length with h | h | h
  · have := b1 p (by omega) h
    have := h2 p (by omega) (Nat.le_refl _)
    omega
  · exact h
  · have := h1 _ (by omega) h
    have := b2 _ (by omega) (Nat.le_refl _)
    omega
def rowI (zs : List Int) : List Int := zs.mergeSort (fun a b => decide (a ≤ b))
theorem rowI_perm (zs : List Int) : (rowI zs).Perm zs := List.mergeSort_perm _ _
theorem rowI_sorted (zs : List Int) : (rowI zs).Pairwise (· ≤ ·) := by
  have := List.pairwise_mergeSort (le := fun a b : Int => decide (a ≤ b)) (fun a b c h1 h2 => by simp at *; omega) (fun a b => by simp; omega) zs
  exact this.imp (fun h => by simpa using h)
theorem sorted_uniq {xs ys : List Int} (hp : xs.Perm ys) (h1 : xs.Pairwise (· ≤ ·)) (h2 : ys.Pairwise (· ≤ ·)) : xs = ys :=
  List.Perm.eq_of_pairwise (fun a b _ _ h1 h2 => by omega) h1 h2 hp
/-- The walk that is returned. -/
def fstI (zs : List Int) (a : Int) : Nat := if turnB (rowI zs) a then lbI (rowI zs) a else 0
def walkI (zs : List Int) (a : Int) : List Int := walkL (rowI zs) a (fstI zs a)
theorem walkI_perm (zs : List Int) (a : Int) : (walkI zs a).Perm zs := by
  unfold walkI walkL
  refine List.Perm.trans ?_ (rowI_perm zs)
  refine (List.perm_append_comm).trans ?_
  have := (List.reverse_perm ((rowI zs).take (fstI zs a))).append_right ((rowI zs).drop (fstI zs a))
  rwa [List.take_append_drop] at this
theorem walkI_ok (zs : List Int) (a : Int) : WalkOk (walkI zs a) a := by
  unfold walkI
  have hl := lbI_le (rowI zs) a
  refine walk_ok (rowI_sorted zs) (by unfold fstI; split <;> omega) (fun h => by unfold fstI; rw [h]; rfl) (fun h => ?_)
  unfold fstI
  rw [h]
  exact all_ge_lt (rowI_sorted zs) a
theorem walkI_least (zs : List Int) (a c : Int) (h : LeastIs zs a c) : c = farF a (walkI zs a) :=
  least_uniq (least_congr (fun y => (walkI_perm zs a).mem_iff.symm) h) (walk_len (walkI_ok zs a))
end Go.Proofs.Ytpamflkefgpdpaa
