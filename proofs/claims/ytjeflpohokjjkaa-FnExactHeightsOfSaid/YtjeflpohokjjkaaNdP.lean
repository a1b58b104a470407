/- Heights that books need: the plain form. No condition. -/
import Derived.Test.YtjeflpohokjjkaaNdM
import Derived.Test.YtjeflpohokjjkaaBooksOk
namespace Go.Proofs.Ytjeflpohokjjkaa
set_option linter.unusedSimpArgs false
set_option linter.unusedVariables false
set_option maxRecDepth 100000

/-- A number to its place among rising ones, once. -/
def putZ : List Int → Int → List Int
  | [], n => [n]
  | x :: t, n => if n ≤ x then (if n < x then n :: x :: t else x :: t) else x :: putZ t n
theorem putZ_mem {n y : Int} : ∀ {l : List Int}, y ∈ putZ l n ↔ y ∈ l ∨ y = n
  | [] => by simp [putZ]
  | x :: t => by
    rw [putZ]
    by_cases h1 : n ≤ x
    · rw [if_pos h1]
      by_cases h2 : n < x
      · rw [if_pos h2]; simp only [List.mem_cons]
        constructor
        · rintro (h | h | h) <;> simp [h]
        · rintro ((h | h) | h) <;> simp [h]
      · rw [if_neg h2]
        have : n = x := by omega
        subst this
        simp only [List.mem_cons]
        constructor
        · rintro (h | h) <;> simp [h]
        · rintro ((h | h) | h) <;> simp [h]
    · rw [if_neg h1, List.mem_cons, putZ_mem, List.mem_cons]
      constructor
      · rintro (h | h | h) <;> simp [h]
      · rintro ((h | h) | h) <;> simp [h]
theorem putZ_sorted {n : Int} : ∀ {l : List Int}, l.Pairwise (· < ·) → (putZ l n).Pairwise (· < ·)
  | [], _ => by simp [putZ]
  | x :: t, h => by
    obtain ⟨h1, h2⟩ := List.pairwise_cons.1 h
    rw [putZ]
    by_cases a : n ≤ x
    · rw [if_pos a]
      by_cases b : n < x
      · rw [if_pos b]
        refine List.pairwise_cons.2 ⟨fun y hy => ?_, h⟩
        rcases List.mem_cons.1 hy with rfl | hy
        · exact b
        · exact Int.lt_trans b (h1 y hy)
      · rw [if_neg b]; exact h
    · rw [if_neg a]
      refine List.pairwise_cons.2 ⟨fun y hy => ?_, putZ_sorted h2⟩
      rcases putZ_mem.1 hy with hy | rfl
      · exact h1 y hy
      · omega
theorem putZ_len (n : Int) : ∀ (l : List Int), (putZ l n).length ≤ l.length + 1
  | [] => by simp [putZ]
  | x :: t => by
    have := putZ_len n t
    rw [putZ]
    split
    · split <;> simp
    · simp; omega
/-- Rising lists of the same numbers are one. -/
theorem rising_eq : ∀ {a b : List Int}, a.Pairwise (· < ·) → b.Pairwise (· < ·) → (∀ y, y ∈ a ↔ y ∈ b) → a = b
  | [], [], _, _, _ => rfl
  | [], y :: t, _, _, h => by have := (h y).2 (by simp); simp at this
  | x :: t, [], _, _, h => by have := (h x).1 (by simp); simp at this
  | x :: s, y :: t, ha, hb, h => by
    obtain ⟨a1, a2⟩ := List.pairwise_cons.1 ha
    obtain ⟨b1, b2⟩ := List.pairwise_cons.1 hb
    have e : x = y := by
      have h1 := (h x).1 (by simp)
      have h2 := (h y).2 (by simp)
      rcases List.mem_cons.1 h1 with h1 | h1
      · exact h1
      · rcases List.mem_cons.1 h2 with h2 | h2
        · exact h2.symm
        · have := b1 x h1
          have := a1 y h2
          omega
    subst e
    rw [rising_eq a2 b2 fun z => ?_]
    constructor
    · intro hz
      rcases List.mem_cons.1 ((h z).1 (List.mem_cons_of_mem _ hz)) with rfl | hz'
      · exact absurd (a1 _ hz) (by omega)
      · exact hz'
    · intro hz
      rcases List.mem_cons.1 ((h z).2 (List.mem_cons_of_mem _ hz)) with rfl | hz'
      · exact absurd (b1 _ hz) (by omega)
      · exact hz'
theorem upL_sorted : ∀ (f : Nat) (o st : Int), 1 ≤ st → (upL f o st).Pairwise (· < ·)
  | 0, _, _, _ => by simp [upL]
  | f + 1, o, st, h => by
    rw [upL]
    split
    · refine List.pairwise_cons.2 ⟨fun y hy => ?_, upL_sorted f (o + st) st h⟩
      have := upL_ge f (o + st) st (by omega) y hy
      omega
    · exact List.Pairwise.nil
/-- The height to which a book belongs. -/
def phB (p : Pg) (b : Bk) : Int := pegV p b.hi
theorem bookB_hi {b : Bk} (h : bookB b = true) : (50 ≤ b.hi ∧ b.hi ≤ 400) ∧ (1 ≤ b.wi ∧ b.wi ≤ 100) := by
  unfold bookB markB inB at h
  simp only [Bool.and_eq_true, decide_eq_true_eq] at h
  omega
theorem pegF_top : ∀ (f : Nat) (o st h : Int), 1 ≤ st → st ≤ 100 → (h - o).toNat < f → (pegF f o st h = o ∧ h ≤ o) ∨ pegF f o st h < h + 100
  | 0, o, st, h, _, _, hf => absurd hf (Nat.not_lt_zero _)
  | f + 1, o, st, h, h1, h2, hf => by
    rw [pegF]
    by_cases c : o < h
    · rw [if_pos c]
      right
      by_cases d : o + st < h
      · rcases pegF_top f (o + st) st h h1 h2 (by omega) with ⟨_, e⟩ | e
        · omega
        · exact e
      · cases f with
        | zero => rw [pegF]; omega
        | succ f => rw [pegF, if_neg (by omega)]; omega
    · rw [if_neg c]; exact .inl ⟨rfl, by omega⟩
theorem phB_bd {p : Pg} (hp : pegsB p = true) {b : Bk} (hb : bookB b = true) : 50 ≤ phB p b ∧ phB p b ≤ 600 ∧ fromV p b.hi = some (phB p b) := by
  obtain ⟨⟨a1, a2⟩, ⟨b1, b2⟩, -⟩ := pegsB_true hp
  obtain ⟨⟨c1, c2⟩, -⟩ := bookB_hi hb
  have h1 := (pegV_bounds hp (h := b.hi) (by omega)).1
  have h2 : pegV p b.hi ≤ 600 := by
    rcases pegF_top 1001 p.lo p.st b.hi b1 b2 (by omega) with ⟨e, _⟩ | e
    · unfold pegV; omega
    · unfold pegV; omega
  refine ⟨h1, h2, ?_⟩
  rw [fromV_eq hp (by omega), if_pos (by omega)]
  rfl
theorem phB_mem {p : Pg} (hp : pegsB p = true) {b : Bk} (hb : bookB b = true) : phB p b ∈ upw p := by
  have h := (phB_bd hp hb).2.2
  exact List.mem_of_find?_eq_some h
/-- What is summed at a height, with a further book. -/
def ndAdd (o : Option Nd) (x : Int) (b : Bk) : Nd := ⟨x, (o.getD ⟨0, 0, 0⟩).wd + b.wi, (o.getD ⟨0, 0, 0⟩).ar + b.wi * b.hi⟩
/-- The sums of the first k books. -/
def ndF (p : Pg) (xs : List Bk) : Nat → Int → Option Nd
  | 0 => fun _ => none
  | k + 1 => updN (ndF p xs k) (phB p (xs.getD k default)) (ndAdd (ndF p xs k (phB p (xs.getD k default))) (phB p (xs.getD k default)) (xs.getD k default))
theorem ndF_hi {p : Pg} {xs : List Bk} {x : Int} {nd : Nd} : ∀ {k}, ndF p xs k x = some nd → nd.hi = x
  | 0, h => by cases h
  | k + 1, h => by
    rw [ndF] at h
    unfold updN at h
    split at h
    · rename_i e
      injection h with h
      rw [← h, ← e]; rfl
    · exact ndF_hi h
theorem ndF_some {p : Pg} {xs : List Bk} {x : Int} : ∀ {k}, (ndF p xs k x).isSome = true ↔ ∃ j, j < k ∧ phB p (xs.getD j default) = x
  | 0 => by simp [ndF]
  | k + 1 => by
    rw [ndF]
    unfold updN
    by_cases e : phB p (xs.getD k default) = x
    · rw [if_pos e]
      simp only [Option.isSome_some, true_iff]
      exact ⟨k, by omega, e⟩
    · rw [if_neg e, ndF_some]
      constructor
      · rintro ⟨j, h1, h2⟩; exact ⟨j, by omega, h2⟩
      · rintro ⟨j, h1, h2⟩
        by_cases c : j = k
        · subst c; exact absurd h2 e
        · exact ⟨j, by omega, h2⟩
theorem ndF_bd {p : Pg} {xs : List Bk} (ok : ∀ b ∈ xs, bookB b = true) {x : Int} {nd : Nd} : ∀ {k}, k ≤ xs.length → ndF p xs k x = some nd → (0 ≤ nd.wd ∧ nd.wd ≤ 100 * (k : Int)) ∧ (0 ≤ nd.ar ∧ nd.ar ≤ 40000 * (k : Int))
  | 0, _, h => by cases h
  | k + 1, hk, h => by
    rw [ndF] at h
    unfold updN at h
    have hb := bookB_hi (ok _ (List.getElem_mem (show k < xs.length by omega)))
    have eb : xs.getD k default = xs[k] := by simp [List.getD, List.getElem?_eq_getElem (show k < xs.length by omega)]
    have hm : 0 ≤ xs[k].wi * xs[k].hi ∧ xs[k].wi * xs[k].hi ≤ 40000 := ⟨Int.mul_nonneg (by omega) (by omega), by
      have := Int.mul_le_mul (show xs[k].wi ≤ 100 by omega) (show xs[k].hi ≤ 400 by omega) (by omega) (by omega)
      omega⟩
    split at h
    · injection h with h
      rw [← h, eb]
      unfold ndAdd
      cases hq : ndF p xs k (phB p xs[k]) with
      | none => simp only [Option.getD_none]; omega
      | some q =>
        have := ndF_bd ok (by omega) hq
        simp only [Option.getD_some]
        omega
    · have := ndF_bd ok (by omega) h
      omega
/-- What the books need. -/
def needsL (p : Pg) (xs : List Bk) : List Nd := (upw p).filterMap (ndF p xs xs.length)
/-- The heights, as they are put one by one. -/
def hsT (p : Pg) (xs : List Bk) : Nat → List Int
  | 0 => []
  | k + 1 => putZ (hsT p xs k) (phB p (xs.getD k default))
theorem hsT_mem {p : Pg} {xs : List Bk} {y : Int} : ∀ {k}, y ∈ hsT p xs k ↔ ∃ j, j < k ∧ phB p (xs.getD j default) = y
  | 0 => by simp [hsT]
  | k + 1 => by
    rw [hsT, putZ_mem, hsT_mem]
    constructor
    · rintro (⟨j, h1, h2⟩ | rfl)
      · exact ⟨j, by omega, h2⟩
      · exact ⟨k, by omega, rfl⟩
    · rintro ⟨j, h1, h2⟩
      by_cases c : j = k
      · subst c; exact .inr h2.symm
      · exact .inl ⟨j, by omega, h2⟩
theorem hsT_sorted (p : Pg) (xs : List Bk) : ∀ k, (hsT p xs k).Pairwise (· < ·)
  | 0 => List.Pairwise.nil
  | k + 1 => putZ_sorted (hsT_sorted p xs k)
theorem hsT_len (p : Pg) (xs : List Bk) : ∀ k, (hsT p xs k).length ≤ k
  | 0 => Nat.le_refl _
  | k + 1 => by
    have h1 := hsT_len p xs k
    have h2 := putZ_len (phB p (xs.getD k default)) (hsT p xs k)
    rw [hsT]
    omega
theorem fm_hi {p : Pg} {xs : List Bk} {k : Nat} : ∀ l : List Int, (l.filterMap (ndF p xs k)).map Nd.hi = l.filter fun x => (ndF p xs k x).isSome
  | [] => rfl
  | x :: t => by
    rw [List.filterMap_cons, List.filter_cons]
    cases h : ndF p xs k x with
    | none => simp [fm_hi t]
    | some nd =>
      simp only [Option.isSome_some, if_true, List.map_cons]
      rw [fm_hi t, ndF_hi h]
theorem needs_hi {p : Pg} {xs : List Bk} (hp : pegsB p = true) (ok : ∀ b ∈ xs, bookB b = true) : (needsL p xs).map Nd.hi = hsT p xs xs.length := by
  obtain ⟨-, ⟨b1, -⟩, -⟩ := pegsB_true hp
  unfold needsL
  rw [fm_hi]
  refine rising_eq (List.Pairwise.filter _ (upL_sorted _ _ _ b1)) (hsT_sorted p xs _) fun y => ?_
  rw [List.mem_filter, ndF_some, hsT_mem]
  constructor
  · rintro ⟨_, h⟩; exact h
  · rintro ⟨j, h1, h2⟩
    refine ⟨?_, j, h1, h2⟩
    rw [← h2, show xs.getD j default = xs[j] by simp [List.getD, List.getElem?_eq_getElem h1]]
    exact phB_mem hp (ok _ (List.getElem_mem h1))
theorem needs_len {p : Pg} {xs : List Bk} (hp : pegsB p = true) (ok : ∀ b ∈ xs, bookB b = true) : (needsL p xs).length ≤ xs.length := by
  have h := congrArg List.length (needs_hi hp ok)
  rw [List.length_map] at h
  have := hsT_len p xs xs.length
  omega
/-- The heights that books need, and the code. -/
def hoC (p : Pg) (xs : List Bk) : Int := if pegsB p && okB xs then 0 else 1
def hoL (p : Pg) (xs : List Bk) : List Int := if pegsB p && okB xs then hsT p xs xs.length else []
end Go.Proofs.Ytjeflpohokjjkaa
