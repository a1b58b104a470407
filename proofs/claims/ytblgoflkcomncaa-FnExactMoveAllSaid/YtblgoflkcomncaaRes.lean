/- A list of books that a call hands back: how it reads, what is marked in it, two books exchanged. Condition: at most 1048576 books. -/
import Derived.Test.YtblgoflkcomncaaMarkB
import Derived.Test.YtblgoflkcomncaaRev
namespace Go.Proofs.Ytblgoflkcomncaa
set_option linter.unusedSimpArgs false
set_option linter.unusedVariables false
set_option maxRecDepth 100000
open Go.RowKit

/-- No list, or a block of its own. -/
def ResB (w : World) (base : Nat) (v : Value) (ys : List Bk) : Prop :=
  (v = .slice none 0 0 ∧ ys = []) ∨ ∃ g N, v = .slice (some ⟨g, 0, none⟩) ys.length N ∧ base ≤ g ∧ RowK w g ys ys.length N ∧ ys.length ≤ N
theorem RowK.at_ {w : World} {g N : Nat} {ys : List Bk} (h : RowK w g ys ys.length N) : BooksAt w g 0 ys := by
  obtain ⟨cs, h, _, h3⟩ := h
  intro i hi j v hv
  rw [cell_of_row w g _ cs _ _ h, Nat.zero_add]
  exact h3 i hi hi j v hv
theorem ResB.slice {w : World} {base : Nat} {v : Value} {ys : List Bk} (h : ResB w base v ys) : SliceOf w v ys := by
  rcases h with ⟨rfl, rfl⟩ | ⟨g, N, rfl, hb, hr, hn⟩
  · exact ⟨none, 0, rfl, fun h => absurd h (Nat.lt_irrefl _)⟩
  · exact ⟨_, N, rfl, fun _ => ⟨g, 0, rfl, hr.lt, hr.at_⟩⟩
theorem ResB.below {w w' : World} {base : Nat} {v : Value} {ys : List Bk} (h : ResB w base v ys) (hb : Below w.heap.size w w') : ResB w' base v ys := by
  rcases h with h | ⟨g, N, rfl, h1, hr, hn⟩
  · exact .inl h
  · exact .inr ⟨g, N, rfl, h1, hr.below hb hr.lt, hn⟩
theorem ResB.mono {w : World} {base base' : Nat} {v : Value} {ys : List Bk} (h : ResB w base v ys) (hb : base' ≤ base) : ResB w base' v ys := by
  rcases h with h | ⟨g, N, rfl, h1, hr, hn⟩
  · exact .inl h
  · exact .inr ⟨g, N, rfl, Nat.le_trans hb h1, hr, hn⟩
theorem ResB.lt {w : World} {base : Nat} {v : Value} {ys : List Bk} (h : ResB w base v ys) : ∀ k, v.ownBlock = some k → base ≤ k ∧ k < w.heap.size := by
  intro k hk
  rcases h with ⟨rfl, _⟩ | ⟨g, N, rfl, h1, hr, hn⟩
  · cases hk
  · obtain rfl : g = k := by injection hk
    exact ⟨h1, hr.lt⟩
theorem ResB.other {w w' : World} {base : Nat} {v : Value} {ys : List Bk} {row : Option Nat} (h : ResB w base v ys) (hg : w.grownBy w' row) (hne : ∀ k, v.ownBlock = some k → some k ≠ row) : ResB w' base v ys := by
  rcases h with h | ⟨g, N, rfl, h1, hr, hn⟩
  · exact .inl h
  · obtain ⟨cs, e1, e2⟩ := hr
    exact .inr ⟨g, N, rfl, h1, ⟨cs, (hg.block g (Array.getElem?_eq_some_iff.1 e1).1 (hne g rfl)).trans e1, e2⟩, hn⟩
theorem flatB_at {ys : List Bk} {i j : Nat} (hi : i < ys.length) (hj : j < 8) : (flatB ys)[i * 8 + j]? = (ys[i].cells)[j]? := by
  have hl : i * 8 + j < (flatB ys).length := by rw [flatB_length]; omega
  have hu : (flatB ys)[i * 8 + j]? = some (flatB ys)[i * 8 + j] := List.getElem?_eq_getElem hl
  obtain ⟨hi', h1⟩ := flatB_get hu
  have e1 : (i * 8 + j) / 8 = i := by omega
  have e2 : (i * 8 + j) % 8 = j := by omega
  simp only [e1, e2] at h1
  rw [hu, h1]
theorem rowK_of_own {w : World} {base g n cap : Nat} {ys : List Bk} (h : w.ownsRow base 114 8 (.slice (some ⟨g, 0, none⟩) n cap) n (flatB ys)) (hn : n = ys.length) : base ≤ g ∧ RowK w g ys ys.length cap ∧ ys.length ≤ cap := by
  rcases h.2 with ⟨h, _⟩ | ⟨g', cap', cur, h, hb, hg, hc, _, hs, ht⟩
  · cases h
  · injection h with h1 h2 h3
    injection h1 with h1
    injection h1 with h1
    subst h1 h3 hn
    refine ⟨hb, ⟨cur, hg, hs, fun i hi _ j v hv => ?_⟩, hc⟩
    have hj : j < 8 := by have := (List.getElem?_eq_some_iff.1 hv).1; rwa [cells_len] at this
    have e := flatB_at hi hj
    rw [← ht, List.getElem?_take, if_pos (by omega), Array.getElem?_toList] at e
    rw [e]
    exact hv
theorem ResB.of {w : World} {base n : Nat} {v : Value} {ys : List Bk} (h : w.ownsRow base 114 8 v n (flatB ys)) (hn : n = ys.length) : ResB w base v ys := by
  rcases h.2 with ⟨rfl, h0⟩ | ⟨g, cap, cur, rfl, _⟩
  · exact .inl ⟨rfl, List.eq_nil_of_length_eq_zero (by omega)⟩
  · obtain ⟨h1, h2, h3⟩ := rowK_of_own h hn
    exact .inr ⟨g, cap, by rw [hn], h1, h2, h3⟩

theorem RowM.row {w : World} {g n N : Nat} (h : RowM w g N n) : RowK w g (mkL n) n N := by
  obtain ⟨cs, h1, h2, h3⟩ := h
  refine ⟨cs, h1, h2, fun i hi hik j v hv => ?_⟩
  rw [mkL_get] at hv
  have hj : j < 8 := by have := (List.getElem?_eq_some_iff.1 hv).1; rwa [cells_len] at this
  rw [h3 i hik j hj]
  exact hv

set_option maxHeartbeats 1000000 in
theorem markRes_any (v : Value) (ys : List Bk) (base : Nat) (w : World) (h : ResB w base v ys) (hn : ys.length ≤ 1048576) :
    Calls Try.prog 32 #[v, .int .i64 1] w fun e w' => e = .returned (.int .i64 (1 + 8 * (ys.length : Nat))) ∧ ResB w' base v (mkL ys.length) ∧ w.grownBy w' v.ownBlock := by
  rcases h with ⟨rfl, rfl⟩ | ⟨g, N, rfl, h1, hr, hN⟩
  · go_enter Try.func32, Try.ntmps32
    go_wp2
    refine wp_loop_rounds 1 ?_
    rw [rounds_succ]
    go_wp2
    go_ret
    exact ⟨rfl, .inl ⟨rfl, rfl⟩, World.grownBy.refl w _⟩
  · refine (markBookS_val g ys.length N N w ⟨_, hr.choose_spec.1, hr.choose_spec.2.1⟩ hN hn).mono ?_
    rintro e w' ⟨rfl, hm, hg⟩
    exact ⟨rfl, .inr ⟨g, N, by rw [mkL_length], h1, by rw [mkL_length]; exact hm.row, by rw [mkL_length]; exact hN⟩, hg⟩

theorem RowK.put {w : World} {g k n : Nat} {ys : List Bk} (h : RowK w g ys k n) (i : Nat) (hi : i < ys.length) (hn : i < n) (b : Bk) : RowK (set8 w g (i * 8) b) g (ys.set i b) k n := by
  obtain ⟨cs, h1, h2, h3⟩ := h
  refine ⟨_, set8_heap h1, by simpa using h2, fun i' hi' hik j v hv => ?_⟩
  have hl : i' < ys.length := by simpa using hi'
  have hj : j < 8 := by have := (List.getElem?_eq_some_iff.1 hv).1; rwa [cells_len] at this
  by_cases e : i' = i
  · subst e
    rw [List.getElem_set_self] at hv
    have : j = 0 ∨ j = 1 ∨ j = 2 ∨ j = 3 ∨ j = 4 ∨ j = 5 ∨ j = 6 ∨ j = 7 := by omega
    rcases this with rfl | rfl | rfl | rfl | rfl | rfl | rfl | rfl
    all_goals
      simp only [Bk.cells, List.getElem?_cons_zero, List.getElem?_cons_succ, Option.some.injEq] at hv
      subst hv
      simp only [Array.getElem?_setIfInBounds, Array.size_setIfInBounds]
      simp
      omega
  · rw [List.getElem_set_ne (by omega)] at hv
    have h4 := h3 i' hl hik j v hv
    simp only [Array.getElem?_setIfInBounds]
    iterate 8 (rw [if_neg (by omega)])
    exact h4

end Go.Proofs.Ytblgoflkcomncaa
