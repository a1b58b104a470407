/- The cells of a list of books one behind the other; a list that is appended to. No condition. -/
import Derived.Test.YtecpddkbbfpeeaaResC
namespace Go.Proofs.Ytecpddkbbfpeeaa
set_option linter.unusedSimpArgs false
set_option linter.unusedVariables false
set_option maxRecDepth 100000
open Go.RowKit Go.Sort

def flB (L : List Bk) : List Value := L.flatMap Bk.cells
theorem flB_snoc (L : List Bk) (b : Bk) : flB (L ++ [b]) = flB L ++ [.int .i16 b.c, .int .u8 b.m0, .int .u8 b.m1, .int .u8 b.m2, .int .i16 b.v, .int .i16 b.wi, .int .i16 b.hi, .int .i16 b.we] := by
  unfold flB
  rw [List.flatMap_append]
  simp [Bk.cells]
theorem flB_at : ∀ (L : List Bk) (i : Nat) (h : i < L.length) (j : Nat), j < 8 → (flB L)[i * 8 + j]? = (L[i].cells)[j]?
  | [], i, h, _, _ => absurd h (Nat.not_lt_zero _)
  | b :: t, 0, _, j, hj => by
    show (b.cells ++ flB t)[0 * 8 + j]? = _
    rw [Nat.zero_mul, Nat.zero_add, List.getElem?_append_left (by rw [cells_len]; exact hj)]
    rfl
  | b :: t, i + 1, h, j, hj => by
    show (b.cells ++ flB t)[(i + 1) * 8 + j]? = _
    rw [List.getElem?_append_right (by rw [cells_len]; omega), cells_len, show (i + 1) * 8 + j - 8 = i * 8 + j by omega]
    exact flB_at t i (by simpa using h) j hj
theorem ResB.ofL {w : World} {base n : Nat} {v : Value} {ys : List Bk} (h : w.ownsRow base 42 8 v n (flB ys)) (hn : n = ys.length) : ResB w base v ys := by
  rcases h.2 with ⟨rfl, h0⟩ | ⟨g, cap, cur, rfl, hb, hg, hc, _, hs, ht⟩
  · exact .inl ⟨rfl, List.eq_nil_of_length_eq_zero (by omega)⟩
  · subst hn
    refine .inr ⟨g, cap, rfl, hb, ⟨cur, hg, hs, fun i hi _ j v hv => ?_⟩, hc⟩
    have hj : j < 8 := by have := (List.getElem?_eq_some_iff.1 hv).1; rwa [cells_len] at this
    have e := flB_at ys i hi j hj
    rw [← ht, List.getElem?_take, if_pos (by omega), Array.getElem?_toList] at e
    rw [e]
    exact hv
theorem cell8_new (w : World) (a b c d e f g h : Value) (t : TypeId) : ∀ (j : Nat) (u : Value), [a, b, c, d, e, f, g, h][j]? = some u → (w.alloc (.cells #[a, b, c, d, e, f, g, h] t)).cell? (Addr.add ⟨w.heap.size, 0, none⟩ j) = some u := by
  intro j u hu
  rw [Addr.add_lit, Nat.zero_add, cell_of_row _ _ j _ _ _ (heap_alloc_new w _)]
  match j, hu with
  | 0, hu => simpa using hu
  | 1, hu => simpa using hu
  | 2, hu => simpa using hu
  | 3, hu => simpa using hu
  | 4, hu => simpa using hu
  | 5, hu => simpa using hu
  | 6, hu => simpa using hu
  | 7, hu => simpa using hu
theorem one8 (b : Bk) : ∀ u ∈ [Value.int .i16 b.c, .int .u8 b.m0, .int .u8 b.m1, .int .u8 b.m2, .int .i16 b.v, .int .i16 b.wi, .int .i16 b.hi, .int .i16 b.we], u.oneCell' = true := by
  intro u hu
  exact cells_one b u hu

theorem ResB.own0 (w : World) (base : Nat) : w.ownsRow base 42 8 (.slice none 0 0) ([] : List Bk).length (flB []) := ⟨rfl, .inl ⟨rfl, rfl⟩⟩
theorem ResB.own1 (w : World) (base : Nat) (h : base ≤ w.heap.size) : (w.alloc (.cells #[] 42)).ownsRow base 42 8 (.slice (some ⟨w.heap.size, 0, none⟩) 0 0) ([] : List Bk).length (flB []) := ⟨rfl, .inr ⟨w.heap.size, 0, #[], rfl, h, heap_alloc_new w _, Nat.le_refl _, Nat.zero_le _, rfl, rfl⟩⟩
end Go.Proofs.Ytecpddkbbfpeeaa
