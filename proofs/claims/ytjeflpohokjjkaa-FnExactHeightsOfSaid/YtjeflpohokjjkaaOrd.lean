/- Orders as plain data: what is valid of them; how they read. No condition. -/
import Derived.Test.YtjeflpohokjjkaaOpen
import Derived.Test.YtjeflpohokjjkaaRow
namespace Go.Proofs.Ytjeflpohokjjkaa
set_option linter.unusedSimpArgs false
set_option linter.unusedVariables false
set_option maxRecDepth 100000
open Go.ChangeShapes Go.WideShapes Go.ChangeAt Go.RowKit

/-- A field without its minus, as an int8: -128 is its own opposite. -/
def fieldOf (z : Int) : Int := if z < 0 then (if z = -128 then -128 else -z) else z

def fsOf (zs : List Int) (k : Nat) : List Int := (zs.take k).map fieldOf

def GoodTo (zs : List Int) (k : Nat) : Prop := (∀ f ∈ fsOf zs k, 1 ≤ f ∧ f ≤ 6) ∧ (fsOf zs k).Nodup

instance (zs : List Int) (k : Nat) : Decidable (GoodTo zs k) := by unfold GoodTo; infer_instance

def okO (zs : List Int) : Bool := decide (0 < zs.length ∧ GoodTo zs zs.length)

theorem fsOf_succ (zs : List Int) (k : Nat) (h : k < zs.length) : fsOf zs (k + 1) = fsOf zs k ++ [fieldOf zs[k]] := by
  unfold fsOf
  rw [List.take_succ_eq_append_getElem h, List.map_append]
  rfl

theorem fsOf_zero (zs : List Int) : fsOf zs 0 = [] := rfl

theorem GoodTo.mono {zs : List Int} {k n : Nat} (h : GoodTo zs n) (hk : k ≤ n) : GoodTo zs k := by
  have e : fsOf zs k = (fsOf zs n).take k := by
    unfold fsOf
    rw [← List.map_take, List.take_take, Nat.min_eq_left hk]
  unfold GoodTo
  rw [e]
  exact ⟨fun f hf => h.1 f (List.mem_of_mem_take hf), h.2.sublist (List.take_sublist _ _)⟩

theorem GoodTo.succ {zs : List Int} {k : Nat} (h : GoodTo zs k) (hk : k < zs.length) (h1 : 1 ≤ fieldOf zs[k] ∧ fieldOf zs[k] ≤ 6) (h2 : ¬ fieldOf zs[k] ∈ fsOf zs k) : GoodTo zs (k + 1) := by
  unfold GoodTo
  rw [fsOf_succ zs k hk]
  refine ⟨fun f hf => ?_, ?_⟩
  · rcases List.mem_append.1 hf with hf | hf
    · exact h.1 f hf
    · rw [List.mem_singleton.1 hf]; exact h1
  · rw [List.nodup_append]
    refine ⟨h.2, by simp, fun a ha b hb => ?_⟩
    rw [List.mem_singleton.1 hb]
    rintro rfl
    exact h2 ha

theorem goodTo_zero (zs : List Int) : GoodTo zs 0 := by unfold GoodTo fsOf; simp

theorem okO_range {zs : List Int} {k : Nat} (hk : k < zs.length) (h : inB (fieldOf zs[k]) 1 6 = false) : okO zs = false := by
  unfold okO
  refine decide_eq_false fun ⟨_, hg⟩ => ?_
  have h1 := (hg.mono (show k + 1 ≤ zs.length by omega)).1 (fieldOf zs[k]) (by rw [fsOf_succ zs k hk]; simp)
  unfold inB at h
  simp [h1.1] at h
  omega

theorem okO_dup {zs : List Int} {k : Nat} (hk : k < zs.length) (h : fieldOf zs[k] ∈ fsOf zs k) : okO zs = false := by
  unfold okO
  refine decide_eq_false fun ⟨_, hg⟩ => ?_
  have h1 := (hg.mono (show k + 1 ≤ zs.length by omega)).2
  rw [fsOf_succ zs k hk, List.nodup_append] at h1
  exact h1.2.2 _ h _ (by simp) rfl

theorem okO_all {zs : List Int} (h : GoodTo zs zs.length) : okO zs = decide (0 < zs.length) := by
  unfold okO
  rw [Bool.eq_iff_iff]
  simp only [decide_eq_true_eq]
  exact ⟨fun h => h.1, fun h1 => ⟨h1, h⟩⟩

theorem length_le_of_nodup {α : Type} [DecidableEq α] : ∀ (l m : List α), l.Nodup → (∀ x ∈ l, x ∈ m) → l.length ≤ m.length
  | [], _, _, _ => Nat.zero_le _
  | x :: l, m, hn, hs => by
    obtain ⟨hx, hl⟩ := List.nodup_cons.1 hn
    have hm : x ∈ m := hs x (by simp)
    have h1 := length_le_of_nodup l (m.erase x) hl fun y hy => (List.mem_erase_of_ne (by rintro rfl; exact hx hy)).2 (hs y (by simp [hy]))
    rw [List.length_erase_of_mem hm] at h1
    have : 0 < m.length := List.length_pos_of_mem hm
    simp
    omega

theorem GoodTo.le {zs : List Int} (h : GoodTo zs zs.length) : zs.length ≤ 6 := by
  have h1 := length_le_of_nodup (fsOf zs zs.length) [1, 2, 3, 4, 5, 6] h.2 fun f hf => by
    have := h.1 f hf
    have : f = 1 ∨ f = 2 ∨ f = 3 ∨ f = 4 ∨ f = 5 ∨ f = 6 := by omega
    simpa using this
  simpa [fsOf] using h1

theorem okO_len {zs : List Int} (h : inB (zs.length : Int) 1 6 = false) : okO zs = false := by
  unfold okO
  refine decide_eq_false fun ⟨h0, hg⟩ => ?_
  have h1 := hg.le
  unfold inB at h
  simp at h
  omega

/-- The numbers of an order lie from cell o of block g on. -/
def IntsAt (k : IntKind) (w : World) (g o : Nat) (zs : List Int) : Prop := ∀ (i : Nat) (hi : i < zs.length), w.cell? ⟨g, o + i, none⟩ = some (.int k zs[i])

theorem IntsAt.below {k : IntKind} {w w' : World} {B g o : Nat} {zs : List Int} (h : IntsAt k w g o zs) (hb : Below B w w') (hg : g < B) : IntsAt k w' g o zs :=
  fun i hi => (hb.cell (p := ⟨g, o + i, none⟩) hg).trans (h i hi)

def IntsOf (k : IntKind) (w : World) (v : Value) (zs : List Int) : Prop :=
  ∃ A c, v = .slice A zs.length c ∧ (0 < zs.length → ∃ g o, A = some ⟨g, o, none⟩ ∧ g < w.heap.size ∧ IntsAt k w g o zs)

theorem IntsOf.below {k : IntKind} {w w' : World} {v : Value} {zs : List Int} (h : IntsOf k w v zs) (hb : Below w.heap.size w w') : IntsOf k w' v zs := by
  obtain ⟨A, c, rfl, h⟩ := h
  refine ⟨A, c, rfl, fun h0 => ?_⟩
  obtain ⟨g, o, rfl, hg, hh⟩ := h h0
  exact ⟨g, o, rfl, Nat.lt_of_lt_of_le hg hb.size, hh.below hb hg⟩

/-- Block g is a row of n numbers of type t, the first j of which are those of the list. -/
def IRowK (k : IntKind) (t : TypeId) (w : World) (g : Nat) (zs : List Int) (j n : Nat) : Prop :=
  ∃ cs : Array Value, w.heap[g]? = some (.cells cs t (0, 0)) ∧ cs.size = n ∧ ∀ (i : Nat) (hi : i < zs.length), i < j → cs[i]? = some (.int k zs[i])

def IRow (k : IntKind) (t : TypeId) (w : World) (g : Nat) (zs : List Int) : Prop := IRowK k t w g zs zs.length zs.length

section
variable {k : IntKind} {t : TypeId} {w w' : World} {g j n : Nat} {zs : List Int}
theorem IRowK.lt (h : IRowK k t w g zs j n) : g < w.heap.size := by
  obtain ⟨cs, h, _⟩ := h
  rcases Nat.lt_or_ge g w.heap.size with hlt | hge
  · exact hlt
  · rw [Array.getElem?_eq_none hge] at h; cases h
theorem IRowK.below {B : Nat} (h : IRowK k t w g zs j n) (hb : Below B w w') (hg : g < B) : IRowK k t w' g zs j n := by
  obtain ⟨cs, h, h2⟩ := h
  exact ⟨cs, (hb.block g hg).trans h, h2⟩
theorem IRow.intsAt (h : IRow k t w g zs) : IntsAt k w g 0 zs := by
  obtain ⟨cs, h, _, h3⟩ := h
  intro i hi
  rw [cell_of_row w g _ cs _ _ h, Nat.zero_add]
  exact h3 i hi hi
theorem IRow.slice (h : IRow k t w g zs) : IntsOf k w (.slice (some ⟨g, 0, none⟩) zs.length zs.length) zs :=
  ⟨_, _, rfl, fun _ => ⟨g, 0, rfl, IRowK.lt h, h.intsAt⟩⟩
theorem IRowK.cell (h : IRowK k t w g zs j n) (i : Nat) (hi : i < n) : ∃ u, w.cell? ⟨g, i, none⟩ = some u := by
  obtain ⟨cs, h, h2, _⟩ := h
  rw [cell_of_row w g _ cs _ _ h]
  exact ⟨cs[i]'(by omega), Array.getElem?_eq_getElem (by omega)⟩
theorem IRowK.frozen (h : IRowK k t w g zs j n) (o : Nat) : w.frozen? ⟨g, o, none⟩ = false := by
  obtain ⟨cs, h, _⟩ := h
  exact frozen_of_row w g _ cs _ h
theorem IRowK.step (h : IRowK k t w g zs j n) (hj : j < zs.length) (hn : j < n) : IRowK k t (w.setCell ⟨g, j, none⟩ (.int k zs[j])) g zs (j + 1) n := by
  obtain ⟨cs, h1, h2, h3⟩ := h
  refine ⟨_, heap_setCell_same _ _ _ _ _ _ h1, by simpa using h2, fun i hi hij => ?_⟩
  rw [Array.getElem?_setIfInBounds]
  by_cases e : i = j
  · subst e
    rw [if_pos rfl, if_pos (by omega)]
  · rw [if_neg (by omega)]
    exact h3 i hi (by omega)
theorem IRowK.made (k : IntKind) (t : TypeId) (w : World) (z : Array Value) (zs : List Int) (n : Nat) : IRowK k t (w.alloc (.cells (madeCells z n) t)) w.heap.size zs 0 n :=
  ⟨_, heap_alloc_new w _, size_madeCells _ _, fun _ _ h => absurd h (Nat.not_lt_zero _)⟩
end

section
variable {H : Type} {enc : TypeId × Value → H} {w : World} {base : Nat} {spare : Nat → Bool} {held : Bool}
end

end Go.Proofs.Ytjeflpohokjjkaa
