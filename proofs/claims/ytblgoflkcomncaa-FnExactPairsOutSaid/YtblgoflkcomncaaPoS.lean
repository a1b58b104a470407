/- How many pairs of a list are out of order: the plain form, counted book by book. No condition. -/
import Derived.Test.YtblgoflkcomncaaStkP
import Derived.Test.YtblgoflkcomncaaUse
import Derived.Test.YtblgoflkcomncaaBooksOk
import Derived.Maps.RangeWalk
namespace Go.Proofs.Ytblgoflkcomncaa
set_option linter.unusedSimpArgs false
set_option linter.unusedVariables false
set_option maxRecDepth 100000
open Go.RowKit Go.MapKept

def outP (b y : Bk) : Bool := decide (usual b y < 0)
def prTo (xs : List Bk) : Nat → Nat
  | 0 => 0
  | i + 1 => prTo xs i + (xs.take i).countP (outP (xs.getD i default))
def poC (xs : List Bk) : Int := if okB xs then 0 else 1
def poV (xs : List Bk) : Int := if okB xs then ((prTo xs xs.length : Nat) : Int) else 0
theorem prTo_succ {xs : List Bk} {i : Nat} (h : i < xs.length) : prTo xs (i + 1) = prTo xs i + (xs.take i).countP (outP xs[i]) := by
  rw [prTo]
  simp [List.getD, List.getElem?_eq_getElem h]
theorem prTo_le (xs : List Bk) : ∀ i, i ≤ 60 → prTo xs i ≤ 60 * i
  | 0, _ => by simp [prTo]
  | i + 1, h => by
    have ih := prTo_le xs i (by omega)
    have h2 : (xs.take i).countP (outP (xs.getD i default)) ≤ i := Nat.le_trans List.countP_le_length (by rw [List.length_take]; omega)
    rw [prTo]
    omega
theorem countP_take {xs : List Bk} (P : Bk → Bool) {k : Nat} (h : k < xs.length) : (xs.take (k + 1)).countP P = (xs.take k).countP P + (if P xs[k] then 1 else 0) := by
  rw [List.take_succ_eq_append_getElem h, List.countP_append, List.countP_singleton]

theorem take_countP {xs : List Bk} {k : Nat} (hk : k < xs.length) (b : Bk) : (xs.take (k + 1)).count b = (xs.take k).count b + (if xs[k] = b then 1 else 0) := by
  rw [List.take_succ_eq_append_getElem hk, List.count_append, List.count_singleton]
  simp only [beq_iff_eq]
/-- The book that a key is. -/
def unV (v : Value) : Bk := match v.cells.toList with
  | [.int _ a, .int _ b, .int _ c, .int _ d, .int _ e, .int _ f, .int _ g, .int _ h] => ⟨a, b, c, d, e, f, g, h⟩
  | _ => default
theorem unV_bk (x : Bk) : unV (bkV x) = x := by
  obtain ⟨a, b, c, d, e, f, g, h⟩ := x
  simp [unV, bkV, Value.cells]
/-- The sum of what has been seen. -/
def sumD (l : List MapEntry) (seen : Array Nat) (f : MapEntry → Nat) : Nat := ((l.filter fun e => seen.contains e.born).map f).sum
theorem sumD_none (f : MapEntry → Nat) (l : List MapEntry) : sumD l #[] f = 0 := by
  have : l.filter (fun e => (#[] : Array Nat).contains e.born) = [] := by simp
  unfold sumD
  rw [this]
  rfl
theorem sumD_cons (f : MapEntry → Nat) (a : MapEntry) (l : List MapEntry) (seen : Array Nat) : sumD (a :: l) seen f = (if seen.contains a.born then f a else 0) + sumD l seen f := by
  unfold sumD
  rw [List.filter_cons]
  cases seen.contains a.born <;> simp
theorem sumD_same (f : MapEntry → Nat) (seen : Array Nat) (k : Nat) : ∀ l : List MapEntry, (∀ y ∈ l, y.born ≠ k) → sumD l (seen.push k) f = sumD l seen f
  | [], _ => rfl
  | a :: l, h => by
    have ha := h a (by simp)
    have ih := sumD_same f seen k l (fun y hy => h y (by simp [hy]))
    rw [sumD_cons, sumD_cons, ih, contains_push]
    simp [ha]
theorem sumD_push (f : MapEntry → Nat) (seen : Array Nat) (e : MapEntry) (hs : seen.contains e.born = false) : ∀ l : List MapEntry, (l.map (·.born)).Nodup → e ∈ l → sumD l (seen.push e.born) f = sumD l seen f + f e
  | [], _, h => by cases h
  | a :: l, hn, h => by
    rw [List.map_cons, List.nodup_cons] at hn
    rcases List.mem_cons.1 h with rfl | h
    · have := sumD_same f seen e.born l (fun y hy q => hn.1 (by rw [← q]; exact List.mem_map.2 ⟨y, hy, rfl⟩))
      rw [sumD_cons, sumD_cons, this, contains_push, hs]
      simp
      omega
    · have ih := sumD_push f seen e hs l hn.2 h
      have hne : a.born ≠ e.born := fun q => hn.1 (by rw [q]; exact List.mem_map.2 ⟨e, h, rfl⟩)
      have q : (a.born == e.born) = false := by simpa using hne
      rw [sumD_cons, sumD_cons, ih, contains_push, q, Bool.or_false]
      omega
theorem sumD_all (f : MapEntry → Nat) (seen : Array Nat) : ∀ l : List MapEntry, (∀ x ∈ l, seen.contains x.born = true) → sumD l seen f = (l.map f).sum
  | [], _ => rfl
  | a :: l, h => by
    rw [sumD_cons, h a (by simp), sumD_all f seen l (fun x hx => h x (by simp [hx]))]
    simp
theorem sumD_le (f : MapEntry → Nat) (seen : Array Nat) : ∀ l : List MapEntry, sumD l seen f ≤ (l.map f).sum
  | [] => Nat.le_refl _
  | a :: l => by
    have := sumD_le f seen l
    rw [sumD_cons, List.map_cons, List.sum_cons]
    split <;> omega
/-- What the entries tell, all together. -/
def fE (P : Bk → Bool) (L : List Bk) (e : MapEntry) : Nat := if P (unV e.key) then L.count (unV e.key) else 0
theorem fE_at (P : Bk → Bool) (L : List Bk) (e : MapEntry) (x : Bk) (h : e.key = bkV x) : fE P L e = if P x then L.count x else 0 := by
  unfold fE
  rw [h, unV_bk]
theorem countP_cons_key (P : Bk → Bool) (x : Bk) (ks : List Bk) (hx : x ∉ ks) : ∀ L : List Bk, L.countP (fun y => P y && (x :: ks).contains y) = (if P x then L.count x else 0) + L.countP (fun y => P y && ks.contains y)
  | [] => by simp
  | y :: L => by
    have ih := countP_cons_key P x ks hx L
    rw [List.countP_cons, List.countP_cons, List.count_cons, ih, List.contains_cons]
    by_cases e : y = x
    · subst e
      have h1 : ks.contains y = false := by simpa using hx
      rw [h1]
      cases hp : P y
      · simp
      · simp only [BEq.rfl, Bool.true_or, Bool.and_self, if_true, Bool.and_false, Bool.false_eq_true, if_false]
        omega
    · have h1 : (y == x) = false := by simpa using e
      rw [h1, Bool.false_or]
      simp only [Bool.false_eq_true, if_false, Nat.add_zero]
      cases hp : P x <;> simp only [if_true, Bool.false_eq_true, if_false] <;> omega
theorem sum_count (P : Bk → Bool) (L : List Bk) : ∀ ks : List Bk, ks.Nodup → (ks.map fun x => if P x then L.count x else 0).sum = L.countP fun y => P y && ks.contains y
  | [], _ => by simp
  | x :: ks, h => by
    rw [List.nodup_cons] at h
    rw [List.map_cons, List.sum_cons, sum_count P L ks h.2, countP_cons_key P x ks h.1]
theorem sum_entries (P : Bk → Bool) (L : List Bk) (wf : ∀ b ∈ L, b.Wf) (es : List MapEntry) (hk : (es.map (·.key)).Nodup) (h1 : ∀ e ∈ es, ∃ x : Bk, x.Wf ∧ e.key = bkV x) (h2 : ∀ x : Bk, x.Wf → (∀ e ∈ es, e.key ≠ bkV x) → L.count x = 0) :
    (es.map (fE P L)).sum = L.countP P := by
  have e1 : es.map (fE P L) = (es.map fun e => unV e.key).map fun x => if P x then L.count x else 0 := by
    rw [List.map_map]
    rfl
  have e2 : (es.map fun e => unV e.key).Nodup := by
    have h3 : (es.map (·.key)) = (es.map fun e => unV e.key).map bkV := by
      rw [List.map_map]
      refine List.map_congr_left fun e he => ?_
      obtain ⟨x, _, h4⟩ := h1 e he
      show e.key = bkV (unV e.key)
      rw [h4, unV_bk]
    rw [h3] at hk
    exact List.Pairwise.of_map bkV (fun a b h q => h (by rw [q])) hk
  rw [e1, sum_count P L _ e2]
  refine List.countP_congr fun y hy => ?_
  have h5 : (es.map fun e => unV e.key).contains y = true := by
    rw [List.contains_iff_mem]
    by_cases h6 : ∀ e ∈ es, e.key ≠ bkV y
    · have := h2 y (wf y hy) h6
      have := List.count_pos_iff.2 hy
      omega
    · have h7 : ∃ e ∈ es, e.key = bkV y := Classical.byContradiction fun hn => h6 fun e he q => hn ⟨e, he, q⟩
      obtain ⟨e, he, q⟩ := h7
      exact List.mem_map.2 ⟨e, he, by rw [q, unV_bk]⟩
  rw [h5, Bool.and_true]
end Go.Proofs.Ytblgoflkcomncaa
