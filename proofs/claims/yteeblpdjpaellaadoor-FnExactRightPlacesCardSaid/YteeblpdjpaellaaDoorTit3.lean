/- A map from books to lists of numbers that a call makes and fills, a number put behind the list of a book: relations and their steps. No condition. -/
import Derived.Test.YteeblpdjpaellaaDoorTit2
import Derived.Test.YteeblpdjpaellaaDoorNums
import Derived.Test.YteeblpdjpaellaaDoorQuiet
import Derived.Maps.AppendAt
import Derived.Deep.AppendLies
import Derived.Deep.RegionHeldLaw
import Derived.Deep.RegionLaw
namespace Go.Proofs.YteeblpdjpaellaaDoor
set_option linter.unusedSimpArgs false
set_option linter.unusedVariables false
set_option maxRecDepth 100000
open Go.RowKit Go.MapKept Go.WideElems

section
variable {P : Program} (w : World)
/-- An append to a row of the call's own (or to none), at a step of a drawn region. -/
theorem step_append_at {ops : Array Oper} {o : Oper} {a : Act} {K : Act → World → Prop} {Q : Exit → Act → World → Prop} {E : Prop} (hgd : o.guard = none) (s x : Operand) (t : TypeId)
    (ho : o.op = .call { callee := .builtin .append, args := #[s, x], argTypes := #[t, t] })
    (base : Nat) (e : TypeId) (i : TypeInfo) (z : Value) (size bytes : Nat) (ht : P.underlying t = some (.slice e)) (hi : P.info? e = some i) (hz : i.zero = some z)
    (hsize : i.size = size) (hby : i.bytes = bytes) (hzs : z.cells.size = size) (hsz : 0 < size)
    (v : Value) (n : Nat) (xs : List Value) (hs : a.eval s = v) (hown : w.ownsRow base e size v n xs)
    (ad : Addr) (m c : Nat) (news : List Value) (hx : a.eval x = .slice (some ad) m c) (hl : news.length = m * size) (hnews : ∀ j u, news[j]? = some u → w.cell? (ad.add j) = some u) (h1 : ∀ u ∈ news, u.oneCell' = true)
    (h63 : n + m ≤ maxLen) (hbytes : (n + m) * bytes ≤ 140737488355328) (hbase : base ≤ w.heap.size)
    (h : ∀ v' w', w'.ownsRow base e size v' (n + m) (xs ++ news) → w.grownBy w' v.ownBlock → (v'.ownBlock = v.ownBlock ∨ v'.ownBlock = some w.heap.size) → K (a.put o.dst v') w') :
    if Region.wanted o (yielded ops a.tmps) = true then Oper.wp P o a w K Q else E := by
  have hw : Region.wanted o (yielded ops a.tmps) = true := by simp [Region.wanted, hgd]
  rw [if_pos hw]
  obtain ⟨v', w', hr, h2, h3, _, h5⟩ := run_append_own_at (P := P) w base t o.type e i z size bytes ht hi hz hsize hby hzs hsz v n xs hown ad m c news hl hnews h1 h63 hbytes hbase
  unfold Oper.wp execOp
  simp only [ho, resolve, invoke, builtin, Sem.run_bind, Sem.run_pure, Result.andThen_ok, List.map_toArray, List.map_cons, List.map_nil, hs, hx, hr]
  exact h v' w' h2 h3 h5
end
def IL (l : List Int) : List Value := l.map (Value.int .i64)
def updF (f : Bk → List Int) (k : Bk) (l : List Int) : Bk → List Int := fun y => if k = y then l else f y
theorem updF_same (f : Bk → List Int) (k : Bk) (l : List Int) : updF f k l k = l := by simp [updF]
theorem updF_other (f : Bk → List Int) {k y : Bk} (l : List Int) (h : k ≠ y) : updF f k l y = f y := by simp [updF, h]
/-- Block b is a map that holds f's list of each book, each in a row of its own from base on. -/
def GrI (w : World) (b base n : Nat) (g : Bk → Value) (f : Bk → List Int) : Prop :=
  MpF w b n g ∧ b < base ∧ base ≤ w.heap.size ∧ (∀ x : Bk, x.Wf → w.ownsRow base 2 1 (g x) (f x).length (IL (f x))) ∧ ∀ x y : Bk, x.Wf → y.Wf → x ≠ y → ∀ k, (g x).ownBlock = some k → (g y).ownBlock ≠ some k
/-- The same but for the book k, whose list is held by v now. -/
def GrA (w : World) (b base n : Nat) (g : Bk → Value) (f : Bk → List Int) (k : Bk) (v : Value) (l : List Int) : Prop :=
  MpF w b n g ∧ b < base ∧ base ≤ w.heap.size ∧ (∀ x : Bk, x.Wf → k ≠ x → w.ownsRow base 2 1 (g x) (f x).length (IL (f x))) ∧ (∀ x y : Bk, x.Wf → y.Wf → k ≠ x → k ≠ y → x ≠ y → ∀ j, (g x).ownBlock = some j → (g y).ownBlock ≠ some j) ∧
    (∀ x : Bk, x.Wf → k ≠ x → ∀ j, (g x).ownBlock = some j → v.ownBlock ≠ some j) ∧ w.ownsRow base 2 1 v l.length (IL l)
theorem GrI.made (w : World) : GrI (w.alloc (.map #[] 0)) w.heap.size (w.alloc (.map #[] 0)).heap.size 0 (fun _ => .slice none 0 0) (fun _ => []) :=
  ⟨MpF.made w, by simp, Nat.le_refl _, fun x _ => ⟨rfl, .inl ⟨rfl, rfl⟩⟩, fun x y _ _ _ k hk => by cases hk⟩
theorem GrI.below {w w' : World} {b base n : Nat} {g : Bk → Value} {f : Bk → List Int} (h : GrI w b base n g f) (hb : Below w.heap.size w w') : GrI w' b base n g f := by
  obtain ⟨h1, h2, h3, h4, h5⟩ := h
  exact ⟨h1.below hb, h2, Nat.le_trans h3 hb.size, fun x wx => ownBelow (h4 x wx) hb, h5⟩
theorem GrA.below {w w' : World} {b base n : Nat} {g : Bk → Value} {f : Bk → List Int} {k : Bk} {v : Value} {l : List Int} (h : GrA w b base n g f k v l) (hb : Below w.heap.size w w') : GrA w' b base n g f k v l := by
  obtain ⟨h1, h2, h3, h4, h5, h6, h7⟩ := h
  exact ⟨h1.below hb, h2, Nat.le_trans h3 hb.size, fun x wx hx => ownBelow (h4 x wx hx) hb, h5, h6, ownBelow h7 hb⟩
theorem own_lt {w : World} {base n : Nat} {v : Value} {xs : List Value} (h : w.ownsRow base 2 1 v n xs) {j : Nat} (hj : v.ownBlock = some j) : base ≤ j ∧ j < w.heap.size := h.lt j hj
theorem own_other {w w' : World} {base n : Nat} {v : Value} {xs : List Value} {row : Option Nat} (h : w.ownsRow base 2 1 v n xs) (hg : w.grownBy w' row) (hne : ∀ j, v.ownBlock = some j → row ≠ some j) : w'.ownsRow base 2 1 v n xs := by
  refine ⟨h.1, ?_⟩
  rcases h.2 with hn | ⟨g, cap, cur, hv, hbg, hgg, rest⟩
  · exact .inl hn
  · refine .inr ⟨g, cap, cur, hv, hbg, (hg.block g (Array.getElem?_eq_some_iff.1 hgg).1 (fun e => hne g (by rw [hv]; rfl) e.symm)).trans hgg, rest⟩
/-- A number is put behind the list of k: the list has moved or grown; the map does not know it yet. -/
theorem GrI.append {w w' : World} {b base n : Nat} {g : Bk → Value} {f : Bk → List Int} {k : Bk} (h : GrI w b base n g f) (wk : k.Wf) {v : Value} {l : List Int} (hown : w'.ownsRow base 2 1 v l.length (IL l)) (hg : w.grownBy w' (g k).ownBlock) (hat : v.ownBlock = (g k).ownBlock ∨ v.ownBlock = some w.heap.size) : GrA w' b base n g f k v l := by
  obtain ⟨h1, h2, h3, h4, h5⟩ := h
  have far : ∀ x : Bk, x.Wf → k ≠ x → ∀ j, (g x).ownBlock = some j → (g k).ownBlock ≠ some j := fun x wx hx j hj => h5 x k wx wk (fun e => hx e.symm) j hj
  refine ⟨h1.other hg (fun e => ?_), h2, Nat.le_trans h3 hg.size, fun x wx hx => own_other (h4 x wx) hg (far x wx hx), fun x y wx wy _ _ hne j hj => h5 x y wx wy hne j hj, fun x wx hx j hj => ?_, hown⟩
  · have := (own_lt (h4 k wk) e.symm).1
    omega
  · rcases hat with e | e
    · rw [e]; exact far x wx hx j hj
    · rw [e]
      intro q
      injection q with q
      have := (own_lt (h4 x wx) hj).2
      omega
/-- The map is told where the list of k is now. -/
theorem GrA.put {w : World} {b base n : Nat} {g : Bk → Value} {f : Bk → List Int} {k : Bk} {v : Value} {l : List Int} (h : GrA w b base n g f k v l) (wk : k.Wf) :
    ∃ w2, (Instr.mapUpdate 91 (.map (some b)) (bkV k) v).run Tryd.prog w = .ok () w2 ∧ GrI w2 b base (n + 1) (updV g k v) (updF f k l) ∧ w.grownBy w2 (some b) := by
  obtain ⟨h1, h2, h3, h4, h5, h6, h7⟩ := h
  obtain ⟨w2, hr, hm, hg⟩ := h1.put k wk v
  refine ⟨w2, hr, ⟨hm, h2, Nat.le_trans h3 hg.size, fun x wx => ?_, fun x y wx wy hne j hj => ?_⟩, hg⟩
  · by_cases e : k = x
    · subst e
      rw [updV_same, updF_same]
      exact own_other h7 hg (fun j hj e => by have := (own_lt h7 hj).1; injection e with e; omega)
    · rw [updV_other _ _ e, updF_other _ _ e]
      exact own_other (h4 x wx e) hg (fun j hj e2 => by have := (own_lt (h4 x wx e) hj).1; injection e2 with e2; omega)
  · by_cases ex : k = x
    · subst ex
      rw [updV_same] at hj
      rw [updV_other _ _ hne]
      exact fun q => h6 y wy hne j q hj
    · rw [updV_other _ _ ex] at hj
      by_cases ey : k = y
      · subst ey
        rw [updV_same]
        exact h6 x wx ex j hj
      · rw [updV_other _ _ ey]
        exact h5 x y wx wy ex ey hne j hj
end Go.Proofs.YteeblpdjpaellaaDoor
