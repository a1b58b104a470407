/- Books taken in turn: lists of places, the walk of takeInTurn and WalkTo. -/
import Derived.Test.YtecpddkbbfpeeaaTit2
import Derived.Test.YtecpddkbbfpeeaaNums
import Derived.Test.YtecpddkbbfpeeaaQuiet
import Derived.Maps.AppendAt
import Derived.Deep.AppendLies
import Derived.Deep.RegionHeldLaw
import Derived.Deep.RegionLaw
import Derived.Test.YtecpddkbbfpeeaaTit1
import Derived.RegionTactic
import Derived.BigRegion
import Derived.Deep.Cut
import Derived.Test.YtecpddkbbfpeeaaOrd
import Derived.StillTailTactics
import Derived.IntWalk
import Derived.Deep.RegionHeld3
namespace Go.Proofs.Ytecpddkbbfpeeaa
set_option linter.unusedSimpArgs false
set_option linter.unusedVariables false
set_option maxRecDepth 100000

section
open Go.RowKit Go.MapKept Go.WideElems

section
variable {P : Program} (w : World)
/-- An append to a row of the call's own (or to none), at a step of a drawn region. -/
theorem step_append_at {ops : Array Oper} {o : Oper} {a : Act} {K : Act → World → Prop} {Q : Exit → Act → World → Prop} {E : Prop} (hgd : o.guard = none) (s x : Operand) (t : TypeId)
    (ho : o.op = .call { callee := .builtin .append, args := #[s, x], argTypes := #[t, t] })
    (base : Nat) (e : TypeId) (i : TypeInfo) (z : Value) (size bytes : Nat) (ht : P.underlying t = some (.slice e)) (hi : P.info? e = some i) (hz : i.zero = some z)
    (hsize : i.size = size) (hby : i.bytes = bytes) (hzs : z.cells.size = size) (hsz : 0 < size)
    (v : Value) (n : Nat) (xs : List Value) (hs : a.eval s = v) (hown : w.ownsRow base e size v n xs)
    (ad : Addr) (m c : Nat) (news : List Value) (hx : a.eval x = .slice (some ad) m c) (hl : news.length = m * size) (hnews : ∀ j u, news[j]? = some u → w.cell? (ad.add j) = some u) (h1 : ∀ u ∈ news, u.oneCell' = true)
    (h63 : n + m ≤ maxLen) (hbytes : (n + m) * bytes ≤ 140737488355328) (hbase : base ≤ w.heap.size)
    (h : ∀ v' w', w'.ownsRow base e size v' (n + m) (xs ++ news) → w.grownBy w' v.ownBlock → (v'.ownBlock = v.ownBlock ∨ v'.ownBlock = some w.heap.size) → K (a.put o.dst v') w') :
    if Region.wanted o (yielded ops a.tmps) = true then Oper.wp P o a w K Q else E := by
  have hw : Region.wanted o (yielded ops a.tmps) = true := by simp [Region.wanted, hgd]
  rw [if_pos hw]
  obtain ⟨v', w', hr, h2, h3, _, h5⟩ := run_append_own_at (P := P) w base t o.type e i z size bytes ht hi hz hsize hby hzs hsz v n xs hown ad m c news hl hnews h1 h63 hbytes hbase
  unfold Oper.wp execOp
  simp only [ho, resolve, invoke, builtin, Sem.run_bind, Sem.run_pure, Result.andThen_ok, List.map_toArray, List.map_cons, List.map_nil, hs, hx, hr]
  exact h v' w' h2 h3 h5
end
def IL (l : List Int) : List Value := l.map (Value.int .i64)
def updF (f : Bk → List Int) (k : Bk) (l : List Int) : Bk → List Int := fun y => if k = y then l else f y
theorem updF_same (f : Bk → List Int) (k : Bk) (l : List Int) : updF f k l k = l := by simp [updF]
theorem updF_other (f : Bk → List Int) {k y : Bk} (l : List Int) (h : k ≠ y) : updF f k l y = f y := by simp [updF, h]
/-- Block b is a map that holds f's list of each book, each in a row of its own from base on. -/
def GrI (w : World) (b base n : Nat) (g : Bk → Value) (f : Bk → List Int) : Prop :=
  MpF w b n g ∧ b < base ∧ base ≤ w.heap.size ∧ (∀ x : Bk, x.Wf → w.ownsRow base 2 1 (g x) (f x).length (IL (f x))) ∧ ∀ x y : Bk, x.Wf → y.Wf → x ≠ y → ∀ k, (g x).ownBlock = some k → (g y).ownBlock ≠ some k
/-- The same but for the book k, whose list is held by v now. -/
def GrA (w : World) (b base n : Nat) (g : Bk → Value) (f : Bk → List Int) (k : Bk) (v : Value) (l : List Int) : Prop :=
  MpF w b n g ∧ b < base ∧ base ≤ w.heap.size ∧ (∀ x : Bk, x.Wf → k ≠ x → w.ownsRow base 2 1 (g x) (f x).length (IL (f x))) ∧ (∀ x y : Bk, x.Wf → y.Wf → k ≠ x → k ≠ y → x ≠ y → ∀ j, (g x).ownBlock = some j → (g y).ownBlock ≠ some j) ∧
    (∀ x : Bk, x.Wf → k ≠ x → ∀ j, (g x).ownBlock = some j → v.ownBlock ≠ some j) ∧ w.ownsRow base 2 1 v l.length (IL l)
theorem GrI.made (w : World) : GrI (w.alloc (.map #[] 0)) w.heap.size (w.alloc (.map #[] 0)).heap.size 0 (fun _ => .slice none 0 0) (fun _ => []) :=
  ⟨MpF.made w, by simp, Nat.le_refl _, fun x _ => ⟨rfl, .inl ⟨rfl, rfl⟩⟩, fun x y _ _ _ k hk => by cases hk⟩
theorem GrI.below {w w' : World} {b base n : Nat} {g : Bk → Value} {f : Bk → List Int} (h : GrI w b base n g f) (hb : Below w.heap.size w w') : GrI w' b base n g f := by
  obtain ⟨h1, h2, h3, h4, h5⟩ := h
  exact ⟨h1.below hb, h2, Nat.le_trans h3 hb.size, fun x wx => ownBelow (h4 x wx) hb, h5⟩
theorem GrA.below {w w' : World} {b base n : Nat} {g : Bk → Value} {f : Bk → List Int} {k : Bk} {v : Value} {l : List Int} (h : GrA w b base n g f k v l) (hb : Below w.heap.size w w') : GrA w' b base n g f k v l := by
  obtain ⟨h1, h2, h3, h4, h5, h6, h7⟩ := h
  exact ⟨h1.below hb, h2, Nat.le_trans h3 hb.size, fun x wx hx => ownBelow (h4 x wx hx) hb, h5, h6, ownBelow h7 hb⟩
theorem own_lt {w : World} {base n : Nat} {v : Value} {xs : List Value} (h : w.ownsRow base 2 1 v n xs) {j : Nat} (hj : v.ownBlock = some j) : base ≤ j ∧ j < w.heap.size := h.lt j hj
theorem own_other {w w' : World} {base n : Nat} {v : Value} {xs : List Value} {row : Option Nat} (h : w.ownsRow base 2 1 v n xs) (hg : w.grownBy w' row) (hne : ∀ j, v.ownBlock = some j → row ≠ some j) : w'.ownsRow base 2 1 v n xs := by
  refine ⟨h.1, ?_⟩
  rcases h.2 with hn | ⟨g, cap, cur, hv, hbg, hgg, rest⟩
  · exact .inl hn
  · refine .inr ⟨g, cap, cur, hv, hbg, (hg.block g (Array.getElem?_eq_some_iff.1 hgg).1 (fun e => hne g (by rw [hv]; rfl) e.symm)).trans hgg, rest⟩
/-- A number is put behind the list of k: the list has moved or grown; the map does not know it yet. -/
theorem GrI.append {w w' : World} {b base n : Nat} {g : Bk → Value} {f : Bk → List Int} {k : Bk} (h : GrI w b base n g f) (wk : k.Wf) {v : Value} {l : List Int} (hown : w'.ownsRow base 2 1 v l.length (IL l)) (hg : w.grownBy w' (g k).ownBlock) (hat : v.ownBlock = (g k).ownBlock ∨ v.ownBlock = some w.heap.size) : GrA w' b base n g f k v l := by
  obtain ⟨h1, h2, h3, h4, h5⟩ := h
  have far : ∀ x : Bk, x.Wf → k ≠ x → ∀ j, (g x).ownBlock = some j → (g k).ownBlock ≠ some j := fun x wx hx j hj => h5 x k wx wk (fun e => hx e.symm) j hj
  refine ⟨h1.other hg (fun e => ?_), h2, Nat.le_trans h3 hg.size, fun x wx hx => own_other (h4 x wx) hg (far x wx hx), fun x y wx wy _ _ hne j hj => h5 x y wx wy hne j hj, fun x wx hx j hj => ?_, hown⟩
  · have := (own_lt (h4 k wk) e.symm).1
    omega
  · rcases hat with e | e
    · rw [e]; exact far x wx hx j hj
    · rw [e]
      intro q
      injection q with q
      have := (own_lt (h4 x wx) hj).2
      omega
/-- The map is told where the list of k is now. -/
theorem GrA.put {w : World} {b base n : Nat} {g : Bk → Value} {f : Bk → List Int} {k : Bk} {v : Value} {l : List Int} (h : GrA w b base n g f k v l) (wk : k.Wf) :
    ∃ w2, (Instr.mapUpdate 82 (.map (some b)) (bkV k) v).run Try.prog w = .ok () w2 ∧ GrI w2 b base (n + 1) (updV g k v) (updF f k l) ∧ w.grownBy w2 (some b) := by
  obtain ⟨h1, h2, h3, h4, h5, h6, h7⟩ := h
  obtain ⟨w2, hr, hm, hg⟩ := h1.put k wk v
  refine ⟨w2, hr, ⟨hm, h2, Nat.le_trans h3 hg.size, fun x wx => ?_, fun x y wx wy hne j hj => ?_⟩, hg⟩
  · by_cases e : k = x
    · subst e
      rw [updV_same, updF_same]
      exact own_other h7 hg (fun j hj e => by have := (own_lt h7 hj).1; injection e with e; omega)
    · rw [updV_other _ _ e, updF_other _ _ e]
      exact own_other (h4 x wx e) hg (fun j hj e2 => by have := (own_lt (h4 x wx e) hj).1; injection e2 with e2; omega)
  · by_cases ex : k = x
    · subst ex
      rw [updV_same] at hj
      rw [updV_other _ _ hne]
      exact fun q => h6 y wy hne j q hj
    · rw [updV_other _ _ ex] at hj
      by_cases ey : k = y
      · subst ey
        rw [updV_same]
        exact h6 x wx ex j hj
      · rw [updV_other _ _ ey]
        exact h5 x y wx wy ex ey hne j hj
end

section
open Go.RowKit Go.MapKept

theorem results_cell1 {P : Program} {fn : Func} {tmps : Array Value} {a : Tmp} {t : TypeId} {b o : Nat} {v : Value} {w : World} (h : fn.results = #[.cell a t]) (ha : tmps.getD a undef = .pointer (some ⟨b, o, none⟩)) (hl : (loadVar t ⟨b, o, none⟩).run P w = .ok v w) : (results fn tmps).run P w = .ok v w := by
  have hs : (asAddr (tmps.getD a undef)).run P w = .ok ⟨b, o, none⟩ w := by rw [ha]; rfl
  simp only [Array.getD_eq_getD_getElem?] at hs
  simp [results, h, hs, hl]
set_option maxHeartbeats 400000 in
theorem loadVar_bk {W : World} {g : Nat} (c m0 m1 m2 v wi hi we : Int) (h : W.heap[g]? = some (.cells #[.int .i16 c, .int .u8 m0, .int .u8 m1, .int .u8 m2, .int .i16 v, .int .i16 wi, .int .i16 hi, .int .i16 we] 42 (0, 0))) :
    (loadVar 42 ⟨g, 0, none⟩).run Try.prog W = .ok (.agg #[.int .i16 c, .int .u8 m0, .int .u8 m1, .int .u8 m2, .int .i16 v, .int .i16 wi, .int .i16 hi, .int .i16 we]) W := by
  have q0 : W.cell? ⟨g, 0, none⟩ = some (.int .i16 c) := cell_of_row W _ 0 _ _ _ h
  have q1 : W.cell? ⟨g, 1, none⟩ = some (.int .u8 m0) := cell_of_row W _ 1 _ _ _ h
  have q2 : W.cell? ⟨g, 2, none⟩ = some (.int .u8 m1) := cell_of_row W _ 2 _ _ _ h
  have q3 : W.cell? ⟨g, 3, none⟩ = some (.int .u8 m2) := cell_of_row W _ 3 _ _ _ h
  have q4 : W.cell? ⟨g, 4, none⟩ = some (.int .i16 v) := cell_of_row W _ 4 _ _ _ h
  have q5 : W.cell? ⟨g, 5, none⟩ = some (.int .i16 wi) := cell_of_row W _ 5 _ _ _ h
  have q6 : W.cell? ⟨g, 6, none⟩ = some (.int .i16 hi) := cell_of_row W _ 6 _ _ _ h
  have q7 : W.cell? ⟨g, 7, none⟩ = some (.int .i16 we) := cell_of_row W _ 7 _ _ _ h
  clear h
  go_simp
theorem ttl_wf {b : Bk} (h : b.Wf) : (ttl b).Wf := by
  obtain ⟨a1, a2, a3, a4, a5, a6, a7, a8⟩ := h
  have z : -32768 ≤ (0 : Int) ∧ (0 : Int) ≤ 32767 := by decide
  exact ⟨a1, a2, a3, a4, a5, z, z, z⟩
set_option maxHeartbeats 1000000 in
theorem title_any (b : Bk) (w : World) :
    Calls Try.prog 37 #[.agg #[.int .i16 b.c, .int .u8 b.m0, .int .u8 b.m1, .int .u8 b.m2, .int .i16 b.v, .int .i16 b.wi, .int .i16 b.hi, .int .i16 b.we]] w fun e w' => e = .returned (bkV (ttl b)) ∧ Below w.heap.size w w' := by
  have H2 : w.heap.size < (w.alloc (.cells #[.int .i16 b.c, .int .u8 b.m0, .int .u8 b.m1, .int .u8 b.m2, .int .i16 b.v, .int .i16 b.wi, .int .i16 b.hi, .int .i16 b.we] 42)).heap.size := by simp
  have G := Lib.hid (show Below w.heap.size w ((w.alloc (.cells #[.int .i16 b.c, .int .u8 b.m0, .int .u8 b.m1, .int .u8 b.m2, .int .i16 b.v, .int .i16 b.wi, .int .i16 b.hi, .int .i16 b.we] 42)).alloc (.cells #[.int .i16 0, .int .u8 0, .int .u8 0, .int .u8 0, .int .i16 0, .int .i16 0, .int .i16 0, .int .i16 0] 42)) from (((Below.refl w.heap.size w).alloc (Nat.le_refl _) _).alloc (by simp) _))
  have GB := Lib.hid (show ((w.alloc (.cells #[.int .i16 b.c, .int .u8 b.m0, .int .u8 b.m1, .int .u8 b.m2, .int .i16 b.v, .int .i16 b.wi, .int .i16 b.hi, .int .i16 b.we] 42)).alloc (.cells #[.int .i16 0, .int .u8 0, .int .u8 0, .int .u8 0, .int .i16 0, .int .i16 0, .int .i16 0, .int .i16 0] 42)).heap[w.heap.size]? = some (.cells #[.int .i16 b.c, .int .u8 b.m0, .int .u8 b.m1, .int .u8 b.m2, .int .i16 b.v, .int .i16 b.wi, .int .i16 b.hi, .int .i16 b.we] 42 (0, 0)) from (Below.heap_alloc _ _ _ H2).trans (heap_alloc_new w _))
  have GM := Lib.hid (show ((w.alloc (.cells #[.int .i16 b.c, .int .u8 b.m0, .int .u8 b.m1, .int .u8 b.m2, .int .i16 b.v, .int .i16 b.wi, .int .i16 b.hi, .int .i16 b.we] 42)).alloc (.cells #[.int .i16 0, .int .u8 0, .int .u8 0, .int .u8 0, .int .i16 0, .int .i16 0, .int .i16 0, .int .i16 0] 42)).heap[w.heap.size + 1]? = some (.cells #[.int .i16 0, .int .u8 0, .int .u8 0, .int .u8 0, .int .i16 0, .int .i16 0, .int .i16 0, .int .i16 0] 42 (0, 0)) from by have := heap_alloc_new (w.alloc (.cells #[.int .i16 b.c, .int .u8 b.m0, .int .u8 b.m1, .int .u8 b.m2, .int .i16 b.v, .int .i16 b.wi, .int .i16 b.hi, .int .i16 b.we] 42)) (.cells #[.int .i16 0, .int .u8 0, .int .u8 0, .int .u8 0, .int .i16 0, .int .i16 0, .int .i16 0, .int .i16 0] 42); rwa [show (w.alloc (.cells #[.int .i16 b.c, .int .u8 b.m0, .int .u8 b.m1, .int .u8 b.m2, .int .i16 b.v, .int .i16 b.wi, .int .i16 b.hi, .int .i16 b.we] 42)).heap.size = w.heap.size + 1 by simp] at this)
  clear H2
  go_enter Try.func37, Try.ntmps37
  go_upto_region 1 with (fail)
  generalize World.alloc _ _ = W2 at G GB GM ⊢
  have p0 : W2.cell? ⟨w.heap.size, 0, none⟩ = some (.int .i16 b.c) := cell_of_row W2 _ 0 _ _ _ GB.out
  have p1 : W2.cell? ⟨w.heap.size, 1, none⟩ = some (.int .u8 b.m0) := cell_of_row W2 _ 1 _ _ _ GB.out
  have p2 : W2.cell? ⟨w.heap.size, 2, none⟩ = some (.int .u8 b.m1) := cell_of_row W2 _ 2 _ _ _ GB.out
  have p3 : W2.cell? ⟨w.heap.size, 3, none⟩ = some (.int .u8 b.m2) := cell_of_row W2 _ 3 _ _ _ GB.out
  have p4 : W2.cell? ⟨w.heap.size, 4, none⟩ = some (.int .i16 b.v) := cell_of_row W2 _ 4 _ _ _ GB.out
  have p5 : W2.cell? ⟨w.heap.size, 5, none⟩ = some (.int .i16 b.wi) := cell_of_row W2 _ 5 _ _ _ GB.out
  have p6 : W2.cell? ⟨w.heap.size, 6, none⟩ = some (.int .i16 b.hi) := cell_of_row W2 _ 6 _ _ _ GB.out
  have p7 : W2.cell? ⟨w.heap.size, 7, none⟩ = some (.int .i16 b.we) := cell_of_row W2 _ 7 _ _ _ GB.out
  have z0 : W2.cell? ⟨w.heap.size + 1, 0, none⟩ = some (.int .i16 0) := cell_of_row W2 _ 0 _ _ _ GM.out
  have z1 : W2.cell? ⟨w.heap.size + 1, 1, none⟩ = some (.int .u8 0) := cell_of_row W2 _ 1 _ _ _ GM.out
  have z2 : W2.cell? ⟨w.heap.size + 1, 2, none⟩ = some (.int .u8 0) := cell_of_row W2 _ 2 _ _ _ GM.out
  have z3 : W2.cell? ⟨w.heap.size + 1, 3, none⟩ = some (.int .u8 0) := cell_of_row W2 _ 3 _ _ _ GM.out
  have z4 : W2.cell? ⟨w.heap.size + 1, 4, none⟩ = some (.int .i16 0) := cell_of_row W2 _ 4 _ _ _ GM.out
  have z5 : W2.cell? ⟨w.heap.size + 1, 5, none⟩ = some (.int .i16 0) := cell_of_row W2 _ 5 _ _ _ GM.out
  have z6 : W2.cell? ⟨w.heap.size + 1, 6, none⟩ = some (.int .i16 0) := cell_of_row W2 _ 6 _ _ _ GM.out
  have z7 : W2.cell? ⟨w.heap.size + 1, 7, none⟩ = some (.int .i16 0) := cell_of_row W2 _ 7 _ _ _ GM.out
  have fz : ∀ o, W2.frozen? ⟨w.heap.size + 1, o, none⟩ = false := fun o => frozen_of_row W2 _ o _ _ GM.out
  go_wp2
  (try simp only [Exit.inBlock, Exit.then])
  obtain ⟨W3, hW3⟩ : ∃ W3, W3 = set8 W2 (w.heap.size + 1) 0 (ttl b) := ⟨_, rfl⟩
  have GR : W3.heap[w.heap.size + 1]? = some (.cells #[.int .i16 b.c, .int .u8 b.m0, .int .u8 b.m1, .int .u8 b.m2, .int .i16 b.v, .int .i16 0, .int .i16 0, .int .i16 0] 42 (0, 0)) := by rw [hW3]; exact (set8_heap GM.out).trans (by rfl)
  have BW : Below w.heap.size w W3 := by rw [hW3]; exact set8_below G.out (by omega)
  refine bodyPost_ret (v := bkV (ttl b)) (results_cell1 (b := w.heap.size + 1) (o := 0) rfl rfl ?_) rfl ?_
  · show (loadVar 42 ⟨w.heap.size + 1, 0, none⟩).run Try.prog (set8 W2 (w.heap.size + 1) 0 (ttl b)) = .ok _ (set8 W2 (w.heap.size + 1) 0 (ttl b))
    rw [← hW3]
    exact loadVar_bk _ _ _ _ _ _ _ _ GR
  · refine ⟨rfl, ?_⟩
    show Below w.heap.size w (set8 W2 (w.heap.size + 1) 0 (ttl b))
    rw [← hW3]
    exact BW
end

section
open Go.RowKit Go.MapKept

theorem elemIntsT : Try.prog.underlying 24 = some (.slice (Try.prog.elem 24)) := by kernel_rfl
theorem sizeIntsT (w : World) : (sizeOf (Try.prog.elem 24)).run Try.prog w = .ok 1 w := by kernel_rfl
/-- The place of the rest behind the first number. -/
def restO (o c : Nat) : Nat := if c = 1 then o else o + 1
theorem run_restI (g o n c : Nat) (hn : 1 ≤ n) (hc : n ≤ c) (w : World) :
    (Instr.slice 24 (.slice (some ⟨g, o, none⟩) n c) (some (.int .i64 1)) none none).run Try.prog w = .ok (.slice (some ⟨g, restO o c, none⟩) (n - 1) (c - 1)) w := by
  rw [run_slice_l w _ _ _ _ elemIntsT _ _ (by omega) (by omega), sizeIntsT]
  unfold restO
  by_cases h : c = 1
  · simp [Result.andThen, sliced, h]
  · simp [Result.andThen, sliced, h, Addr.add]
/-- A value is no list and reads as none, or a list that lies from lo on, below B. -/
def SlI (w : World) (lo B : Nat) (v : Value) (l : List Int) : Prop := (v = .slice none 0 0 ∧ l = []) ∨ ∃ gb o c, v = .slice (some ⟨gb, o, none⟩) l.length c ∧ l.length ≤ c ∧ lo ≤ gb ∧ gb < B ∧ IntsAt .i64 w gb o l
theorem SlI.below {w w' : World} {lo B : Nat} {v : Value} {l : List Int} (h : SlI w lo B v l) (hb : Below B w w') : SlI w' lo B v l := by
  rcases h with h | ⟨gb, o, c, h1, h2, h3, h4, h5⟩
  · exact .inl h
  · exact .inr ⟨gb, o, c, h1, h2, h3, h4, h5.below hb h4⟩
theorem SlI.of_own {w : World} {lo : Nat} {v : Value} {l : List Int} (h : w.ownsRow lo 2 1 v l.length (IL l)) : SlI w lo w.heap.size v l := by
  obtain ⟨A, c, rfl, hat⟩ := ownInts (show w.ownsRow lo 2 1 v l.length (l.map (Value.int .i64)) from h)
  rcases h.2 with ⟨e, h0⟩ | ⟨g, cap, cur, e, hlo, hg, hc, _⟩
  · exact .inl ⟨by rw [e], List.eq_nil_of_length_eq_zero h0⟩
  · cases e
    refine .inr ⟨g, 0, c, rfl, by omega, hlo, (Array.getElem?_eq_some_iff.1 hg).1, ?_⟩
    by_cases h0 : 0 < l.length
    · obtain ⟨g', o', e', _, h5⟩ := hat h0
      cases e'
      exact h5
    · exact fun i hi => absurd hi (by omega)
theorem SlI.rest {w : World} {lo B gb o c : Nat} {l : List Int} (h1 : l.length ≤ c) (h2 : lo ≤ gb) (h3 : gb < B) (h : IntsAt .i64 w gb o l) (h0 : 0 < l.length) : SlI w lo B (.slice (some ⟨gb, restO o c, none⟩) (l.length - 1) (c - 1)) (l.drop 1) := by
  have hl : (l.drop 1).length = l.length - 1 := by rw [List.length_drop]
  refine .inr ⟨gb, restO o c, c - 1, by rw [hl], by rw [hl]; omega, h2, h3, fun i hi => ?_⟩
  rw [hl] at hi
  rw [List.getElem_drop]
  have := h (1 + i) (by omega)
  unfold restO
  rw [if_neg (by omega), show o + 1 + i = o + (1 + i) by omega]
  exact this
/-- Block b is a map that holds f's list of each book, to be read. -/
def GrR (w : World) (b B n : Nat) (g : Bk → Value) (f : Bk → List Int) : Prop := MpF w b n g ∧ b < B ∧ ∀ x : Bk, x.Wf → SlI w (b + 1) B (g x) (f x)
theorem GrR.of_GrI {w : World} {b n : Nat} {g : Bk → Value} {f : Bk → List Int} (h : GrI w b (b + 1) n g f) : GrR w b w.heap.size n g f :=
  ⟨h.1, h.1.lt, fun x wx => SlI.of_own (h.2.2.2.1 x wx)⟩
theorem MpF.belowB {w w' : World} {b n B : Nat} {f : Bk → Value} (h : MpF w b n f) (hb : Below B w w') (hl : b < B) : MpF w' b n f := by
  obtain ⟨es, clock, h1, h2⟩ := h
  exact ⟨es, clock, (hb.block b hl).trans h1, h2⟩
theorem GrR.below {w w' : World} {b B n : Nat} {g : Bk → Value} {f : Bk → List Int} (h : GrR w b B n g f) (hb : Below B w w') : GrR w' b B n g f :=
  ⟨h.1.belowB hb h.2.1, h.2.1, fun x wx => (h.2.2 x wx).below hb⟩
theorem SlI.other {w w' : World} {lo B b : Nat} {v : Value} {l : List Int} (h : SlI w lo B v l) (hg : w.grownBy w' (some b)) (hb : b < lo) (hB : B ≤ w.heap.size) : SlI w' lo B v l := by
  rcases h with h | ⟨gb, o, c, h1, h2, h3, h4, h5⟩
  · exact .inl h
  · refine .inr ⟨gb, o, c, h1, h2, h3, h4, fun i hi => ?_⟩
    have e := hg.block gb (by omega) (fun e => by injection e with e; omega)
    have := h5 i hi
    unfold World.cell? at this ⊢
    rw [e]
    exact this
theorem GrR.put {w : World} {b B n : Nat} {g : Bk → Value} {f : Bk → List Int} (h : GrR w b B n g f) (hB : B ≤ w.heap.size) {k : Bk} (wk : k.Wf) {v : Value} {l : List Int} (hv : SlI w (b + 1) B v l) :
    ∃ w2, (Instr.mapUpdate 82 (.map (some b)) (bkV k) v).run Try.prog w = .ok () w2 ∧ GrR w2 b B (n + 1) (updV g k v) (updF f k l) ∧ w.grownBy w2 (some b) := by
  obtain ⟨w2, hr, hm, hg⟩ := h.1.put k wk v
  refine ⟨w2, hr, ⟨hm, h.2.1, fun x wx => ?_⟩, hg⟩
  by_cases e : k = x
  · subst e
    rw [updV_same, updF_same]
    exact hv.other hg (by omega) hB
  · rw [updV_other _ _ e, updF_other _ _ e]
    exact (h.2.2 x wx).other hg (by omega) hB
end

section
open Go.RowKit Go.MapKept

/-- What holds of the map at every world of a step: all lists but that of k. -/
def GrH (w : World) (b base n : Nat) (g : Bk → Value) (f : Bk → List Int) (k : Bk) : Prop :=
  MpF w b n g ∧ b < base ∧ base ≤ w.heap.size ∧ (∀ x : Bk, x.Wf → k ≠ x → w.ownsRow base 2 1 (g x) (f x).length (IL (f x))) ∧ (∀ x y : Bk, x.Wf → y.Wf → k ≠ x → k ≠ y → x ≠ y → ∀ j, (g x).ownBlock = some j → (g y).ownBlock ≠ some j)
theorem GrI.hole {w : World} {b base n : Nat} {g : Bk → Value} {f : Bk → List Int} (h : GrI w b base n g f) (k : Bk) : GrH w b base n g f k :=
  ⟨h.1, h.2.1, h.2.2.1, fun x wx _ => h.2.2.2.1 x wx, fun x y wx wy _ _ hne => h.2.2.2.2 x y wx wy hne⟩
theorem GrH.below {w w' : World} {b base n : Nat} {g : Bk → Value} {f : Bk → List Int} {k : Bk} (h : GrH w b base n g f k) (hb : Below w.heap.size w w') : GrH w' b base n g f k := by
  obtain ⟨h1, h2, h3, h4, h5⟩ := h
  exact ⟨h1.below hb, h2, Nat.le_trans h3 hb.size, fun x wx hx => ownBelow (h4 x wx hx) hb, h5⟩
def NewAt (w : World) (blk : Nat) (x : Value) : Prop := (∀ j u, [x][j]? = some u → w.cell? ((⟨blk, 0, none⟩ : Addr).add j) = some u) ∧ blk < w.heap.size
theorem kept_more {w w' : World} {blk : Nat} {x : Value} (h : NewAt w blk x) (hq : Below w.heap.size w w') : NewAt w' blk x :=
  ⟨fun j u hu => by
    have h1 := h.1 j u hu
    rw [Addr.add_lit] at h1 ⊢
    exact (hq.cell (p := ⟨blk, 0 + j, none⟩) h.2).trans h1, Nat.lt_of_lt_of_le h.2 hq.size⟩
theorem new_kept {X w' : World} {x : Value} {t : TypeId} (hq : Below (X.alloc (.cells #[x] t)).heap.size (X.alloc (.cells #[x] t)) w') : NewAt w' X.heap.size x :=
  kept_more ⟨cell_one_new X x t, by simp⟩ hq
def PL (xs : List Bk) (k : Bk) (i : Nat) : List Int := (plc ttl xs k i).map (fun (n : Nat) => (n : Int))
theorem PL_len (xs : List Bk) (k : Bk) (i : Nat) : (PL xs k i).length ≤ i := by unfold PL; rw [List.length_map]; exact plc_len _ _ _ _
theorem PL_step {xs : List Bk} {i : Nat} : updF (fun k => PL xs k i) (ttl (xs.getD i default)) (PL xs (ttl (xs.getD i default)) i ++ [(i : Int)]) = fun k => PL xs k (i + 1) := by
  funext y
  unfold updF PL
  rw [plc_succ]
  by_cases e : ttl (xs.getD i default) = y
  · rw [if_pos e, if_pos e, ← e, List.map_append]; rfl
  · rw [if_neg e, if_neg e]
theorem own_low {w : World} {b b' n : Nat} {v : Value} {xs : List Value} (h : w.ownsRow b' 2 1 v n xs) (hb : b ≤ b') : w.ownsRow b 2 1 v n xs := by
  refine ⟨h.1, ?_⟩
  rcases h.2 with hn | ⟨g, cap, cur, hv, hbg, rest⟩
  · exact .inl hn
  · exact .inr ⟨g, cap, cur, hv, Nat.le_trans hb hbg, rest⟩
set_option maxHeartbeats 8000000 in
theorem takeInTurn_any (v0 v1 : Value) (xs ws : List Bk) (wf : ∀ b ∈ xs, b.Wf) (wfw : ∀ b ∈ ws, b.Wf) (w : World) (hs : SliceOf w v0 xs) (hs1 : SliceOf w v1 ws) (hx : xs.length ≤ 60) (hw : ws.length ≤ 60) :
    Calls Try.prog 36 #[v0, v1, .func (.func 37) #[] #[]] w fun e w' => ∃ u t, e = .returned (.tuple #[u, .bool t]) ∧ ((TkOk ttl xs ws ws.length ∧ t = true ∧ w'.ownsRow w.heap.size 2 1 u (tkI xs ws ws.length).length ((tkI xs ws ws.length).map (Value.int .i64))) ∨ (¬ TkOk ttl xs ws ws.length ∧ t = false)) ∧ Below w.heap.size w w' := by
  have hmm := @run_makeMap Try.prog
  have WF := Lib.hid wf
  have WW := Lib.hid wfw
  obtain ⟨i0, hi0, hz0, hz1, hz2⟩ := info_parts infoInt64
  obtain ⟨A, c, rfl, hat⟩ := hs
  have HS := Lib.hid hat
  obtain ⟨A1, c1, rfl, hat1⟩ := hs1
  have HW := Lib.hid hat1
  have M0 := Lib.hid (show GrI (w.alloc (.map #[] 0)) w.heap.size (w.heap.size + 1) 0 (fun _ => .slice none 0 0) (fun k => PL xs k 0) from by have := GrI.made w; rwa [show (w.alloc (.map #[] 0)).heap.size = w.heap.size + 1 by simp] at this)
  have B0 := Lib.hid (show Below w.heap.size w (w.alloc (.map #[] 0)) from (Below.refl _ _).alloc (Nat.le_refl _) _)
  clear hat hat1 wf wfw
  go_enter Try.func36, Try.ntmps36
  go_wp2
  go_loopw [18] (fun i_ wr => ∃ (i : Nat) (g : Bk → Value), i ≤ xs.length ∧ i_ = .int .i64 (i : Int) ∧ GrI wr w.heap.size (w.heap.size + 1) i g (fun k => PL xs k i) ∧ Below w.heap.size w wr) (fun i_ _ => xs.length - (intOf i_).toNat)
  case atStart => exact ⟨0, _, Nat.zero_le _, rfl, M0.out, B0.out⟩
  case round =>
    clear M0 B0 hmm
    obtain ⟨i, g, hi, rfl, hgr, hb⟩ := hrel
    have HG := Lib.hid hgr
    have HB := Lib.hid hb
    clear hgr hb
    by_cases hlt : i < xs.length
    · obtain ⟨ga, oa, rfl, hga, hat⟩ := HS.out (by omega)
      obtain ⟨p0, p1, p2, p3, p4, p5, p6, p7⟩ := booksAt_some (hat.below HB.out hga) hlt
      have WK := Lib.hid (ttl_wf (WF.out _ (List.getElem_mem hlt)))
      have PS := Lib.hid (PL_step (xs := xs) (i := i))
      rw [getD_nth hlt] at PS
      have PLn := PL_len xs (ttl xs[i]) i
      clear hat
      generalize xs[i] = xi at *
      have GX := Lib.hid (show Below wr.heap.size wr (wr.alloc (.cells #[.int .i16 xi.c, .int .u8 xi.m0, .int .u8 xi.m1, .int .u8 xi.m2, .int .i16 xi.v, .int .i16 xi.wi, .int .i16 xi.hi, .int .i16 xi.we] 42)) from (Below.refl _ _).alloc (Nat.le_refl _) _)
      have BX := Lib.hid (heap_alloc_new wr (.cells #[.int .i16 xi.c, .int .u8 xi.m0, .int .u8 xi.m1, .int .u8 xi.m2, .int .i16 xi.v, .int .i16 xi.wi, .int .i16 xi.hi, .int .i16 xi.we] 42))
      have LT := Lib.hid (fun W => title_any xi W)
      generalize hk : ttl xi = k at *
      clear hk
      go_upto_region 5 with (fail)
      generalize World.alloc wr _ = W1 at GX BX ⊢
      clear p0 p1 p2 p3 p4 p5 p6 p7
      have hxl : wr.heap.size < W1.heap.size := (Array.getElem?_eq_some_iff.1 BX.out).1
      have G1 := Lib.hid (HG.out.below GX.out)
      have B1 := Lib.hid (bnext HB.out GX.out)
      generalize hkk : bkV k = kv at LT
      have MK := Lib.hid (show ∀ X : World, Below w.heap.size w X → X.heap[wr.heap.size]? = some (.cells #[.int .i16 xi.c, .int .u8 xi.m0, .int .u8 xi.m1, .int .u8 xi.m2, .int .i16 xi.v, .int .i16 xi.wi, .int .i16 xi.hi, .int .i16 xi.we] 42 (0, 0)) → (fun (X : World) => Below w.heap.size w X ∧ X.heap[wr.heap.size]? = some (.cells #[.int .i16 xi.c, .int .u8 xi.m0, .int .u8 xi.m1, .int .u8 xi.m2, .int .i16 xi.v, .int .i16 xi.wi, .int .i16 xi.hi, .int .i16 xi.we] 42 (0, 0)) ∧ X.cell? ⟨wr.heap.size, 0, none⟩ = some (.int .i16 xi.c) ∧ X.cell? ⟨wr.heap.size, 1, none⟩ = some (.int .u8 xi.m0) ∧ X.cell? ⟨wr.heap.size, 2, none⟩ = some (.int .u8 xi.m1) ∧ X.cell? ⟨wr.heap.size, 3, none⟩ = some (.int .u8 xi.m2) ∧ X.cell? ⟨wr.heap.size, 4, none⟩ = some (.int .i16 xi.v) ∧ X.cell? ⟨wr.heap.size, 5, none⟩ = some (.int .i16 xi.wi) ∧ X.cell? ⟨wr.heap.size, 6, none⟩ = some (.int .i16 xi.hi) ∧ X.cell? ⟨wr.heap.size, 7, none⟩ = some (.int .i16 xi.we)) X from fun X h2 h3 =>
        ⟨h2, h3, cell_of_row X _ 0 _ _ _ h3, cell_of_row X _ 1 _ _ _ h3, cell_of_row X _ 2 _ _ _ h3, cell_of_row X _ 3 _ _ _ h3, cell_of_row X _ 4 _ _ _ h3, cell_of_row X _ 5 _ _ _ h3, cell_of_row X _ 6 _ _ _ h3, cell_of_row X _ 7 _ _ _ h3⟩)
      have SK := Lib.hid (show ∀ X Y : World, Below X.heap.size X Y → (fun (X : World) => Below w.heap.size w X ∧ X.heap[wr.heap.size]? = some (.cells #[.int .i16 xi.c, .int .u8 xi.m0, .int .u8 xi.m1, .int .u8 xi.m2, .int .i16 xi.v, .int .i16 xi.wi, .int .i16 xi.hi, .int .i16 xi.we] 42 (0, 0)) ∧ X.cell? ⟨wr.heap.size, 0, none⟩ = some (.int .i16 xi.c) ∧ X.cell? ⟨wr.heap.size, 1, none⟩ = some (.int .u8 xi.m0) ∧ X.cell? ⟨wr.heap.size, 2, none⟩ = some (.int .u8 xi.m1) ∧ X.cell? ⟨wr.heap.size, 3, none⟩ = some (.int .u8 xi.m2) ∧ X.cell? ⟨wr.heap.size, 4, none⟩ = some (.int .i16 xi.v) ∧ X.cell? ⟨wr.heap.size, 5, none⟩ = some (.int .i16 xi.wi) ∧ X.cell? ⟨wr.heap.size, 6, none⟩ = some (.int .i16 xi.hi) ∧ X.cell? ⟨wr.heap.size, 7, none⟩ = some (.int .i16 xi.we)) X → (fun (X : World) => Below w.heap.size w X ∧ X.heap[wr.heap.size]? = some (.cells #[.int .i16 xi.c, .int .u8 xi.m0, .int .u8 xi.m1, .int .u8 xi.m2, .int .i16 xi.v, .int .i16 xi.wi, .int .i16 xi.hi, .int .i16 xi.we] 42 (0, 0)) ∧ X.cell? ⟨wr.heap.size, 0, none⟩ = some (.int .i16 xi.c) ∧ X.cell? ⟨wr.heap.size, 1, none⟩ = some (.int .u8 xi.m0) ∧ X.cell? ⟨wr.heap.size, 2, none⟩ = some (.int .u8 xi.m1) ∧ X.cell? ⟨wr.heap.size, 3, none⟩ = some (.int .u8 xi.m2) ∧ X.cell? ⟨wr.heap.size, 4, none⟩ = some (.int .i16 xi.v) ∧ X.cell? ⟨wr.heap.size, 5, none⟩ = some (.int .i16 xi.wi) ∧ X.cell? ⟨wr.heap.size, 6, none⟩ = some (.int .i16 xi.hi) ∧ X.cell? ⟨wr.heap.size, 7, none⟩ = some (.int .i16 xi.we)) Y from fun X Y hb h => MK.out Y (bnext h.1 hb) ((hb.block _ (Array.getElem?_eq_some_iff.1 h.2.1).1).trans h.2.1))
      have P1 := Lib.hid (show Below W1.heap.size W1 W1.drew from (Below.refl _ _).drew)
      have SD := Lib.hid (MK.out W1.drew (bnext B1.out P1.out) BX.out)
      have BG := Lib.hid (fun j (hj : (g k).ownBlock = some j) => own_lt (HG.out.2.2.2.1 k WK.out) hj)
      have HLK := Lib.hid (show ∀ X, GrI X w.heap.size (w.heap.size + 1) i g (fun k => PL xs k i) → (Instr.lookup 82 (.map (some w.heap.size)) kv false).run Try.prog X = .ok (g k) X from fun X h => by rw [← hkk]; exact h.1.look k WK.out)
      have OWF := Lib.hid (show ∀ X : World, Below W1.heap.size W1 X → X.ownsRow (w.heap.size + 1) 2 1 (g k) (PL xs k i).length (IL (PL xs k i)) ∧ w.heap.size + 1 ≤ X.heap.size from fun X h => ⟨(G1.out.below h).2.2.2.1 k WK.out, (G1.out.below h).2.2.1⟩)
      have hlk := HLK.out _ (G1.out.below P1.out)
      have hlkA := fun o => HLK.out _ (G1.out.below (P1.out.alloc P1.out.size o))
      have hwl : w.heap.size < wr.heap.size := HG.out.1.lt
      have HFX := Lib.hid (show ∀ X : World, Below W1.heap.size W1 X → X.heap[wr.heap.size]? = some (.cells #[.int .i16 xi.c, .int .u8 xi.m0, .int .u8 xi.m1, .int .u8 xi.m2, .int .i16 xi.v, .int .i16 xi.wi, .int .i16 xi.hi, .int .i16 xi.we] 42 (0, 0)) ∧ wr.heap.size < X.heap.size from fun X h => ⟨(h.block _ hxl).trans BX.out, Nat.lt_of_lt_of_le hxl h.size⟩)
      go_region_held3 (fun (X : World) => Below w.heap.size w X ∧ X.heap[wr.heap.size]? = some (.cells #[.int .i16 xi.c, .int .u8 xi.m0, .int .u8 xi.m1, .int .u8 xi.m2, .int .i16 xi.v, .int .i16 xi.wi, .int .i16 xi.hi, .int .i16 xi.we] 42 (0, 0)) ∧ X.cell? ⟨wr.heap.size, 0, none⟩ = some (.int .i16 xi.c) ∧ X.cell? ⟨wr.heap.size, 1, none⟩ = some (.int .u8 xi.m0) ∧ X.cell? ⟨wr.heap.size, 2, none⟩ = some (.int .u8 xi.m1) ∧ X.cell? ⟨wr.heap.size, 3, none⟩ = some (.int .u8 xi.m2) ∧ X.cell? ⟨wr.heap.size, 4, none⟩ = some (.int .i16 xi.v) ∧ X.cell? ⟨wr.heap.size, 5, none⟩ = some (.int .i16 xi.wi) ∧ X.cell? ⟨wr.heap.size, 6, none⟩ = some (.int .i16 xi.hi) ∧ X.cell? ⟨wr.heap.size, 7, none⟩ = some (.int .i16 xi.we)) (first | assumption | exact SD.out | exact SZ9.out | exact SAp.out | (with_reducible exact SK.out _ _ hq (by assumption)) | exact SK.out _ _ ((Below.refl _ _).alloc (Nat.le_refl _) _) (by assumption)) (first
        | (go_at_call 37; refine (LT.out _).mono ?_; rintro e w' ⟨rfl, hq⟩
           first
           | (have CA2 := Lib.hid (CA.out.below hq); have BB2 := Lib.hid (bnext BB.out hq); have HF2 := Lib.hid ((hq.block _ HFL.out).trans HF9.out); obtain ⟨W9, hput, hI9, hg9⟩ := CA2.out.put WK.out; rw [hkk] at hput; have HI9 := Lib.hid hI9; have HB9 := Lib.hid (BB2.out.grown hg9 BB2.out.size (fun j hj => by injection hj with hj; omega)); have SZ9 := Lib.hid (MK.out W9 HB9.out ((hg9.block _ (Nat.lt_of_lt_of_le HFL.out hq.size) (fun e => by injection e with e; omega)).trans HF2.out)); clear hI9 hg9)
           | (have NW := Lib.hid (kept_more NW.out hq); have P1 := Lib.hid (bnext P1.out hq); have hlk := HLK.out _ (G1.out.below P1.out))
           | (have P1 := Lib.hid (show Below W1.heap.size W1 w' by with_reducible exact bnext P1.out hq); have hlk := HLK.out _ (G1.out.below P1.out); have hlkA := fun o => HLK.out _ (G1.out.below (P1.out.alloc P1.out.size o)))
           | (have NW := Lib.hid (new_kept hq); have P1 := Lib.hid (bnext (P1.out.alloc P1.out.size _) hq); have hlk := HLK.out _ (G1.out.below P1.out))
           | (have NW := Lib.hid (kept_more (show NewAt (W1.alloc (.cells #[.int .i64 (i : Int)] 2)).drew W1.heap.size (.int .i64 (i : Int)) from ⟨cell_one_new W1 _ _, by show W1.heap.size < (W1.alloc (.cells #[.int .i64 (i : Int)] 2)).heap.size; simp⟩) hq); have P1 := Lib.hid (bnext (show Below W1.heap.size W1 (W1.alloc (.cells #[.int .i64 (i : Int)] 2)).drew from ((Below.refl _ _).alloc (Nat.le_refl _) _).drew) hq); have hlk := HLK.out _ (G1.out.below P1.out)))
        | (refine step_append_at _ rfl (.tmp 31) (.tmp 33) _ rfl (w.heap.size + 1) 2 i0 (.int .i64 0) 1 8 Try.underlying24 hi0 hz0 hz1 hz2 rfl (by decide) (g k) (PL xs k i).length (IL (PL xs k i)) rfl (by first | (with_reducible exact (OWF.out _ P1.out).1) | exact (OWF.out _ (P1.out.alloc P1.out.size _)).1) _ 1 1 [.int .i64 (i : Int)] rfl rfl (by first | exact cell_one_new _ _ _ | exact NW.out.1) (by intro u hu; simp at hu; subst hu; rfl) (by unfold maxLen; omega) (by omega) (by first | (with_reducible exact (OWF.out _ P1.out).2) | exact (OWF.out _ (P1.out.alloc P1.out.size _)).2) ?_
           intro v9 w9 hown hgrow hat
           have hown := Lib.hid (show w9.ownsRow (w.heap.size + 1) 2 1 v9 (PL xs k i ++ [(i : Int)]).length (IL (PL xs k i ++ [(i : Int)])) by unfold IL at *; rw [List.length_append, List.map_append]; exact hown)
           first
           | (have CA := Lib.hid (show GrA w9 w.heap.size (w.heap.size + 1) i g (fun k => PL xs k i) k v9 (PL xs k i ++ [(i : Int)]) by with_reducible exact (G1.out.below P1.out).append WK.out hown.out hgrow hat); have BB := Lib.hid ((bnext B1.out P1.out).grown hgrow (bnext B1.out P1.out).size (fun j hj => by have := (BG.out j hj).1; omega)); have HFL := Lib.hid (Nat.lt_of_lt_of_le (HFX.out _ P1.out).2 hgrow.size); have HF9 := Lib.hid ((hgrow.block _ (HFX.out _ P1.out).2 (fun e => by have := (BG.out _ e.symm).2; omega)).trans (HFX.out _ P1.out).1))
           | (have P2 := Lib.hid (P1.out.alloc P1.out.size (.cells #[.int .i64 (i : Int)] 2)); have CA := Lib.hid ((G1.out.below P2.out).append WK.out hown.out hgrow hat); have BB := Lib.hid ((bnext B1.out P2.out).grown hgrow (bnext B1.out P2.out).size (fun j hj => by have := (BG.out j hj).1; omega)); have HFL := Lib.hid (Nat.lt_of_lt_of_le (HFX.out _ P2.out).2 hgrow.size); have HF9 := Lib.hid ((hgrow.block _ (HFX.out _ P2.out).2 (fun e => by have := (BG.out _ e.symm).2; omega)).trans (HFX.out _ P2.out).1))
           have SAp := Lib.hid (MK.out w9 BB.out HF9.out)
           obtain ⟨W9, hput, hI9, hg9⟩ := CA.out.put WK.out
           rw [hkk] at hput
           have HI9 := Lib.hid hI9
           have HB9 := Lib.hid (BB.out.grown hg9 BB.out.size (fun j hj => by injection hj with hj; omega))
           have SZ9 := Lib.hid (MK.out W9 HB9.out ((hg9.block _ HFL.out (fun e => by injection e with e; omega)).trans HF9.out))
           clear hI9 hg9))
      all_goals
        rw [PS.out] at HI9
        go_wp2
        go_roundw
        case rel => exact ⟨i + 1, _, by omega, by go_num, HI9.out, HB9.out⟩
        case measure => simp [intOf]; omega
    · obtain rfl : i = xs.length := by omega
      obtain ⟨wo, rfl⟩ : ∃ wo : World, wo = wr := ⟨_, rfl⟩
      have R0 := Lib.hid (show GrR wo w.heap.size wo.heap.size xs.length g (fun k => (PL xs k xs.length).drop (cntT ttl ws k 0)) from GrR.of_GrI HG.out)
      have zB := HB.out.size
      have wlo : w.heap.size < wo.heap.size := HG.out.1.lt
      have U0 := Lib.hid (show wo.ownsRow wo.heap.size 2 1 (.slice none 0 0) (tkI xs ws 0).length ((tkI xs ws 0).map (Value.int .i64)) from ⟨rfl, .inl ⟨rfl, rfl⟩⟩)
      go_wp2
      go_loopw [11, 38] (fun u_ i_ wr => ∃ (u : Value) (j n : Nat) (g2 : Bk → Value), u = u_ ∧ j ≤ ws.length ∧ i_ = .int .i64 (j : Int) ∧ TkOk ttl xs ws j ∧ GrR wr w.heap.size wo.heap.size n g2 (fun k => (PL xs k xs.length).drop (cntT ttl ws k j)) ∧ wr.ownsRow wo.heap.size 2 1 u (tkI xs ws j).length ((tkI xs ws j).map (Value.int .i64)) ∧ Below w.heap.size w wr ∧ wo.heap.size ≤ wr.heap.size) (fun _ i_ _ => ws.length - (intOf i_).toNat)
      case atStart => exact ⟨_, 0, _, _, rfl, Nat.zero_le _, rfl, (fun i hi => absurd hi (Nat.not_lt_zero _)), R0.out, U0.out, HB.out, Nat.le_refl _⟩
      case round =>
        clear R0 U0 HG HB
        obtain ⟨u, j, n, g2, rfl, hj, rfl, htk, hgr, hown, hb, hz⟩ := hrel
        have TK := Lib.hid htk
        have HR := Lib.hid hgr
        have OU := Lib.hid hown
        have HB := Lib.hid hb
        have TL := tkI_len xs ws j
        clear htk hgr hown hb
        by_cases hlt : j < ws.length
        · obtain ⟨ga, oa, rfl, hga, hat⟩ := HW.out (by omega)
          obtain ⟨p0, p1, p2, p3, p4, p5, p6, p7⟩ := booksAt_some (hat.below HB.out hga) hlt
          have WK := Lib.hid (ttl_wf (WW.out _ (List.getElem_mem hlt)))
          have GJ := Lib.hid (getD_nth hlt)
          have CS := Lib.hid (fun k => cnt_succ ttl (ws := ws) k hlt)
          clear hat
          generalize ws[j] = bj at *
          have GX := Lib.hid (show Below wo.heap.size wr (wr.alloc (.cells #[.int .i16 bj.c, .int .u8 bj.m0, .int .u8 bj.m1, .int .u8 bj.m2, .int .i16 bj.v, .int .i16 bj.wi, .int .i16 bj.hi, .int .i16 bj.we] 42)) from (Below.refl _ _).alloc hz _)
          have GW := Lib.hid (show Below wr.heap.size wr (wr.alloc (.cells #[.int .i16 bj.c, .int .u8 bj.m0, .int .u8 bj.m1, .int .u8 bj.m2, .int .i16 bj.v, .int .i16 bj.wi, .int .i16 bj.hi, .int .i16 bj.we] 42)) from (Below.refl _ _).alloc (Nat.le_refl _) _)
          have BX := Lib.hid (heap_alloc_new wr (.cells #[.int .i16 bj.c, .int .u8 bj.m0, .int .u8 bj.m1, .int .u8 bj.m2, .int .i16 bj.v, .int .i16 bj.wi, .int .i16 bj.hi, .int .i16 bj.we] 42))
          have LT := Lib.hid (fun W => title_any bj W)
          generalize hk : ttl bj = k at *
          have HK := Lib.hid hk
          clear hk
          go_upto_region 11 with (fail)
          generalize World.alloc wr _ = W1 at GX GW BX ⊢
          clear p0 p1 p2 p3 p4 p5 p6 p7
          have hxl : wr.heap.size < W1.heap.size := (Array.getElem?_eq_some_iff.1 BX.out).1
          have B1 := Lib.hid (bnext HB.out GW.out)
          have R1 := Lib.hid (HR.out.below GX.out)
          have U1 := Lib.hid (ownBelow OU.out GW.out)
          generalize hkk : bkV k = kv at LT
          have b0 : W1.cell? ⟨wr.heap.size, 0, none⟩ = some (.int .i16 bj.c) := cell_of_row W1 _ 0 _ _ _ BX.out
          have b1 : W1.cell? ⟨wr.heap.size, 1, none⟩ = some (.int .u8 bj.m0) := cell_of_row W1 _ 1 _ _ _ BX.out
          have b2 : W1.cell? ⟨wr.heap.size, 2, none⟩ = some (.int .u8 bj.m1) := cell_of_row W1 _ 2 _ _ _ BX.out
          have b3 : W1.cell? ⟨wr.heap.size, 3, none⟩ = some (.int .u8 bj.m2) := cell_of_row W1 _ 3 _ _ _ BX.out
          have b4 : W1.cell? ⟨wr.heap.size, 4, none⟩ = some (.int .i16 bj.v) := cell_of_row W1 _ 4 _ _ _ BX.out
          have b5 : W1.cell? ⟨wr.heap.size, 5, none⟩ = some (.int .i16 bj.wi) := cell_of_row W1 _ 5 _ _ _ BX.out
          have b6 : W1.cell? ⟨wr.heap.size, 6, none⟩ = some (.int .i16 bj.hi) := cell_of_row W1 _ 6 _ _ _ BX.out
          have b7 : W1.cell? ⟨wr.heap.size, 7, none⟩ = some (.int .i16 bj.we) := cell_of_row W1 _ 7 _ _ _ BX.out
          go_wp2_with fail
          refine (LT.out _).mono ?_
          rintro e w2 ⟨rfl, h2⟩
          have zW : wo.heap.size ≤ W1.heap.size := Nat.le_trans hz GW.out.size
          have R2 := Lib.hid (R1.out.below (h2.mono zW))
          have U2 := Lib.hid (ownBelow U1.out h2)
          have B2 := Lib.hid (bnext B1.out h2)
          have X2 := Lib.hid ((h2.block _ hxl).trans BX.out)
          have R2z := Lib.hid h2.size
          have NO := Lib.hid (show (PL xs k xs.length).drop (cntT ttl ws k j) = [] → ¬ TkOk ttl xs ws ws.length from fun e0 h => by
            have h1 := h j hlt
            rw [GJ.out, HK.out] at h1
            rw [List.drop_eq_nil_iff] at e0
            unfold PL at e0
            rw [List.length_map] at e0
            omega)
          clear b0 b1 b2 b3 b4 b5 b6 b7 h2
          have hlk : (Instr.lookup 82 (.map (some w.heap.size)) kv false).run Try.prog w2 = .ok (g2 k) w2 := by rw [← hkk]; exact R2.out.1.look k WK.out
          rcases R2.out.2.2 k WK.out with ⟨e1, e0⟩ | ⟨gb, o, cc, e1, hle, hlo, hgB, hia⟩
          · rw [e1] at hlk
            have NN := Lib.hid (NO.out e0)
            clear e0
            go_wp2
            go_ret2
            exact ⟨_, _, rfl, .inr ⟨NN.out, rfl⟩, B2.out⟩
          · dsimp only at e1 hle hia
            by_cases h0 : (PL xs k xs.length).drop (cntT ttl ws k j) = []
            · have NN := Lib.hid (NO.out h0)
              rw [h0] at e1
              rw [e1] at hlk
              go_wp2
              go_ret2
              exact ⟨_, _, rfl, .inr ⟨NN.out, rfl⟩, B2.out⟩
            · have hlen : 0 < ((PL xs k xs.length).drop (cntT ttl ws k j)).length := List.length_pos_iff.2 h0
              have hcl : cntT ttl ws k j < (PL xs k xs.length).length := by rw [List.length_drop] at hlen; omega
              have hcp : cntT ttl ws k j < (plc ttl xs k xs.length).length := by unfold PL at hcl; rwa [List.length_map] at hcl
              have T1 := Lib.hid (show TkOk ttl xs ws (j + 1) from fun i hi => by
                by_cases e : i = j
                · rw [e, GJ.out, HK.out]; exact hcp
                · exact TK.out i (by omega))
              obtain ⟨z, hz9⟩ : ∃ z : Int, z = ((PL xs k xs.length).drop (cntT ttl ws k j))[0] := ⟨_, rfl⟩
              have T2 := Lib.hid (show tkI xs ws (j + 1) = tkI xs ws j ++ [z] by
                rw [hz9]
                unfold tkI
                rw [tkTo, GJ.out, HK.out, List.map_append]
                congr 1
                rw [List.getElem_drop]
                unfold PL
                rw [List.getElem_map]
                simp [List.getD, List.getElem?_eq_getElem hcp])
              have FE := Lib.hid (show updF (fun k => (PL xs k xs.length).drop (cntT ttl ws k j)) k (((PL xs k xs.length).drop (cntT ttl ws k j)).drop 1) = fun k => (PL xs k xs.length).drop (cntT ttl ws k (j + 1)) from by
                funext y
                unfold updF
                show (if k = y then _ else _) = _
                rw [CS.out y, GJ.out, HK.out]
                by_cases e : k = y
                · subst e
                  rw [if_pos rfl, if_pos rfl, List.drop_drop]
                · rw [if_neg e, if_neg e, Nat.add_zero])
              have SR := Lib.hid (SlI.rest hle hlo hgB hia hlen)
              have hia0 : w2.cell? ⟨gb, o, none⟩ = some (.int .i64 z) := by rw [hz9]; exact hia 0 hlen
              have s1 := fun W => run_restI gb o ((PL xs k xs.length).drop (cntT ttl ws k j)).length cc hlen hle W
              rw [e1] at hlk
              clear hz9 hia
              generalize hll : (PL xs k xs.length).drop (cntT ttl ws k j) = l at hlk hle hlen hia0 SR s1 T2 FE e1
              clear h0 hcl hcp NO
              have hlz : ¬ (l.length : Int) = 0 := by omega
              have hz2 := B2.out.size
              have zW2 : wo.heap.size ≤ w2.heap.size := Nat.le_trans zW (R2z.out)
              go_wp2_with (at_builtin; refine wpList_append_own _ rfl (.tmp 50) (.tmp 54) _ rfl wo.heap.size 2 i0 (.int .i64 0) 1 8 Try.underlying24 hi0 hz0 hz1 (by assumption) rfl (by decide) _ _ _ rfl (U2.out.alloc _) ⟨w2.heap.size, 0, none⟩ 1 1 [.int .i64 z] rfl rfl ?c1 ?c2 ?c3 ?c4 ?c5 ?_)
              case c1 => exact cell_one_new _ _ _
              case c2 => (intro u hu; simp at hu; subst hu; rfl)
              case c3 => (unfold maxLen; omega)
              case c4 => omega
              case c5 => (simp; omega)
              intro v' w4 hown' hgrow' _
              have OC := Lib.hid (show w4.ownsRow wo.heap.size 2 1 v' (tkI xs ws (j + 1)).length ((tkI xs ws (j + 1)).map (Value.int .i64)) by rw [T2.out, List.length_append, List.map_append, TL]; exact hown')
              have ub := Lib.hid (fun q (hq : u.ownBlock = some q) => OU.out.lt q hq)
              have B4 := Lib.hid ((B2.out.alloc hz2 _).grown hgrow' (by simp; omega) (fun q hq => by have := (ub.out q hq).1; omega))
              have O4 := Lib.hid (show Below wo.heap.size w2 w4 from ((Below.refl w2.heap.size w2).mono zW2 |>.alloc zW2 _).grown hgrow' (by simp; omega) (fun q hq => (ub.out q hq).1))
              have R4 := Lib.hid (R2.out.below O4.out)
              have S4 := Lib.hid (SR.out.below O4.out)
              have lx2 : wr.heap.size < w2.heap.size := (Array.getElem?_eq_some_iff.1 X2.out).1
              have X4 := Lib.hid ((hgrow'.block wr.heap.size (by simp; omega) (fun e => by have := (ub.out _ e.symm).2; omega)).trans ((Below.heap_alloc _ _ _ lx2).trans X2.out))
              have z4 := O4.out.size
              have lx4 : wr.heap.size < w4.heap.size := (Array.getElem?_eq_some_iff.1 X4.out).1
              clear hown' hgrow' hia0 hlk
              have MK := Lib.hid (show ∀ X : World, Below w.heap.size w X → X.heap[wr.heap.size]? = some (.cells #[.int .i16 bj.c, .int .u8 bj.m0, .int .u8 bj.m1, .int .u8 bj.m2, .int .i16 bj.v, .int .i16 bj.wi, .int .i16 bj.hi, .int .i16 bj.we] 42 (0, 0)) → (fun (X : World) => Below w.heap.size w X ∧ X.heap[wr.heap.size]? = some (.cells #[.int .i16 bj.c, .int .u8 bj.m0, .int .u8 bj.m1, .int .u8 bj.m2, .int .i16 bj.v, .int .i16 bj.wi, .int .i16 bj.hi, .int .i16 bj.we] 42 (0, 0)) ∧ X.cell? ⟨wr.heap.size, 0, none⟩ = some (.int .i16 bj.c) ∧ X.cell? ⟨wr.heap.size, 1, none⟩ = some (.int .u8 bj.m0) ∧ X.cell? ⟨wr.heap.size, 2, none⟩ = some (.int .u8 bj.m1) ∧ X.cell? ⟨wr.heap.size, 3, none⟩ = some (.int .u8 bj.m2) ∧ X.cell? ⟨wr.heap.size, 4, none⟩ = some (.int .i16 bj.v) ∧ X.cell? ⟨wr.heap.size, 5, none⟩ = some (.int .i16 bj.wi) ∧ X.cell? ⟨wr.heap.size, 6, none⟩ = some (.int .i16 bj.hi) ∧ X.cell? ⟨wr.heap.size, 7, none⟩ = some (.int .i16 bj.we)) X from fun X h2 h3 =>
                ⟨h2, h3, cell_of_row X _ 0 _ _ _ h3, cell_of_row X _ 1 _ _ _ h3, cell_of_row X _ 2 _ _ _ h3, cell_of_row X _ 3 _ _ _ h3, cell_of_row X _ 4 _ _ _ h3, cell_of_row X _ 5 _ _ _ h3, cell_of_row X _ 6 _ _ _ h3, cell_of_row X _ 7 _ _ _ h3⟩)
              have SK := Lib.hid (show ∀ X Y : World, Below X.heap.size X Y → (fun (X : World) => Below w.heap.size w X ∧ X.heap[wr.heap.size]? = some (.cells #[.int .i16 bj.c, .int .u8 bj.m0, .int .u8 bj.m1, .int .u8 bj.m2, .int .i16 bj.v, .int .i16 bj.wi, .int .i16 bj.hi, .int .i16 bj.we] 42 (0, 0)) ∧ X.cell? ⟨wr.heap.size, 0, none⟩ = some (.int .i16 bj.c) ∧ X.cell? ⟨wr.heap.size, 1, none⟩ = some (.int .u8 bj.m0) ∧ X.cell? ⟨wr.heap.size, 2, none⟩ = some (.int .u8 bj.m1) ∧ X.cell? ⟨wr.heap.size, 3, none⟩ = some (.int .u8 bj.m2) ∧ X.cell? ⟨wr.heap.size, 4, none⟩ = some (.int .i16 bj.v) ∧ X.cell? ⟨wr.heap.size, 5, none⟩ = some (.int .i16 bj.wi) ∧ X.cell? ⟨wr.heap.size, 6, none⟩ = some (.int .i16 bj.hi) ∧ X.cell? ⟨wr.heap.size, 7, none⟩ = some (.int .i16 bj.we)) X → (fun (X : World) => Below w.heap.size w X ∧ X.heap[wr.heap.size]? = some (.cells #[.int .i16 bj.c, .int .u8 bj.m0, .int .u8 bj.m1, .int .u8 bj.m2, .int .i16 bj.v, .int .i16 bj.wi, .int .i16 bj.hi, .int .i16 bj.we] 42 (0, 0)) ∧ X.cell? ⟨wr.heap.size, 0, none⟩ = some (.int .i16 bj.c) ∧ X.cell? ⟨wr.heap.size, 1, none⟩ = some (.int .u8 bj.m0) ∧ X.cell? ⟨wr.heap.size, 2, none⟩ = some (.int .u8 bj.m1) ∧ X.cell? ⟨wr.heap.size, 3, none⟩ = some (.int .u8 bj.m2) ∧ X.cell? ⟨wr.heap.size, 4, none⟩ = some (.int .i16 bj.v) ∧ X.cell? ⟨wr.heap.size, 5, none⟩ = some (.int .i16 bj.wi) ∧ X.cell? ⟨wr.heap.size, 6, none⟩ = some (.int .i16 bj.hi) ∧ X.cell? ⟨wr.heap.size, 7, none⟩ = some (.int .i16 bj.we)) Y from fun X Y hb h => MK.out Y (bnext h.1 hb) ((hb.block _ (Array.getElem?_eq_some_iff.1 h.2.1).1).trans h.2.1))
              have SD := Lib.hid (MK.out w4.drew B4.out.drew X4.out)
              have hwz : w.heap.size < wr.heap.size := by omega
              go_wp2
              go_region_held3 (fun (X : World) => Below w.heap.size w X ∧ X.heap[wr.heap.size]? = some (.cells #[.int .i16 bj.c, .int .u8 bj.m0, .int .u8 bj.m1, .int .u8 bj.m2, .int .i16 bj.v, .int .i16 bj.wi, .int .i16 bj.hi, .int .i16 bj.we] 42 (0, 0)) ∧ X.cell? ⟨wr.heap.size, 0, none⟩ = some (.int .i16 bj.c) ∧ X.cell? ⟨wr.heap.size, 1, none⟩ = some (.int .u8 bj.m0) ∧ X.cell? ⟨wr.heap.size, 2, none⟩ = some (.int .u8 bj.m1) ∧ X.cell? ⟨wr.heap.size, 3, none⟩ = some (.int .u8 bj.m2) ∧ X.cell? ⟨wr.heap.size, 4, none⟩ = some (.int .i16 bj.v) ∧ X.cell? ⟨wr.heap.size, 5, none⟩ = some (.int .i16 bj.wi) ∧ X.cell? ⟨wr.heap.size, 6, none⟩ = some (.int .i16 bj.hi) ∧ X.cell? ⟨wr.heap.size, 7, none⟩ = some (.int .i16 bj.we)) (first | assumption | exact SD.out | exact SZ9.out | (with_reducible exact SK.out _ _ hq (by assumption))) (first
                | (go_at_call 37; refine (LT.out _).mono ?_; rintro e w' ⟨rfl, hq⟩
                   have R5 := Lib.hid (R4.out.below (Below.trans (Below.drew (Below.refl wo.heap.size w4)) (hq.mono (show wo.heap.size ≤ w4.drew.heap.size from Nat.le_trans zW2 z4))))
                   have S5 := Lib.hid (S4.out.below (Below.trans (Below.drew (Below.refl wo.heap.size w4)) (hq.mono (show wo.heap.size ≤ w4.drew.heap.size from Nat.le_trans zW2 z4))))
                   have zq := Lib.hid (show w4.heap.size ≤ w'.heap.size from hq.size)
                   have OC5 := Lib.hid (ownBelow (show w4.drew.ownsRow wo.heap.size 2 1 v' (tkI xs ws (j + 1)).length ((tkI xs ws (j + 1)).map (Value.int .i64)) from OC.out) hq)
                   have B5 := Lib.hid (bnext B4.out.drew hq)
                   have X5 := Lib.hid ((hq.block _ (show wr.heap.size < w4.drew.heap.size from lx4)).trans (show w4.drew.heap[wr.heap.size]? = _ from X4.out))
                   obtain ⟨W9, hput, hR9, hg9⟩ := R5.out.put (by have := zq.out; omega) WK.out S5.out
                   rw [hkk] at hput
                   have HR9 := Lib.hid hR9
                   have HB9 := Lib.hid (B5.out.grown hg9 B5.out.size (fun q hq => by injection hq with hq; omega))
                   have HO9 := Lib.hid (own_other OC5.out hg9 (fun q hq e => by have := (own_lt OC5.out hq).1; injection e with e; omega))
                   have HZ9 := Lib.hid (Nat.le_trans zq.out hg9.size)
                   have SZ9 := Lib.hid (MK.out W9 HB9.out ((hg9.block _ (Nat.lt_of_lt_of_le lx4 zq.out) (fun e => by injection e with e; omega)).trans X5.out))
                   clear hR9 hg9))
              all_goals
                rw [FE.out] at HR9
                go_wp2
                go_roundw
                case rel => exact ⟨_, j + 1, _, _, rfl, by omega, by go_num, T1.out, HR9.out, HO9.out, HB9.out, by have := HZ9.out; omega⟩
                case measure => simp [intOf]; omega
        · obtain rfl : j = ws.length := by omega
          go_wp2
          go_ret2
          exact ⟨_, _, rfl, .inl ⟨TK.out, rfl, own_low OU.out zB⟩, HB.out⟩
set_option maxHeartbeats 4000000 in
theorem walkTo_any (v0 v1 : Value) (xs ws : List Bk) (wf : ∀ b ∈ xs, b.Wf) (wfw : ∀ b ∈ ws, b.Wf) (w : World) (hs : SliceOf w v0 xs) (hs1 : SliceOf w v1 ws) (hm : xs.length ≤ maxLen) (hmw : ws.length ≤ maxLen) :
    Calls Try.prog 15 #[v0, v1] w fun e w' => ∃ u, e = .returned (.tuple #[u, .int .i64 (wtC xs ws)]) ∧ w'.ownsRow w.heap.size 2 1 u (wtL xs ws).length ((wtL xs ws).map (Value.int .i64)) ∧ Below w.heap.size w w' := by
  have SL := Lib.hid hs
  have SW := Lib.hid hs1
  have NIL := Lib.hid (fun (W : World) => show W.ownsRow w.heap.size 2 1 (.slice none 0 0) 0 [] from ⟨rfl, .inl ⟨rfl, rfl⟩⟩)
  have LT := Lib.hid (fun W (h : SliceOf W v0 xs) (h1 : SliceOf W v1 ws) hx hw => takeInTurn_any v0 v1 xs ws wf wfw W h h1 hx hw)
  obtain ⟨A, c, rfl, -⟩ := hs
  obtain ⟨A1, c1, rfl, -⟩ := hs1
  clear wf wfw
  cases hok : okB xs
  · obtain ⟨e1, e2⟩ := wt_inv (ws := ws) (.inl hok)
    rw [e1, e2]
    go_enter Try.func15, Try.ntmps15
    go_wp2_with fail
    refine (validBooks_any _ xs _ SL.out hm).mono ?_
    rintro e w1 ⟨rfl, h1⟩
    rw [hok]
    go_wp2
    go_ret2
    exact ⟨_, rfl, NIL.out _, h1⟩
  · cases hokw : okB ws
    · obtain ⟨e1, e2⟩ := wt_inv (xs := xs) (.inr hokw)
      rw [e1, e2]
      go_enter Try.func15, Try.ntmps15
      go_wp2_with fail
      refine (validBooks_any _ xs _ SL.out hm).mono ?_
      rintro e w1 ⟨rfl, h1⟩
      rw [hok]
      go_wp2_with fail
      refine (validBooks_any _ ws _ (SW.out.below h1) hmw).mono ?_
      rintro e w2 ⟨rfl, h2⟩
      rw [hokw]
      go_wp2
      go_ret2
      exact ⟨_, rfl, NIL.out _, bnext h1 h2⟩
    · have x60 : xs.length ≤ 60 := by have h := hok; unfold okB at h; simp at h; exact h.2
      have w60 : ws.length ≤ 60 := by have h := hokw; unfold okB at h; simp at h; exact h.2
      have OK := Lib.hid (And.intro hok hokw)
      go_enter Try.func15, Try.ntmps15
      go_wp2_with fail
      refine (validBooks_any _ xs _ SL.out hm).mono ?_
      rintro e w1 ⟨rfl, h1⟩
      rw [hok]
      go_wp2_with fail
      refine (validBooks_any _ ws _ (SW.out.below h1) hmw).mono ?_
      rintro e w2 ⟨rfl, h2⟩
      rw [hokw]
      have B2 := Lib.hid (bnext h1 h2)
      clear h1 h2 hok hokw
      go_wp2_with fail
      refine (LT.out _ (SL.out.below B2.out) (SW.out.below B2.out) x60 w60).mono ?_
      rintro e w3 ⟨u, t, rfl, hr, h3⟩
      have B3 := Lib.hid (bnext B2.out h3)
      have zz := B2.out.size
      rcases hr with ⟨h4, rfl, h5⟩ | ⟨h4, rfl⟩
      · obtain ⟨e1, e2⟩ := wt_good OK.out.1 OK.out.2 h4
        have E := Lib.hid (And.intro e1 (show wtL xs ws = tkI xs ws ws.length from e2))
        have O5 := Lib.hid (own_low h5 zz)
        clear h4 h5 e1 e2 h3
        go_wp2
        go_ret2
        exact ⟨_, by rw [E.out.1]; rfl, by rw [E.out.2]; exact O5.out, B3.out⟩
      · obtain ⟨e1, e2⟩ := wt_none OK.out.1 OK.out.2 h4
        have E := Lib.hid (And.intro e1 e2)
        clear h4 e1 e2 h3
        go_wp2
        go_ret2
        exact ⟨_, by rw [E.out.1]; rfl, by rw [E.out.2]; exact NIL.out _, B3.out⟩
end

end Go.Proofs.Ytecpddkbbfpeeaa
