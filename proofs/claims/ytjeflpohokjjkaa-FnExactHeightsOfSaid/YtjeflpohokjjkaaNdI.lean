/- What books need on pegs, by the program: contracts. Condition: valid pegs, at most 60 valid books. -/
import Derived.Test.YtjeflpohokjjkaaNdS
import Derived.Test.YtjeflpohokjjkaaFrom
import Derived.Test.YtjeflpohokjjkaaQTail
import Derived.Test.YtjeflpohokjjkaaResC
import Derived.Deep.Cut
import Derived.Deep.CutRange
namespace Go.Proofs.Ytjeflpohokjjkaa
set_option linter.unusedSimpArgs false
set_option linter.unusedVariables false
set_option maxRecDepth 100000
open Go.RowKit Go.Shelf
attribute [local go_sem] Oper.semAt_some

/-- Block g is a box of a need. -/
def NB (W : World) (g : Nat) (n : Nd) : Prop := W.heap[g]? = some (.cells #[.int .i64 n.hi, .int .i64 n.wd, .int .i64 n.ar] 54 (0, 0))
section
variable {W W' : World} {g : Nat} {n : Nd}
theorem NB.lt (h : NB W g n) : g < W.heap.size := (Array.getElem?_eq_some_iff.1 h).1
theorem NB.c0 (h : NB W g n) : W.cell? ⟨g, 0, none⟩ = some (.int .i64 n.hi) := cell_of_row W g 0 _ _ _ h
theorem NB.c1 (h : NB W g n) : W.cell? ⟨g, 1, none⟩ = some (.int .i64 n.wd) := cell_of_row W g 1 _ _ _ h
theorem NB.c2 (h : NB W g n) : W.cell? ⟨g, 2, none⟩ = some (.int .i64 n.ar) := cell_of_row W g 2 _ _ _ h
theorem NB.fz (h : NB W g n) (i : Nat) : W.frozen? ⟨g, i, none⟩ = false := frozen_of_row W g i _ _ h
theorem NB.later (h : NB W g n) (hb : Below W.heap.size W W') : NB W' g n := (hb.block g h.lt).trans h
theorem NB.put (h : NB W g n) (x y z : Int) : NB (((W.setCell ⟨g, 0, none⟩ (.int .i64 x)).setCell ⟨g, 1, none⟩ (.int .i64 y)).setCell ⟨g, 2, none⟩ (.int .i64 z)) g ⟨x, y, z⟩ := by
  unfold NB at *
  have h1 := heap_setCell_same _ _ 0 _ _ (.int .i64 x) h
  have h2 := heap_setCell_same _ _ 1 _ _ (.int .i64 y) h1
  have h3 := heap_setCell_same _ _ 2 _ _ (.int .i64 z) h2
  simpa using h3
end
set_option maxHeartbeats 1000000 in
theorem with_any (a b : Nd) (ha : (0 ≤ a.wd ∧ a.wd ≤ 1000000) ∧ (0 ≤ a.ar ∧ a.ar ≤ 100000000)) (hb : (0 ≤ b.wd ∧ b.wd ≤ 1000000) ∧ (0 ≤ b.ar ∧ b.ar ≤ 100000000)) (w : World) :
    Calls Try.prog 37 #[.agg #[.int .i64 a.hi, .int .i64 a.wd, .int .i64 a.ar], .agg #[.int .i64 b.hi, .int .i64 b.wd, .int .i64 b.ar]] w fun e w' => e = .returned (.agg #[.int .i64 b.hi, .int .i64 (a.wd + b.wd), .int .i64 (a.ar + b.ar)]) ∧ Below w.heap.size w w' := by
  have s1 : IntKind.i64.wrap (a.wd + b.wd) = a.wd + b.wd := IntWalk.i64_in _ (by omega)
  have s2 : IntKind.i64.wrap (a.ar + b.ar) = a.ar + b.ar := IntWalk.i64_in _ (by omega)
  have s3 : wrap64 (a.wd + b.wd) = a.wd + b.wd := by unfold wrap64; omega
  have s4 : wrap64 (a.ar + b.ar) = a.ar + b.ar := by unfold wrap64; omega
  have S1 := Lib.hid s1
  have S2 := Lib.hid s2
  obtain ⟨p, hp⟩ : ∃ p, p = w.heap.size := ⟨_, rfl⟩
  have N0 := Lib.hid (show NB (w.alloc (.cells #[.int .i64 a.hi, .int .i64 a.wd, .int .i64 a.ar] 54)) w.heap.size a from heap_alloc_new w _)
  have B0 := Lib.hid (show Below w.heap.size w (w.alloc (.cells #[.int .i64 a.hi, .int .i64 a.wd, .int .i64 a.ar] 54)) from (Below.refl _ _).alloc (Nat.le_refl _) _)
  clear ha hb
  go_enter Try.func37, Try.ntmps37
  go_upto_region 1 with (fail)
  have N1 := Lib.hid (show NB ((w.alloc (.cells #[.int .i64 a.hi, .int .i64 a.wd, .int .i64 a.ar] 54)).alloc (.cells #[.int .i64 b.hi, .int .i64 b.wd, .int .i64 b.ar] 54)) (w.heap.size + 1) b from by have h := heap_alloc_new (w.alloc (.cells #[.int .i64 a.hi, .int .i64 a.wd, .int .i64 a.ar] 54)) (.cells #[.int .i64 b.hi, .int .i64 b.wd, .int .i64 b.ar] 54); rw [World.size_alloc] at h; exact h)
  have N0 := Lib.hid (N0.out.later ((Below.refl _ _).alloc (Nat.le_refl _) (.cells #[.int .i64 b.hi, .int .i64 b.wd, .int .i64 b.ar] 54)))
  have B1 := Lib.hid (B0.out.alloc B0.out.size (.cells #[.int .i64 b.hi, .int .i64 b.wd, .int .i64 b.ar] 54))
  have hs1 : ((w.alloc (.cells #[.int .i64 a.hi, .int .i64 a.wd, .int .i64 a.ar] 54)).alloc (.cells #[.int .i64 b.hi, .int .i64 b.wd, .int .i64 b.ar] 54)).heap.size = w.heap.size + 1 + 1 := by simp
  have N2 := Lib.hid (show NB (((w.alloc (.cells #[.int .i64 a.hi, .int .i64 a.wd, .int .i64 a.ar] 54)).alloc (.cells #[.int .i64 b.hi, .int .i64 b.wd, .int .i64 b.ar] 54)).alloc (.cells #[.int .i64 0, .int .i64 0, .int .i64 0] 54)) (w.heap.size + 1 + 1) ⟨0, 0, 0⟩ from by have h := heap_alloc_new ((w.alloc (.cells #[.int .i64 a.hi, .int .i64 a.wd, .int .i64 a.ar] 54)).alloc (.cells #[.int .i64 b.hi, .int .i64 b.wd, .int .i64 b.ar] 54)) (.cells #[.int .i64 0, .int .i64 0, .int .i64 0] 54); rwa [hs1] at h)
  have N0 := Lib.hid (N0.out.later ((Below.refl _ _).alloc (Nat.le_refl _) (.cells #[.int .i64 0, .int .i64 0, .int .i64 0] 54)))
  have N1 := Lib.hid (N1.out.later ((Below.refl _ _).alloc (Nat.le_refl _) (.cells #[.int .i64 0, .int .i64 0, .int .i64 0] 54)))
  have B2 := Lib.hid (B1.out.alloc B1.out.size (.cells #[.int .i64 0, .int .i64 0, .int .i64 0] 54))
  clear hs1 B0 B1
  generalize World.alloc _ _ = W3 at N0 N1 N2 B2 ⊢
  have a1 := N0.out.c1
  have a2 := N0.out.c2
  have b0 := N1.out.c0
  have b1 := N1.out.c1
  have b2 := N1.out.c2
  have z0 := N2.out.c0
  have z1 := N2.out.c1
  have z2 := N2.out.c2
  have fz := N2.out.fz
  have NF := Lib.hid (N2.out.put b.hi (a.wd + b.wd) (a.ar + b.ar))
  have BF := Lib.hid (((B2.out.setCell (p := ⟨w.heap.size + 1 + 1, 0, none⟩) (by show _ ≤ _; simp only; omega) (.int .i64 b.hi)).setCell (p := ⟨w.heap.size + 1 + 1, 1, none⟩) (by show _ ≤ _; simp only; omega) (.int .i64 (a.wd + b.wd))).setCell (p := ⟨w.heap.size + 1 + 1, 2, none⟩) (by show _ ≤ _; simp only; omega) (.int .i64 (a.ar + b.ar)))
  go_wp2
  have r0 := NF.out.c0
  have r1 := NF.out.c1
  have r2 := NF.out.c2
  exact bodyPost_ret (v := .agg #[.int .i64 b.hi, .int .i64 (a.wd + b.wd), .int .i64 (a.ar + b.ar)]) (by simp [results, Try.results37, go_sem, r0, r1, r2]) rfl ⟨rfl, BF.out⟩

theorem wideKeyN_any (b : Bk) (hb : b.Wf) (w : World) :
    Calls Try.prog 39 #[.agg #[.int .i16 b.c, .int .u8 b.m0, .int .u8 b.m1, .int .u8 b.m2, .int .i16 b.v, .int .i16 b.wi, .int .i16 b.hi, .int .i16 b.we]] w fun e w' => e = .returned (.int .i64 b.wi) ∧ Below w.heap.size w w' := by
  have G0 := Lib.hid (show Below w.heap.size w (w.alloc (.cells #[.int .i16 b.c, .int .u8 b.m0, .int .u8 b.m1, .int .u8 b.m2, .int .i16 b.v, .int .i16 b.wi, .int .i16 b.hi, .int .i16 b.we] 46)) by go_grown)
  obtain ⟨h1, h2⟩ := hb.wi
  go_enter Try.func39, Try.ntmps39
  go_wp2
  go_ret
  exact ⟨rfl, G0.out⟩
theorem highKeyN_any (b : Bk) (hb : b.Wf) (w : World) :
    Calls Try.prog 36 #[.agg #[.int .i16 b.c, .int .u8 b.m0, .int .u8 b.m1, .int .u8 b.m2, .int .i16 b.v, .int .i16 b.wi, .int .i16 b.hi, .int .i16 b.we]] w fun e w' => e = .returned (.int .i64 b.hi) ∧ Below w.heap.size w w' := by
  have G0 := Lib.hid (show Below w.heap.size w (w.alloc (.cells #[.int .i16 b.c, .int .u8 b.m0, .int .u8 b.m1, .int .u8 b.m2, .int .i16 b.v, .int .i16 b.wi, .int .i16 b.hi, .int .i16 b.we] 46)) by go_grown)
  obtain ⟨h1, h2⟩ := hb.hi
  go_enter Try.func36, Try.ntmps36
  go_wp2
  go_ret
  exact ⟨rfl, G0.out⟩
theorem from_bk {p : Pg} (hp : pegsB p = true) {b : Bk} (hb : bookB b = true) (w : World) :
    Calls Try.prog 35 #[.agg #[.int .i16 p.lo, .int .i16 p.st, .int .i16 p.bo], .int .i64 b.hi] w fun e w' => e = .returned (.tuple #[.agg #[.int .i16 (phB p b), .int .i16 p.st, .int .i16 p.bo], .bool true]) ∧ Below w.heap.size w w' := by
  have h := from_any p hp b.hi w
  unfold fromVal at h
  rw [(phB_bd hp hb).2.2] at h
  exact h
theorem bookW {b : Bk} (h : bookB b = true) : b.Wf := by
  unfold bookB markB inB at h
  simp only [Bool.and_eq_true, decide_eq_true_eq] at h
  constructor <;> omega
/-- Block g is a box of a book. -/
def B8N (w : World) (g : Nat) (b : Bk) : Prop := w.heap[g]? = some (.cells #[.int .i16 b.c, .int .u8 b.m0, .int .u8 b.m1, .int .u8 b.m2, .int .i16 b.v, .int .i16 b.wi, .int .i16 b.hi, .int .i16 b.we] 46 (0, 0))
theorem B8N.lt {w : World} {g : Nat} {b : Bk} (h : B8N w g b) : g < w.heap.size := (Array.getElem?_eq_some_iff.1 h).1
theorem B8N.later {w w' : World} {g : Nat} {b : Bk} (h : B8N w g b) (hb : Below w.heap.size w w') : B8N w' g b := (hb.block g h.lt).trans h
theorem B8N.at_ {w : World} {g : Nat} {b : Bk} (h : B8N w g b) : w.cell? ⟨g, 0, none⟩ = some (.int .i16 b.c) ∧ w.cell? ⟨g, 1, none⟩ = some (.int .u8 b.m0) ∧ w.cell? ⟨g, 2, none⟩ = some (.int .u8 b.m1) ∧ w.cell? ⟨g, 3, none⟩ = some (.int .u8 b.m2) ∧ w.cell? ⟨g, 4, none⟩ = some (.int .i16 b.v) ∧ w.cell? ⟨g, 5, none⟩ = some (.int .i16 b.wi) ∧ w.cell? ⟨g, 6, none⟩ = some (.int .i16 b.hi) ∧ w.cell? ⟨g, 7, none⟩ = some (.int .i16 b.we) :=
  ⟨cell_of_row w g 0 _ _ _ h, cell_of_row w g 1 _ _ _ h, cell_of_row w g 2 _ _ _ h, cell_of_row w g 3 _ _ _ h, cell_of_row w g 4 _ _ _ h, cell_of_row w g 5 _ _ _ h, cell_of_row w g 6 _ _ _ h, cell_of_row w g 7 _ _ _ h⟩
/-- Block g is the variable that holds the map in block b. -/
def MBox (w : World) (g b : Nat) : Prop := w.heap[g]? = some (.cells #[.map (some b)] 68 (0, 0))
theorem MBox.lt {w : World} {g b : Nat} (h : MBox w g b) : g < w.heap.size := (Array.getElem?_eq_some_iff.1 h).1
theorem MBox.later {w w' : World} {g b : Nat} (h : MBox w g b) (hb : Below w.heap.size w w') : MBox w' g b := (hb.block g h.lt).trans h
theorem MBox.c0 {w : World} {g b : Nat} (h : MBox w g b) : w.cell? ⟨g, 0, none⟩ = some (.map (some b)) := cell_of_row w g 0 _ _ _ h
/-- Block g is the variable that holds the list vv of needs. -/
def NBox (w : World) (g : Nat) (vv : Value) : Prop := w.heap[g]? = some (.cells #[vv] 51 (0, 0))
theorem NBox.lt {w : World} {g : Nat} {vv : Value} (h : NBox w g vv) : g < w.heap.size := (Array.getElem?_eq_some_iff.1 h).1
theorem NBox.later {w w' : World} {g : Nat} {vv : Value} (h : NBox w g vv) (hb : Below w.heap.size w w') : NBox w' g vv := (hb.block g h.lt).trans h
theorem NBox.c0 {w : World} {g : Nat} {vv : Value} (h : NBox w g vv) : w.cell? ⟨g, 0, none⟩ = some vv := cell_of_row w g 0 _ _ _ h
theorem NBox.fz {w : World} {g : Nat} {vv : Value} (h : NBox w g vv) : w.frozen? ⟨g, 0, none⟩ = false := frozen_of_row w g 0 _ _ h
def ndC (n : Nd) : List Value := [.int .i64 n.hi, .int .i64 n.wd, .int .i64 n.ar]
theorem infoNd : (Try.prog.info? 54).map (fun i => (i.zero, i.size, i.bytes)) = some (some (.agg #[.int .i64 0, .int .i64 0, .int .i64 0]), 3, 24) := by kernel_rfl
theorem upS_len : ∀ (f : Nat) (o st : Int), (upS f o st).length ≤ f
  | 0, _, _ => Nat.le_refl _
  | f + 1, o, st => by
    rw [upS]
    split
    · have := upS_len f (o + st) st
      simp; omega
    · simp
theorem cell3_new (w : World) (q : Nd) (t : TypeId) : ∀ (j : Nat) (u : Value), (ndC q)[j]? = some u → (w.alloc (.cells #[.int .i64 q.hi, .int .i64 q.wd, .int .i64 q.ar] t)).cell? (Addr.add ⟨w.heap.size, 0, none⟩ j) = some u := by
  intro j u hu
  have h := heap_alloc_new w (.cells #[.int .i64 q.hi, .int .i64 q.wd, .int .i64 q.ar] t)
  match j, hu with
  | 0, hu => exact (cell_of_row _ _ 0 _ _ _ h).trans (by simpa [ndC] using hu)
  | 1, hu => exact (cell_of_row _ _ 1 _ _ _ h).trans (by simpa [ndC] using hu)
  | 2, hu => exact (cell_of_row _ _ 2 _ _ _ h).trans (by simpa [ndC] using hu)
  | j + 3, hu => simp [ndC] at hu
theorem one3 (q : Nd) : ∀ u ∈ ndC q, u.oneCell' = true := by
  intro u hu
  simp [ndC] at hu
  rcases hu with rfl | rfl | rfl <;> rfl
theorem vlen_ownN {w : World} {base : Nat} {e : TypeId} {size n : Nat} {v : Value} {xs : List Value} (h : w.ownsRow base e size v n xs) : ∃ A c, v = .slice A n c := by
  rcases h.2 with ⟨rfl, h0⟩ | ⟨g, cap, cur, rfl, _⟩
  · exact ⟨none, 0, by rw [h0]⟩
  · exact ⟨_, _, rfl⟩
theorem kpP_set {W : World} {gn : Nat} {vv v : Value} (h : NBox W gn vv) : KpP W (W.setCell ⟨gn, 0, none⟩ v) :=
  ⟨by simp [World.setCell], fun g a hg => (Below.heap_setCell W ⟨gn, 0, none⟩ v g (by
    rintro rfl
    rw [show W.heap[g]? = _ from h] at hg
    injection hg with hg
    injection hg with _ hg
    exact absurd hg (by decide))).trans hg⟩
theorem own_kindN {w : World} {base n : Nat} {e : TypeId} {size : Nat} {v : Value} {xs : List Value} (h : w.ownsRow base e size v n xs) (k : Nat) (hk : v.ownBlock = some k) : ∃ cs, w.heap[k]? = some (.cells cs e (0, 0)) := by
  rcases h.2 with ⟨rfl, _⟩ | ⟨g, cap, cur, rfl, _, hg, _⟩
  · cases hk
  · obtain rfl : g = k := by injection hk
    exact ⟨_, hg⟩
theorem bAlN {a X : World} {o : Obj} {R : Prop} (h : Below a.heap.size a X ∧ R) : Below a.heap.size a (X.alloc o) := h.1.alloc h.1.size o
theorem bStN {a X : World} {p : Addr} {v : Value} {R : Prop} (h : Below a.heap.size a X ∧ R) (hp : a.heap.size ≤ p.block) : Below a.heap.size a (X.setCell p v) := h.1.setCell hp v
theorem bSt3 {a X : World} {g : Nat} {u v z : Value} {R : Prop} (h : Below a.heap.size a X ∧ R) (hp : a.heap.size ≤ g) : Below a.heap.size a (((X.setCell ⟨g, 0, none⟩ u).setCell ⟨g, 1, none⟩ v).setCell ⟨g, 2, none⟩ z) := ((h.1.setCell hp u).setCell hp v).setCell hp z
theorem set3P {X : World} {g : Nat} {a b c x y z : Int} (h : X.heap[g]? = some (.cells #[.int .i16 a, .int .i16 b, .int .i16 c] 30 (0, 0))) : (((X.setCell ⟨g, 0, none⟩ (.int .i16 x)).setCell ⟨g, 1, none⟩ (.int .i16 y)).setCell ⟨g, 2, none⟩ (.int .i16 z)).heap[g]? = some (.cells #[.int .i16 x, .int .i16 y, .int .i16 z] 30 (0, 0)) := by
  have h1 := heap_setCell_same _ _ 0 _ _ (.int .i16 x) h
  have h2 := heap_setCell_same _ _ 1 _ _ (.int .i16 y) h1
  have h3 := heap_setCell_same _ _ 2 _ _ (.int .i16 z) h2
  simpa using h3
set_option maxHeartbeats 8000000 in
theorem needsOf_any (p : Pg) (wfp : p.Wf) (hp : pegsB p = true) (v : Value) (xs : List Bk) (ok : ∀ b ∈ xs, bookB b = true) (h60 : xs.length ≤ 60) (w : World) (hs : SliceOf w v xs) :
    Calls Try.prog 22 #[.agg #[.int .i16 p.lo, .int .i16 p.st, .int .i16 p.bo], v] w fun e w' => ∃ u, e = .returned u ∧ w'.ownsRow w.heap.size 54 3 u (needsL p xs).length ((needsL p xs).flatMap ndC) ∧ Below w.heap.size w w' := by
  obtain ⟨A, c, rfl, hat⟩ := hs
  have HS := Lib.hid hat
  have OK := Lib.hid ok
  have HP := Lib.hid hp
  have WP := Lib.hid wfp
  have P0 := Lib.hid (show PBS (w.alloc (.cells #[.int .i16 p.lo, .int .i16 p.st, .int .i16 p.bo] 30)) w.heap.size p from heap_alloc_new w _)
  have B0 := Lib.hid (show Below w.heap.size w (w.alloc (.cells #[.int .i16 p.lo, .int .i16 p.st, .int .i16 p.bo] 30)) from (Below.refl _ _).alloc (Nat.le_refl _) _)
  have hmm := @run_makeMap Try.prog
  clear hat ok hp wfp
  refine (callsIn_wide (n := 3)).1 ?_
  refine callsIn_of_wp_marks Try.func22 rfl trivial ?_ rfl
  simp only [Try.ntmps22, List.size_toArray, List.length_cons, List.length_nil, Nat.reduceAdd, Nat.reduceSub, Array.replicate_succ, Array.replicate_zero, List.push_toArray, List.append_toArray, List.nil_append, List.cons_append]
  refine wpIn_wide.2 ?_
  go_upto_region 1 with (fail)
  generalize hp0 : w.heap.size = gp at P0 B0 ⊢
  generalize World.alloc w _ = W0 at P0 B0 ⊢
  have hz1 : (W0.alloc (.map #[] 0)).heap.size = W0.heap.size + 1 := by simp
  have A1 := Lib.hid (show Below W0.heap.size W0 (W0.alloc (.map #[] 0)) from (Below.refl _ _).alloc (Nat.le_refl _) _)
  have A2 := Lib.hid (show Below (W0.alloc (.map #[] 0)).heap.size (W0.alloc (.map #[] 0)) ((W0.alloc (.map #[] 0)).alloc (.cells #[.map (some W0.heap.size)] 68)) from (Below.refl _ _).alloc (Nat.le_refl _) _)
  have M0 := Lib.hid ((Ndm.made (p := p) W0).below A2.out)
  have X0 := Lib.hid (show MBox ((W0.alloc (.map #[] 0)).alloc (.cells #[.map (some W0.heap.size)] 68)) (W0.heap.size + 1) W0.heap.size from by have h := heap_alloc_new (W0.alloc (.map #[] 0)) (.cells #[.map (some W0.heap.size)] 68); rw [hz1] at h; exact h)
  have P1 := Lib.hid ((P0.out.later A1.out).later A2.out)
  have hle : gp ≤ W0.heap.size := Nat.le_of_lt P0.out.lt
  have B1 := Lib.hid (show Below gp w _ from B0.out.trans ((A1.out.mono hle).trans (A2.out.mono (by rw [hz1]; omega))))
  have hgp := P0.out.lt
  go_upto_region 2 with (fail)
  generalize hgm : W0.heap.size = gm at M0 X0 P1 B1 hgp ⊢
  generalize World.alloc (World.alloc W0 _) _ = W1 at M0 X0 P1 B1 ⊢
  clear hmm hz1 A1 A2 P0 B0 hgm
  go_wp2_with fail
  go_loopw [17] (fun i_ wr => ∃ (k n : Nat), k ≤ xs.length ∧ n ≤ k ∧ i_ = .int .i64 (k : Int) ∧ Ndm p wr gm n (ndF p xs k) ∧ MBox wr (gm + 1) gm ∧ PBS wr gp p ∧ Below gp w wr) (fun i_ _ => xs.length - (intOf i_).toNat)
  case atStart => exact ⟨0, 0, Nat.zero_le _, Nat.le_refl _, rfl, M0.out, X0.out, P1.out, B1.out⟩
  case round =>
    clear M0 X0 P1 B1
    obtain ⟨k, n, hk, hnk, rfl, hm, hx, hpb, hb⟩ := hrel
    have HM := Lib.hid hm
    have HX := Lib.hid hx
    have HPB := Lib.hid hpb
    have HB := Lib.hid hb
    have hsz : gp ≤ wr.heap.size := Nat.le_of_lt hpb.lt
    clear hm hx hpb hb
    by_cases hlt : k < xs.length
    · obtain ⟨g, o, rfl, hg, hat⟩ := HS.out (by omega)
      obtain ⟨x0, x1, x2, x3, x4, x5, x6, x7⟩ := booksAt_some (hat.below HB.out (by omega)) hlt
      have HBK := Lib.hid (OK.out _ (List.getElem_mem hlt))
      have HF := Lib.hid (show ndF p xs (k + 1) = updN (ndF p xs k) (phB p xs[k]) (ndAdd (ndF p xs k (phB p xs[k])) (phB p xs[k]) xs[k]) by rw [ndF, show xs.getD k default = xs[k] by simp [List.getD, List.getElem?_eq_getElem hlt]])
      have BD := Lib.hid (fun (x : Int) (nd : Nd) (h : ndF p xs k x = some nd) => ndF_bd OK.out (by omega) h)
      have hk0 : (0 : Int) ≤ (k : Int) := by omega
      have hk1 : (k : Int) < (xs.length : Int) := by omega
      generalize ndF p xs k = f at HM HF BD
      generalize xs[k] = b at x0 x1 x2 x3 x4 x5 x6 x7 HBK HF
      have BA := Lib.hid (show Below wr.heap.size wr (wr.alloc (.cells #[.int .i16 b.c, .int .u8 b.m0, .int .u8 b.m1, .int .u8 b.m2, .int .i16 b.v, .int .i16 b.wi, .int .i16 b.hi, .int .i16 b.we] 46)) from (Below.refl _ _).alloc (Nat.le_refl _) _)
      have K7 := Lib.hid (show B8N (wr.alloc (.cells #[.int .i16 b.c, .int .u8 b.m0, .int .u8 b.m1, .int .u8 b.m2, .int .i16 b.v, .int .i16 b.wi, .int .i16 b.hi, .int .i16 b.we] 46)) wr.heap.size b from heap_alloc_new wr _)
      have HM := Lib.hid (HM.out.below BA.out)
      have HX := Lib.hid (HX.out.later BA.out)
      have HPB := Lib.hid (HPB.out.later BA.out)
      have HB := Lib.hid (HB.out.trans (BA.out.mono (by omega)))
      clear hat
      go_upto_region 5 with (fail)
      generalize hg7 : wr.heap.size = g7 at K7 BA hsz ⊢
      generalize World.alloc wr _ = W4 at HM HX HPB HB K7 BA ⊢
      clear x0 x1 x2 x3 x4 x5 x6 x7 BA
      obtain ⟨y0, y1, y2, y3, y4, y5, y6, y7⟩ := K7.out.at_
      have q0 := HPB.out.c0
      have q1 := HPB.out.c1
      have q2 := HPB.out.c2
      have z7 := K7.out.lt
      have zp := HPB.out.lt
      have HKY := Lib.hid (fun W => highKeyN_any b (bookW HBK.out) W)
      have FRM := Lib.hid (fun W => from_bk HP.out HBK.out W)
      have hph := (phB_bd HP.out HBK.out).1
      have hph2 := (phB_bd HP.out HBK.out).2.1
      generalize hph0 : phB p b = x at FRM HF hph hph2
      have HPH := Lib.hid hph0
      clear hph0
      have b0 : Below W4.heap.size W4 W4.drew := (Below.refl _ _).drew
      have HK := Lib.hid (show ∀ X : World, Below W4.heap.size W4 X → (Below W4.heap.size W4 X ∧ X.cell? ⟨gp, 0, none⟩ = some (.int .i16 p.lo) ∧ X.cell? ⟨gp, 1, none⟩ = some (.int .i16 p.st) ∧ X.cell? ⟨gp, 2, none⟩ = some (.int .i16 p.bo) ∧ X.cell? ⟨g7, 0, none⟩ = some (.int .i16 b.c) ∧ X.cell? ⟨g7, 1, none⟩ = some (.int .u8 b.m0) ∧ X.cell? ⟨g7, 2, none⟩ = some (.int .u8 b.m1) ∧ X.cell? ⟨g7, 3, none⟩ = some (.int .u8 b.m2) ∧ X.cell? ⟨g7, 4, none⟩ = some (.int .i16 b.v) ∧ X.cell? ⟨g7, 5, none⟩ = some (.int .i16 b.wi) ∧ X.cell? ⟨g7, 6, none⟩ = some (.int .i16 b.hi) ∧ X.cell? ⟨g7, 7, none⟩ = some (.int .i16 b.we)) from fun X hX =>
        ⟨hX, (hX.cell (p := ⟨gp, 0, none⟩) zp).trans q0, (hX.cell (p := ⟨gp, 1, none⟩) zp).trans q1, (hX.cell (p := ⟨gp, 2, none⟩) zp).trans q2, (hX.cell (p := ⟨g7, 0, none⟩) z7).trans y0, (hX.cell (p := ⟨g7, 1, none⟩) z7).trans y1, (hX.cell (p := ⟨g7, 2, none⟩) z7).trans y2, (hX.cell (p := ⟨g7, 3, none⟩) z7).trans y3, (hX.cell (p := ⟨g7, 4, none⟩) z7).trans y4, (hX.cell (p := ⟨g7, 5, none⟩) z7).trans y5, (hX.cell (p := ⟨g7, 6, none⟩) z7).trans y6, (hX.cell (p := ⟨g7, 7, none⟩) z7).trans y7⟩)
      go_cut [8, 9] from 21 to 27 (fun s8 s9 wx => ∃ g8 : Nat, s8 = .pointer (some ⟨g8, 0, none⟩) ∧ s9 = .bool true ∧ wx.heap[g8]? = some (.cells #[.int .i16 x, .int .i16 p.st, .int .i16 p.bo] 30 (0, 0)) ∧ Below W4.heap.size W4 wx)
      case first =>
        go_region_held3 (fun X => Below W4.heap.size W4 X ∧ X.cell? ⟨gp, 0, none⟩ = some (.int .i16 p.lo) ∧ X.cell? ⟨gp, 1, none⟩ = some (.int .i16 p.st) ∧ X.cell? ⟨gp, 2, none⟩ = some (.int .i16 p.bo) ∧ X.cell? ⟨g7, 0, none⟩ = some (.int .i16 b.c) ∧ X.cell? ⟨g7, 1, none⟩ = some (.int .u8 b.m0) ∧ X.cell? ⟨g7, 2, none⟩ = some (.int .u8 b.m1) ∧ X.cell? ⟨g7, 3, none⟩ = some (.int .u8 b.m2) ∧ X.cell? ⟨g7, 4, none⟩ = some (.int .i16 b.v) ∧ X.cell? ⟨g7, 5, none⟩ = some (.int .i16 b.wi) ∧ X.cell? ⟨g7, 6, none⟩ = some (.int .i16 b.hi) ∧ X.cell? ⟨g7, 7, none⟩ = some (.int .i16 b.we)) (first | assumption | exact HK.out _ b0 | exact HK.out _ B6.out | exact HK.out _ B5.out | exact HK.out _ (B6.out.alloc B6.out.size _) | exact HK.out _ (bAlN (by assumption)) | exact HK.out _ (bSt3 (by assumption) (by first | exact Nat.le_refl _ | exact B5.out.size))) (first
          | (go_at_call 36; refine (HKY.out _).mono ?_; rintro e w5 ⟨rfl, hq⟩; have B5 := Lib.hid (bnext (show Below W4.heap.size W4 _ from And.left (by assumption)) hq); (try (have X8 := Lib.hid ((hq.block W4.heap.size (by simp)).trans (heap_alloc_new W4 (.cells #[.int .i16 0, .int .i16 0, .int .i16 0] 30))))); clear hq)
          | (go_at_call 35; refine (FRM.out _).mono ?_; rintro e w6 ⟨rfl, hq⟩; have B6 := Lib.hid (bnext (show Below W4.heap.size W4 _ from And.left (by assumption)) hq); (first | (have X9 := Lib.hid ((hq.block W4.heap.size (Array.getElem?_eq_some_iff.1 X8.out).1).trans X8.out); have e0 := cell_of_row _ _ 0 _ _ _ X9.out; have e1 := cell_of_row _ _ 1 _ _ _ X9.out; have e2 := cell_of_row _ _ 2 _ _ _ X9.out; have fz := fun j => frozen_of_row _ _ j _ _ X9.out; simp only [List.getElem?_toArray, List.getElem?_cons_zero, List.getElem?_cons_succ] at e0 e1 e2) | (have X9 := Lib.hid ((hq.block w5.heap.size (by simp)).trans (heap_alloc_new w5 (.cells #[.int .i16 0, .int .i16 0, .int .i16 0] 30))); have e0 := cell_of_row _ _ 0 _ _ _ X9.out; have e1 := cell_of_row _ _ 1 _ _ _ X9.out; have e2 := cell_of_row _ _ 2 _ _ _ X9.out; have fz := fun j => frozen_of_row _ _ j _ _ X9.out; simp only [List.getElem?_toArray, List.getElem?_cons_zero, List.getElem?_cons_succ] at e0 e1 e2) | skip); clear hq))
        all_goals
          go_wp2_with fail
          go_meet
          first
          | exact ⟨_, rfl, rfl, heap_alloc_new w6 _, B6.out.alloc B6.out.size _⟩
          | exact ⟨_, rfl, rfl, set3P X9.out, bSt3 ⟨B6.out, trivial⟩ (by first | exact Nat.le_refl _ | exact B5.out.size)⟩
      case rest =>
        obtain ⟨g8, rfl, rfl, h8, hb5⟩ := hcut
        obtain ⟨W5, rfl⟩ : ∃ x, x = wc := ⟨_, rfl⟩
        have K8 := Lib.hid h8
        have B5 := Lib.hid hb5
        have M5 := Lib.hid (HM.out.below B5.out)
        have X5 := Lib.hid (HX.out.later B5.out)
        have P5 := Lib.hid (HPB.out.later B5.out)
        have K75 := Lib.hid (K7.out.later B5.out)
        have HB5 := Lib.hid (HB.out.trans (B5.out.mono (by have := HPB.out.lt; omega)))
        have hgmx := X5.out.lt
        have hg8 : g8 < W5.heap.size := (Array.getElem?_eq_some_iff.1 K8.out).1
        have hg75 := K75.out.lt
        have hgp5 := P5.out.lt
        clear h8 hb5 HK b0 HM HX HPB HB K7 B5 HKY FRM y0 y1 y2 y3 y4 y5 y6 y7 q0 q1 q2
        obtain ⟨q, hq⟩ : ∃ q, q = (f x).getD ⟨0, 0, 0⟩ := ⟨_, rfl⟩
        have qb : (0 ≤ q.wd ∧ q.wd ≤ 6000) ∧ (0 ≤ q.ar ∧ q.ar ≤ 2400000) := by
          rw [hq]
          cases hfx : f x with
          | none => simp
          | some nd =>
            have := BD.out x nd hfx
            simp only [Option.getD_some]
            omega
        have QV := Lib.hid (show ndO (f x) = .agg #[.int .i64 q.hi, .int .i64 q.wd, .int .i64 q.ar] by
          rw [hq]
          cases f x <;> rfl)
        have hbb := bookB_hi HBK.out
        obtain ⟨m, hm⟩ : ∃ m, m = b.wi * b.hi := ⟨_, rfl⟩
        have hm2 : 0 ≤ m ∧ m ≤ 40000 := by
          rw [hm]
          exact ⟨Int.mul_nonneg (by omega) (by omega), by
            have := Int.mul_le_mul (show b.wi ≤ 100 by omega) (show b.hi ≤ 400 by omega) (by omega) (by omega)
            omega⟩
        have wm : IntKind.i64.wrap (b.wi * b.hi) = m := by rw [← hm]; exact IntWalk.i64_in _ (by omega)
        have wm2 : wrap64 (b.wi * b.hi) = m := by rw [← hm]; unfold wrap64; omega
        have NV := Lib.hid (show ndAdd (f x) x b = ⟨x, q.wd + b.wi, q.ar + m⟩ by unfold ndAdd; rw [← hq, hm])
        have LK := fun (r : BelowBy W5) => show (Instr.lookup 68 (.map (some gm)) (.agg #[.int .i16 x, .int .i16 p.st, .int .i16 p.bo]) false).run Try.prog r.W = .ok (.agg #[.int .i64 q.hi, .int .i64 q.wd, .int .i64 q.ar]) r.W from by
          have h := Ndm.look1 WP.out (M5.out.below r.h) x ⟨by omega, by omega⟩
          rw [QV.out] at h
          exact h
        have HI1 := Lib.hid (fun W => high_any x p.st p.bo W (by omega) (by omega))
        have WK1 := Lib.hid (fun W => wideKeyN_any b (bookW HBK.out) W)
        have HK1 := Lib.hid (fun W => highKeyN_any b (bookW HBK.out) W)
        have WI1 := Lib.hid (fun W => with_any q ⟨x, b.wi, m⟩ ⟨⟨by omega, by omega⟩, by omega, by omega⟩ ⟨⟨by show 0 ≤ b.wi; omega, by show b.wi ≤ _; omega⟩, by show 0 ≤ m; omega, by show m ≤ _; omega⟩ W)
        have mb := fun (r : BelowBy W5) => belowBy_cell hgmx X5.out.c0 r
        have r0 := cell_of_row W5 _ 0 _ _ _ K8.out
        have r1 := cell_of_row W5 _ 1 _ _ _ K8.out
        have r2 := cell_of_row W5 _ 2 _ _ _ K8.out
        simp only [List.getElem?_toArray, List.getElem?_cons_zero, List.getElem?_cons_succ] at r0 r1 r2
        have r0 := belowBy_cell hg8 r0; have r1 := belowBy_cell hg8 r1; have r2 := belowBy_cell hg8 r2
        obtain ⟨y0, y1, y2, y3, y4, y5, y6, y7⟩ := K75.out.at_
        have y0 := belowBy_cell hg75 y0; have y1 := belowBy_cell hg75 y1; have y2 := belowBy_cell hg75 y2; have y3 := belowBy_cell hg75 y3
        have y4 := belowBy_cell hg75 y4; have y5 := belowBy_cell hg75 y5; have y6 := belowBy_cell hg75 y6; have y7 := belowBy_cell hg75 y7
        clear hq hm qb hbb hm2
        go_wp2
        refine wp_region_last 16 (by rfl) (by rfl) (by kernel_rfl) (by kernel_rfl) (by kernel_rfl) (by kernel_rfl) ?_
        simp only [List.take_succ_cons, List.take_zero]
        iterate 16 (first | go_big_quiet_step ((first | (go_at_call 38; with_reducible exact calls_below (HI1.out _)) | (go_at_call 39; with_reducible exact calls_below (WK1.out _)) | (go_at_call 36; with_reducible exact calls_below (HK1.out _)) | (go_at_call 37; with_reducible exact calls_below (WI1.out _)))) | quiet_step ((first | (go_at_call 38; with_reducible exact calls_below (HI1.out _)) | (go_at_call 39; with_reducible exact calls_below (WK1.out _)) | (go_at_call 36; with_reducible exact calls_below (HK1.out _)) | (go_at_call 37; with_reducible exact calls_below (WI1.out _)))))
        refine wpQuiet_nil ?_
        rintro w6 ⟨⟨_, hq6⟩, rfl⟩
        intro K hK
        have M6 := M5.out.below hq6
        obtain ⟨w7, hrun, hM7, hg7'⟩ := Ndm.put WP.out M6 x ⟨by omega, by omega⟩ ⟨x, q.wd + b.wi, q.ar + m⟩
        have hrun : (Instr.mapUpdate 68 (.map (some gm)) (.agg #[.int .i16 x, .int .i16 p.st, .int .i16 p.bo]) (.agg #[.int .i64 x, .int .i64 (q.wd + b.wi), .int .i64 (q.ar + m)])).run Try.prog w6 = .ok () w7 := hrun
        rw [← NV.out, ← HF.out] at hM7
        have X7 := Lib.hid (show MBox w7 (gm + 1) gm from (hg7'.block (gm + 1) (X5.out.later hq6).lt (by intro e; injection e with e; omega)).trans (X5.out.later hq6))
        have P7 := Lib.hid (show PBS w7 gp p from (hg7'.block gp (P5.out.later hq6).lt (by intro e; injection e with e; omega)).trans (P5.out.later hq6))
        have B7 := Lib.hid (show Below gp w w7 from (HB5.out.trans (hq6.mono (by omega))).grown hg7' (Nat.le_trans (Nat.le_of_lt hgp5) hq6.size) (fun k e => by injection e with e; omega))
        have M7 := Lib.hid hM7
        clear mb r0 r1 r2 y0 y1 y2 y3 y4 y5 y6 y7 LK HI1 WK1 HK1 WI1 M6 hM7 hg7'
        go_simp
        refine hK _ _ ?_
        clear hK hrun
        go_wp2
        go_roundw
        case rel => exact ⟨k + 1, _, by omega, by split <;> omega, by go_num, M7.out, X7.out, P7.out, B7.out⟩
        case measure => first | (simp [intOf]; done) | (simp [intOf]; omega)
    · obtain rfl : k = xs.length := by omega
      have hgmx := HX.out.lt
      have BN := Lib.hid (show Below wr.heap.size wr (wr.alloc (.cells #[.slice none 0 0] 51)) from (Below.refl _ _).alloc (Nat.le_refl _) _)
      have KN := Lib.hid (show NBox (wr.alloc (.cells #[.slice none 0 0] 51)) wr.heap.size (.slice none 0 0) from heap_alloc_new wr _)
      have HM := Lib.hid (HM.out.below BN.out)
      have HX := Lib.hid (HX.out.later BN.out)
      have HPB := Lib.hid (HPB.out.later BN.out)
      have HB := Lib.hid (HB.out.trans (BN.out.mono hsz))
      have hlt2 := HX.out.lt
      have hgmn := hgmx
      go_upto_region 9 with (fail)
      generalize hgn : wr.heap.size = gn at KN BN hsz hgmn ⊢
      clear hgmx
      generalize World.alloc wr _ = W4 at HM HX HPB HB KN BN hlt2 ⊢
      have q0 := HPB.out.c0
      have q1 := HPB.out.c1
      have q2 := HPB.out.c2
      refine (wpIn_wide (n := 3)).1 ?_
      gi_wp2_with fail
      refine ⟨trivial, (callsIn_wide.2 (upwards_any p _)).mono ?_⟩
      rintro e w' ⟨rfl, rfl⟩
      clear q0 q1 q2
      gi_wp2
      have BU := Lib.hid (show Below W4.heap.size W4 (W4.alloc (.cells #[.int .i16 p.lo, .int .i16 p.st, .int .i16 p.bo] 30)) from (Below.refl _ _).alloc (Nat.le_refl _) _)
      have KU := Lib.hid (show PB (W4.alloc (.cells #[.int .i16 p.lo, .int .i16 p.st, .int .i16 p.bo] 30)) W4.heap.size p.lo p.st p.bo from PB.new W4 _ _ _)
      have HM := Lib.hid (HM.out.below BU.out)
      have HX := Lib.hid (HX.out.later BU.out)
      have HPB := Lib.hid (HPB.out.later BU.out)
      have KN := Lib.hid (KN.out.later BU.out)
      have HB := Lib.hid (HB.out.trans (BU.out.mono (by have := HPB.out.lt; omega)))
      generalize hgu : W4.heap.size = gu at KU BU ⊢
      generalize World.alloc W4 _ = W5 at HM HX HPB HB KN KU BU ⊢
      have hgnu := KN.out.lt
      generalize hfn : ndF p xs xs.length = f at HM
      refine (wpIn_wide (n := 3)).1 ?_
      gi_wp2
      refine wpIn_rangeFunc_ownH rfl (by omega : 1 ≤ 3) (gf := 47) (lb := #[.pointer (some ⟨gu, 0, none⟩)]) rfl trivial (enters_of Try.func47 (by kernel_rfl) rfl)
        (upw_stops 2 (by omega) gu p HP.out W5 KU.out) kpP_t kpP_b (Below.refl _ _) (fun _ => rfl)
        (fun pre W => ∃ vv, NBox W gn vv ∧ W.ownsRow W5.heap.size 54 3 vv ((pre.map Subtype.val).filterMap f).length (((pre.map Subtype.val).filterMap f).flatMap ndC) ∧ Ndm p W gm n f ∧ MBox W (gm + 1) gm ∧ Below gp w W ∧ W5.heap.size ≤ W.heap.size)
        (fun _ _ _ => False)
        ?hI ?hIx ⟨_, KN.out, ⟨rfl, .inl ⟨rfl, rfl⟩⟩, HM.out, HX.out, HB.out, Nat.le_refl _⟩
        (fun x a' W => ∃ g, gn < g ∧ PB W g x.1 p.st p.bo ∧ a' = { tmps := #[.agg #[.int .i16 p.lo, .int .i16 p.st, .int .i16 p.bo], .slice A xs.length c, .pointer (some ⟨gp, 0, none⟩), undef, .slice none 0 0, .pointer (some ⟨gm + 1, 0, none⟩), undef, u7, u8, u9, .pointer (some ⟨gn, 0, none⟩), .pointer (some ⟨g, 0, none⟩), undef, undef, .map (some gm), .slice A xs.length c, .int .i64 (xs.length : Int), .int .i64 (xs.length : Int), .bool false, u19, u20, u21, u22, u23, u24, u25, u26, u27, u28, u29, u30, u31, u32, u33, u34, u35, u36, u37, u38, u39, u40, u41, u42, u43, u44, .agg #[.int .i16 p.lo, .int .i16 p.st, .int .i16 p.bo], .func (.func 47) #[] #[.pointer (some ⟨gu, 0, none⟩)], .agg #[.int .i16 x.1, .int .i16 p.st, .int .i16 p.bo], undef, undef, undef, undef, undef, undef, undef, undef, undef, undef, undef, undef], defers := [] })
        ?hAx ?assign ?body ?done ?stop
      case hI =>
        rintro s X Y row ⟨vv, e1, e2, e3, e4, e5, e6⟩ hg hr
        have hb : ∀ k, k < W5.heap.size → some k ≠ row := fun k hk e => by have := (hr k e.symm).1; omega
        refine ⟨vv, (hg.block _ e1.lt (hb _ hgnu)).trans e1, ownsOther e2 hg (fun k hk e => ?_), e3.keep (hg.block _ e3.lt (hb _ (by omega))), (hg.block _ e4.lt (hb _ (by omega))).trans e4, e5.grown hg (by omega) (fun k e => by have := (hr k e).1; omega), Nat.le_trans e6 hg.size⟩
        obtain ⟨_, ob, h1, h2⟩ := hr k e.symm
        obtain ⟨cs, h3⟩ := own_kindN e2 k hk
        rw [h3] at h1
        cases h1
        cases h2
      case hIx => rintro c s X Y row h _ _; exact h
      case hAx =>
        rintro x a' _ X Y row ⟨g, e1, e2, e3⟩ hg hr
        exact ⟨g, e1, (hg.block _ e2.lt (fun e => by obtain ⟨_, o, h1, h2⟩ := hr g e.symm; rw [show X.heap[g]? = _ from e2] at h1; cases h1; cases h2)).trans e2, e3⟩
      case assign =>
        rintro l pre x W K ⟨vv, e1, e2, e3, e4, e5, e6⟩ hK
        gi_wp2
        have bw : Below W.heap.size W (W.alloc (.cells #[.int .i16 x.1, .int .i16 p.st, .int .i16 p.bo] 30)) := (Below.refl _ W).alloc (Nat.le_refl _) _
        exact hK _ _ ((KeepsOthers.alloc _ _).from _) (kpP_below bw) ⟨vv, e1.later bw, e2.alloc _, e3.below bw, e4.later bw, e5.trans (bw.mono (by omega)), by have := bw.size; omega⟩ ⟨W.heap.size, by have := e1.lt; omega, PB.new W _ _ _, rfl⟩
      case body =>
        rintro l pre x a' W hl _ ⟨vv, e1, e2, e3, e4, e5, e6⟩ ⟨g, hg, hpb, rfl⟩ hlt
        obtain ⟨x, x1, x2⟩ := x
        dsimp only at hpb
        have d0 := hpb.c0
        have d1 := hpb.c1
        have d2 := hpb.c2
        have mb := e4.c0
        have LK := Ndm.look WP.out e3 x ⟨by omega, by omega⟩
        replace LK : (Instr.lookup 68 (.map (some gm)) (.agg #[.int .i16 x, .int .i16 p.st, .int .i16 p.bo]) true).run Try.prog W = .ok (.tuple #[ndO (f x), .bool (f x).isSome]) W := LK
        have PM := Lib.hid (show (pre ++ [(⟨x, x1, x2⟩ : PH)]).map Subtype.val = pre.map Subtype.val ++ [x] by simp)
        have PML := Lib.hid (show (pre.map Subtype.val).length ≤ 1001 by
          rw [List.length_map]
          have := upS_len 1001 p.lo p.st
          unfold upW at hlt
          omega)
        generalize pre.map Subtype.val = pm at e2 PM PML
        have E1 := Lib.hid e1
        have E2 := Lib.hid e2
        have E3 := Lib.hid e3
        have E4 := Lib.hid e4
        have E5 := Lib.hid e5
        have E6 := Lib.hid e6
        have z1 := e1.lt
        clear e1 e2 e3 e4 e5 hpb
        cases hfx : f x with
        | none =>
          rw [hfx] at LK
          replace LK : (Instr.lookup 68 (.map (some gm)) (.agg #[.int .i16 x, .int .i16 p.st, .int .i16 p.bo]) true).run Try.prog W = .ok (.tuple #[.agg #[.int .i64 0, .int .i64 0, .int .i64 0], .bool false]) W := LK
          have FM := Lib.hid (show (pm ++ [x]).filterMap f = pm.filterMap f by rw [List.filterMap_append]; simp [hfx])
          have bw := Lib.hid (show Below W.heap.size W (W.alloc (.cells #[.int .i64 0, .int .i64 0, .int .i64 0] 54)) from (Below.refl _ W).alloc (Nat.le_refl _) _)
          clear hfx
          gi_wp2
          exact ⟨(KeepsOthers.alloc _ _).from _, kpP_below bw.out, vv, E1.out.later bw.out, by rw [PM.out, FM.out]; exact E2.out.alloc _, E3.out.below bw.out, E4.out.later bw.out, E5.out.trans (bw.out.mono (by omega)), by have := bw.out.size; omega⟩
        | some q =>
          rw [hfx] at LK
          replace LK : (Instr.lookup 68 (.map (some gm)) (.agg #[.int .i16 x, .int .i16 p.st, .int .i16 p.bo]) true).run Try.prog W = .ok (.tuple #[.agg #[.int .i64 q.hi, .int .i64 q.wd, .int .i64 q.ar], .bool true]) W := LK
          have FM := Lib.hid (show (pm ++ [x]).filterMap f = pm.filterMap f ++ [q] by rw [List.filterMap_append]; simp [hfx])
          have bw := Lib.hid (show Below W.heap.size W (W.alloc (.cells #[.int .i64 q.hi, .int .i64 q.wd, .int .i64 q.ar] 54)) from (Below.refl _ W).alloc (Nat.le_refl _) _)
          have QB := Lib.hid (show NB (W.alloc (.cells #[.int .i64 q.hi, .int .i64 q.wd, .int .i64 q.ar] 54)) W.heap.size q from heap_alloc_new W _)
          have KO1 := Lib.hid (KeepsOthers.alloc W (.cells #[.int .i64 q.hi, .int .i64 q.wd, .int .i64 q.ar] 54))
          have KP1 := Lib.hid (kpP_below bw.out)
          have F1 := Lib.hid (E1.out.later bw.out)
          have F2 := Lib.hid (show (W.alloc (.cells #[.int .i64 q.hi, .int .i64 q.wd, .int .i64 q.ar] 54)).ownsRow W5.heap.size 54 3 vv _ _ from E2.out.alloc _)
          have F3 := Lib.hid (E3.out.below bw.out)
          have F4 := Lib.hid (E4.out.later bw.out)
          have F5 := Lib.hid (E5.out.trans (bw.out.mono (by omega)))
          have F6 := Lib.hid (Nat.le_trans E6.out bw.out.size)
          have LN := Lib.hid (show (pm.filterMap f).length ≤ 1001 by
            have h1 := List.length_filterMap_le f pm
            have h2 := PML.out
            omega)
          clear hfx E1 E2 E3 E4 E5
          obtain ⟨i0, hi0, hz0, hz1, hz2⟩ := info_parts infoNd
          have bw2 := Lib.hid (show Below (W.alloc (.cells #[.int .i64 q.hi, .int .i64 q.wd, .int .i64 q.ar] 54)).heap.size (W.alloc (.cells #[.int .i64 q.hi, .int .i64 q.wd, .int .i64 q.ar] 54)) ((W.alloc (.cells #[.int .i64 q.hi, .int .i64 q.wd, .int .i64 q.ar] 54)).alloc (.cells #[.int .i64 q.hi, .int .i64 q.wd, .int .i64 q.ar] 54)) from (Below.refl _ _).alloc (Nat.le_refl _) _)
          have f0 := F1.out.c0
          have n0 := QB.out.c0
          have n1 := QB.out.c1
          have n2 := QB.out.c2
          have zW5 := F6.out
          have zs : (W.alloc (.cells #[.int .i64 q.hi, .int .i64 q.wd, .int .i64 q.ar] 54)).heap.size = W.heap.size + 1 := by simp
          have G1 := Lib.hid (F1.out.later bw2.out)
          have G2 := Lib.hid (F2.out.alloc (.cells #[.int .i64 q.hi, .int .i64 q.wd, .int .i64 q.ar] 54))
          have G3 := Lib.hid (F3.out.below bw2.out)
          have G4 := Lib.hid (F4.out.later bw2.out)
          have G5 := Lib.hid (F5.out.trans (bw2.out.mono (by rw [zs]; omega)))
          have KO2 := Lib.hid (KO1.out.trans (KeepsOthers.alloc (W.alloc (.cells #[.int .i64 q.hi, .int .i64 q.wd, .int .i64 q.ar] 54)) (.cells #[.int .i64 q.hi, .int .i64 q.wd, .int .i64 q.ar] 54)))
          have KP2 := Lib.hid (kpP_t KP1.out (kpP_below bw2.out))
          have LNN := LN.out
          generalize hfl : pm.filterMap f = L at F2 G2 FM LN LNN
          obtain ⟨A2, c2, rfl⟩ := vlen_ownN F2.out
          clear hfl
          gi_wp2_with (refine wpListIn_append_own _ rfl (.tmp 55) (.tmp 57) _ rfl W5.heap.size 54 i0 (.agg #[.int .i64 0, .int .i64 0, .int .i64 0]) 3 24 Try.underlying51 hi0 hz0 hz1 hz2 rfl (by decide) _ _ _ rfl G2.out ⟨W.heap.size + 1, 0, none⟩ 1 1 (ndC q) rfl rfl (by have h := cell3_new (W.alloc (.cells #[.int .i64 q.hi, .int .i64 q.wd, .int .i64 q.ar] 54)) q 54; rw [zs] at h; exact h) (one3 q) (by unfold maxLen; omega) (by omega) (by simp; omega) ?_)
          intro v4 w4 ho4 hg4 hn4
          have hvl := fun k hk => G2.out.lt k hk
          have G1' := Lib.hid (show NBox w4 gn (.slice A2 L.length c2) from (hg4.block _ G1.out.lt (fun e => by have := (hvl _ e.symm).1; omega)).trans G1.out)
          have G3' := Lib.hid (G3.out.keep (hg4.block _ G3.out.lt (fun e => by have := (hvl _ e.symm).1; omega)))
          have G4' := Lib.hid (show MBox w4 (gm + 1) gm from (hg4.block _ G4.out.lt (fun e => by have := (hvl _ e.symm).1; omega)).trans G4.out)
          have hz2 := bw2.out.size
          have hz1 := bw.out.size
          have G5' := Lib.hid (G5.out.grown hg4 (by omega) (fun k hk => by have := (hvl k hk).1; omega))
          have hrow : ∀ (j : Nat) (o : Obj), (Value.slice A2 L.length c2).ownBlock = some j → ((W.alloc (.cells #[.int .i64 q.hi, .int .i64 q.wd, .int .i64 q.ar] 54)).alloc (.cells #[.int .i64 q.hi, .int .i64 q.wd, .int .i64 q.ar] 54)).heap[j]? = some o → o.isCells = true := fun j o hj ho => by
            obtain ⟨cs, h9⟩ := own_kindN G2.out j hj
            rw [h9] at ho
            cases ho
            rfl
          have KO4 := Lib.hid (KO2.out.trans (KeepsOthers.of_grownBy hg4 hrow))
          have KP4 := Lib.hid (kpP_t KP2.out (kpP_grown hg4 (fun k hk => by
            obtain ⟨cs, h9⟩ := own_kindN G2.out k hk
            exact ⟨_, h9, fun a e => by injection e with _ e; exact absurd e (by decide)⟩)))
          have O4 := Lib.hid (show w4.ownsRow W5.heap.size 54 3 v4 (L ++ [q]).length ((L ++ [q]).flatMap ndC) by
            rw [List.length_append, List.flatMap_append]
            simpa using ho4)
          have hz4 : W5.heap.size ≤ w4.heap.size := Nat.le_trans (by omega) hg4.size
          obtain ⟨A4, c4, rfl⟩ := vlen_ownN ho4
          have g0 := G1'.out.c0
          have gf := G1'.out.fz
          have hv4 := O4.out.lt
          have S1 := Lib.hid (show NBox (w4.setCell ⟨gn, 0, none⟩ (.slice A4 (L.length + 1) c4)) gn (.slice A4 (L.length + 1) c4) from heap_setCell_same _ _ 0 _ _ _ G1'.out)
          have S2 := Lib.hid (ownsOther O4.out (only_set2 (World.grownBy.refl w4 (some gn)) 0 (.slice A4 (L.length + 1) c4)) (fun k hk e => by have h1 := (hv4 k hk).1; have h2 : k = gn := Option.some.inj e; omega))
          have S3 := Lib.hid (G3'.out.keep (Below.heap_setCell w4 ⟨gn, 0, none⟩ (.slice A4 (L.length + 1) c4) gm (by show gm ≠ gn; omega)))
          have S4 := Lib.hid (show MBox (w4.setCell ⟨gn, 0, none⟩ (.slice A4 (L.length + 1) c4)) (gm + 1) gm from (Below.heap_setCell w4 ⟨gn, 0, none⟩ (.slice A4 (L.length + 1) c4) (gm + 1) (by show gm + 1 ≠ gn; omega)).trans G4'.out)
          have S5 := Lib.hid (G5'.out.setCell (p := ⟨gn, 0, none⟩) (by show gp ≤ gn; omega) (.slice A4 (L.length + 1) c4))
          have S6 := Lib.hid (kpP_t KP4.out (kpP_set (v := .slice A4 (L.length + 1) c4) G1'.out))
          clear hrow ho4 hg4
          gi_wp2
          exact ⟨(KO4.out.trans (KeepsOthers.setCell _ _ _)).from _, S6.out, _, S1.out, by rw [PM.out, FM.out]; exact S2.out, S3.out, S4.out, S5.out, by simpa [World.setCell] using hz4⟩
      case done =>
        rintro D ys W hD hys ⟨vv, e1, e2, e3, e4, e5, e6⟩ hK
        have c0 := e1.c0
        rw [hys, upW_val HP.out] at e2
        have O2 := Lib.hid e2
        have B2 := Lib.hid e5
        have E6 := Lib.hid e6
        have HD := Lib.hid hD
        have HK := Lib.hid hK
        obtain ⟨A2, c2, rfl⟩ := vlen_ownN O2.out
        have NL := Lib.hid (show (upw p).filterMap f = needsL p xs by unfold needsL; rw [← hfn])
        clear e1 e2 e3 e4 e5 hK hys hD
        gi_wp2
        refine (wpIn_wide (n := 3)).1 ?_
        gi_wp2
        refine ⟨by simp, .inl ⟨_, _, rfl, run_takeDeferred HK.out, ?_⟩⟩
        have hDW := (Array.getElem?_eq_some_iff.1 HK.out).1
        have O3 := Lib.hid (ownsOther O2.out (grownBy_putObj' W D (.deferred none)) (fun k hk e => by
          obtain ⟨cs, h9⟩ := own_kindN O2.out k hk
          injection e with e
          subst e
          have h10 := HK.out
          rw [h9] at h10
          cases h10))
        have g6 := Lib.hid (show Below gp w (W.putObj D (.deferred none)) from B2.out.grown (grownBy_putObj' W D (.deferred none)) (by omega) (fun k e => by cases e; have := HD.out; omega))
        rw [NL.out] at O3
        generalize (upw p).filterMap f = ZZ at NL O2 ⊢
        refine ⟨.slice A2 ZZ.length c2, by simp [results, Try.f22, go_sem], _, rfl, ?_, ?_⟩
        · obtain rfl : ZZ = needsL p xs := NL.out
          exact ownsMono O3.out (by omega)
        · rw [hp0]
          exact g6.out
      case stop => rintro D c pre W hD hpre h hK; exact h.elim
end Go.Proofs.Ytjeflpohokjjkaa
