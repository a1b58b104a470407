/- The counter of a desk, by the program: items, and how they are read from copies: contracts. Condition: numbers within their kinds, queues no longer than slices can be. -/
import Derived.Test.YtmafjncaigllbabDkV
import Derived.Deep.AppendLies
import Derived.Deep.RegionHeld3
namespace Go.Proofs.Ytmafjncaigllbab
set_option linter.unusedSimpArgs false
set_option linter.unusedVariables false
set_option maxRecDepth 100000
open Go.RowKit

/-- An item's cells: those of its loan, and its queue. -/
def itC (p : Cp × Value) : List Value := [.int .i64 p.1.st, .int .i64 p.1.who, .int .i64 p.1.due, .int .i64 p.1.ren, p.2]
def flI (L : List (Cp × Value)) : List Value := L.flatMap itC
theorem flI_snoc (L : List (Cp × Value)) (p : Cp × Value) : flI (L ++ [p]) = flI L ++ [.int .i64 p.1.st, .int .i64 p.1.who, .int .i64 p.1.due, .int .i64 p.1.ren, p.2] := by
  unfold flI
  rw [List.flatMap_append]
  simp [itC]
theorem flI_at : ∀ (L : List (Cp × Value)) (i : Nat) (h : i < L.length) (j : Nat), j < 5 → (flI L)[i * 5 + j]? = (itC L[i])[j]?
  | [], i, h, _, _ => absurd h (Nat.not_lt_zero _)
  | b :: t, 0, _, j, hj => by
    show (itC b ++ flI t)[0 * 5 + j]? = _
    rw [Nat.zero_mul, Nat.zero_add, List.getElem?_append_left (by simpa [itC] using hj)]
    rfl
  | b :: t, i + 1, h, j, hj => by
    show (itC b ++ flI t)[(i + 1) * 5 + j]? = _
    have hl : (itC b).length = 5 := rfl
    rw [List.getElem?_append_right (by rw [hl]; omega), hl, show (i + 1) * 5 + j - 5 = i * 5 + j by omega]
    exact flI_at t i (by simpa using h) j hj
theorem infoItem : (Try.prog.info? 47).map (fun i => (i.zero, i.size, i.bytes)) = some (some (.agg #[.int .i64 0, .int .i64 0, .int .i64 0, .int .i64 0, .slice none 0 0]), 5, 56) := by kernel_rfl

/-- Two values with blocks apart. -/
def Ap (a b : Value) : Prop := ∀ k, a.ownBlock = some k → b.ownBlock ≠ some k
def OwnQ (w : World) (base : Nat) (u : Value) (q : List Int) : Prop := w.ownsRow base 2 1 u q.length (q.map (Value.int .i64))
/-- A row of items from block base on, each one's queue in a row of its own. -/
def ItsL (w : World) (base : Nat) (v : Value) (L : List (Cp × Value)) : Prop :=
  w.ownsRow base 47 5 v L.length (flI L) ∧ ∀ p ∈ L, OwnQ w base p.2 p.1.q ∧ Ap v p.2
def ItsOf (w : World) (base : Nat) (v : Value) (xs : List Cp) : Prop := ∃ L : List (Cp × Value), L.map (·.1) = xs ∧ ItsL w base v L
theorem ItsL.below {w w' : World} {base : Nat} {v : Value} {L : List (Cp × Value)} (h : ItsL w base v L) (hb : Below w.heap.size w w') : ItsL w' base v L :=
  ⟨ownBelow h.1 hb, fun p hp => ⟨ownBelow (h.2 p hp).1 hb, (h.2 p hp).2⟩⟩
theorem ItsL.mono {w : World} {base base' : Nat} {v : Value} {L : List (Cp × Value)} (h : ItsL w base v L) (hb : base' ≤ base) : ItsL w base' v L :=
  ⟨ownMono h.1 hb, fun p hp => ⟨ownMono (h.2 p hp).1 hb, (h.2 p hp).2⟩⟩
theorem ItsL.nil (w : World) (base : Nat) : ItsL w base (.slice none 0 0) [] := ⟨⟨rfl, .inl ⟨rfl, rfl⟩⟩, by simp⟩
theorem ItsL.form {w : World} {base : Nat} {v : Value} {L : List (Cp × Value)} (h : ItsL w base v L) : ∃ A c, v = .slice A L.length c := by
  rcases h.1.2 with ⟨rfl, h0⟩ | ⟨g, cap, cur, rfl, _⟩
  · exact ⟨none, 0, by rw [h0]⟩
  · exact ⟨_, _, rfl⟩
theorem ItsOf.below {w w' : World} {base : Nat} {v : Value} {xs : List Cp} (h : ItsOf w base v xs) (hb : Below w.heap.size w w') : ItsOf w' base v xs := by
  obtain ⟨L, h1, h2⟩ := h
  exact ⟨L, h1, h2.below hb⟩
theorem ItsOf.mono {w : World} {base base' : Nat} {v : Value} {xs : List Cp} (h : ItsOf w base v xs) (hb : base' ≤ base) : ItsOf w base' v xs := by
  obtain ⟨L, h1, h2⟩ := h
  exact ⟨L, h1, h2.mono hb⟩
theorem ItsOf.form {w : World} {base : Nat} {v : Value} {xs : List Cp} (h : ItsOf w base v xs) : ∃ A c, v = .slice A xs.length c := by
  obtain ⟨L, rfl, h2⟩ := h
  simpa using h2.form
theorem ItsL.cells {w : World} {base : Nat} {A : Option Addr} {n c : Nat} {L : List (Cp × Value)} (h : ItsL w base (.slice A n c) L) {i : Nat} (hi : i < L.length) :
    ∃ g, A = some ⟨g, 0, none⟩ ∧ base ≤ g ∧ g < w.heap.size ∧ ∀ j, j < 5 → w.cell? ⟨g, i * 5 + j, none⟩ = (itC L[i])[j]? := by
  rcases h.1.2 with ⟨e, h0⟩ | ⟨g, cap, cur, e, hb, hg, hc, _, hs, ht⟩
  · omega
  · cases e
    refine ⟨g, rfl, hb, (Array.getElem?_eq_some_iff.1 hg).1, fun j hj => ?_⟩
    rw [cell_of_row w g _ cur _ _ hg, ← flI_at L i hi j hj, ← ht, List.getElem?_take, if_pos (by omega), Array.getElem?_toList]
/-- An item in a row. -/
theorem ItsOf.at_ {w : World} {base : Nat} {A : Option Addr} {n c : Nat} {xs : List Cp} (h : ItsOf w base (.slice A n c) xs) {i : Nat} (hi : i < xs.length) :
    ∃ g, A = some ⟨g, 0, none⟩ ∧ base ≤ g ∧ g < w.heap.size ∧ w.cell? ⟨g, i * 5, none⟩ = some (.int .i64 xs[i].st) ∧ w.cell? ⟨g, i * 5 + 1, none⟩ = some (.int .i64 xs[i].who) ∧ w.cell? ⟨g, i * 5 + 2, none⟩ = some (.int .i64 xs[i].due) ∧ w.cell? ⟨g, i * 5 + 3, none⟩ = some (.int .i64 xs[i].ren) ∧ ∃ u, w.cell? ⟨g, i * 5 + 4, none⟩ = some u ∧ OwnQ w base u xs[i].q := by
  obtain ⟨L, rfl, h2⟩ := h
  have hl : i < L.length := by simpa using hi
  obtain ⟨g, e, hb, hg, hc⟩ := h2.cells hl
  simp only [List.getElem_map]
  exact ⟨g, e, hb, hg, hc 0 (by omega), hc 1 (by omega), hc 2 (by omega), hc 3 (by omega), _, hc 4 (by omega), (h2.2 _ (List.getElem_mem hl)).1⟩

theorem own_cell {w : World} {base : Nat} {e : TypeId} {size n : Nat} {v : Value} {xs : List Value} (h : w.ownsRow base e size v n xs) (g o : Nat) (u : Value) (hne : ∀ k, v.ownBlock = some k → k ≠ g) : (w.setCell ⟨g, o, none⟩ u).ownsRow base e size v n xs :=
  ownOther h (only_set2 (World.grownBy.refl w (some g)) o u) (fun k hk e => hne k hk (by injection e))

set_option maxHeartbeats 8000000 in
theorem itemOf_any (c : Cp) (wf : c.Wf) (u : Value) (w : World) (hq : IntsOf .i8 w u c.q) (hn : c.q.length ≤ 4) :
    Calls Try.prog 38 #[.agg #[.int .i8 c.st, .int .i8 c.who, .int .i16 c.due, .int .i8 c.ren, u]] w fun e w' => ∃ v, e = .returned (.agg #[.int .i64 c.st, .int .i64 c.who, .int .i64 c.due, .int .i64 c.ren, v]) ∧ w'.ownsRow w.heap.size 2 1 v c.q.length (c.q.map (Value.int .i64)) ∧ Below w.heap.size w w' := by
  have HQ := Lib.hid hq
  obtain ⟨A, kq, rfl, -⟩ := hq
  obtain ⟨i0, hi0, hz0, hz1, hz2⟩ := info_parts infoI64d
  have WF := Lib.hid wf
  have HW := Lib.hid wf.q
  clear wf
  go_enter Try.func38, Try.ntmps38
  go_wp2_with fail
  generalize hW : World.alloc (World.alloc w _) _ = W2
  have D0 := Lib.hid (show W2.heap[w.heap.size]? = some (.cells #[.int .i8 c.st, .int .i8 c.who, .int .i16 c.due, .int .i8 c.ren, .slice A c.q.length kq] 61 (0, 0)) by rw [← hW]; exact (alloc2 w _ _).1)
  have D1 := Lib.hid (show W2.heap[w.heap.size + 1]? = some (.cells #[.int .i64 0, .int .i64 0, .int .i64 0, .int .i64 0, .slice none 0 0] 47 (0, 0)) by rw [← hW]; exact (alloc2 w _ _).2)
  have G0 := Lib.hid (show Below w.heap.size w W2 by rw [← hW]; exact ((Below.refl _ _).alloc (Nat.le_refl _) _).alloc (by simp) _)
  have Z0 := Lib.hid (show w.heap.size + 1 < W2.heap.size by rw [← hW]; simp)
  clear hW
  refine (loanOf_any c WF.out _ _).mono ?_
  rintro e w1 ⟨rfl, h1⟩
  have G1 := Lib.hid (bnext G0.out h1)
  have Z1 := Lib.hid (Nat.lt_of_lt_of_le Z0.out h1.size)
  have E0 := Lib.hid ((h1.block w.heap.size (by have := Z0.out; omega)).trans D0.out)
  have E1 := Lib.hid ((h1.block (w.heap.size + 1) Z0.out).trans D1.out)
  have y4 : w1.cell? ⟨w.heap.size, 4, none⟩ = some (.slice A c.q.length kq) := cell_of_row w1 _ 4 _ _ _ E0.out
  clear h1
  have X0 := Lib.hid (heap_alloc_new w1 (.cells #[.int .i64 c.st, .int .i64 c.who, .int .i64 c.due, .int .i64 c.ren, .slice none 0 0] 47))
  have A0 := Lib.hid (show Below w1.heap.size w1 (w1.alloc (.cells #[.int .i64 c.st, .int .i64 c.who, .int .i64 c.due, .int .i64 c.ren, .slice none 0 0] 47)) from (Below.refl _ _).alloc (Nat.le_refl _) _)
  have y4' := (A0.out.cell (p := ⟨w.heap.size, 4, none⟩) (by show w.heap.size < _; have := Z1.out; omega)).trans y4
  have hlt1 := Z1.out
  go_wp2_with fail
  generalize hW : World.alloc w1 _ = W4 at X0 A0 y4' ⊢
  have S4 := Lib.hid (show w1.heap.size < W4.heap.size by rw [← hW]; simp)
  have B4 := Lib.hid (bnext G1.out A0.out)
  have R1 := Lib.hid ((A0.out.block (w.heap.size + 1) Z1.out).trans E1.out)
  have O0 := Lib.hid (show W4.ownsRow (w1.heap.size + 1) 2 1 (.slice none 0 0) 0 ((c.q.take 0).map (Value.int .i64)) from ⟨rfl, .inl ⟨rfl, rfl⟩⟩)
  clear hW y4 y4'
  have HA := Lib.hid HQ.out
  obtain ⟨A', kq', e', hat⟩ := HA.out
  cases e'
  have HAT := Lib.hid hat
  clear hat
  go_loopw [12] (fun i wr => ∃ (k : Nat) (vv : Value), k ≤ c.q.length ∧ i = .int .i64 (k : Int) ∧ wr.heap[w1.heap.size]? = some (.cells #[.int .i64 c.st, .int .i64 c.who, .int .i64 c.due, .int .i64 c.ren, vv] 47 (0, 0)) ∧ wr.ownsRow (w1.heap.size + 1) 2 1 vv k ((c.q.take k).map (Value.int .i64)) ∧ Below w1.heap.size W4 wr) (fun i _ => c.q.length - (intOf i).toNat)
  case atStart => exact ⟨0, _, Nat.zero_le _, rfl, X0.out, O0.out, Below.refl _ _⟩
  case round =>
    obtain ⟨k, vv, hk, rfl, hbx, hown, hb⟩ := hrel
    have BX := Lib.hid hbx
    have OW := Lib.hid hown
    have HB := Lib.hid hb
    obtain ⟨A3, c3, rfl⟩ := vlen_own1 hown
    have z4 := hb.size
    have zs := S4.out
    clear hbx hown hb
    by_cases hlt : k < c.q.length
    · obtain ⟨g, o, rfl, hg, hcells⟩ := HAT.out (by omega)
      have p0 := hcells k hlt
      have p0 := (G1.out.cell (p := ⟨g, o + k, none⟩) hg).trans p0
      have p0 := (A0.out.cell (p := ⟨g, o + k, none⟩) (Nat.lt_of_lt_of_le hg G1.out.size)).trans p0
      have p0 := (HB.out.cell (p := ⟨g, o + k, none⟩) (Nat.lt_of_lt_of_le hg G1.out.size)).trans p0
      obtain ⟨b1, b2⟩ := HW.out _ (List.getElem_mem hlt)
      have LS := Lib.hid (show (c.q.take (k + 1)).map (Value.int .i64) = (c.q.take k).map (Value.int .i64) ++ [.int .i64 c.q[k]] by rw [List.take_succ_eq_append_getElem hlt, List.map_append]; rfl)
      have t4 : wr.cell? ⟨w1.heap.size, 4, none⟩ = some (.slice A3 k c3) := cell_of_row wr _ 4 _ _ _ BX.out
      generalize c.q[k] = z at *
      clear hcells
      go_wp2_with (at_builtin; refine wpList_append_own _ rfl (.tmp 17) (.tmp 20) _ rfl (w1.heap.size + 1) 2 i0 (.int .i64 0) 1 8 Try.underlying45 hi0 hz0 hz1 hz2 rfl (by decide) _ _ _ rfl (OW.out.alloc _) ⟨wr.heap.size, 0, none⟩ 1 1 [.int .i64 z] rfl rfl ?c1 ?c2 ?c3 ?c4 ?c5 ?_)
      case c1 => exact cell_one_new _ _ _
      case c2 => (intro u hu; simp at hu; subst hu; rfl)
      case c3 => (unfold maxLen; omega)
      case c4 => omega
      case c5 => (simp; omega)
      intro v' w4 hown' hgrow' _
      obtain ⟨A5, c5, rfl⟩ := vlen_own1 hown'
      have hne : some w1.heap.size ≠ (Value.slice A3 k c3).ownBlock := fun e => by have := (OW.out.lt _ e.symm).1; omega
      have BX4 := Lib.hid ((hgrow'.block w1.heap.size (by simp; omega) hne).trans ((Below.heap_alloc wr _ w1.heap.size (by omega)).trans BX.out))
      have OW' := Lib.hid hown'
      have g4 := Lib.hid (show Below w1.heap.size W4 w4 from (HB.out.alloc (by omega) _).grown hgrow' (by simp; omega) (fun k hk => by have := (OW.out.lt k hk).1; omega))
      have t4' : w4.cell? ⟨w1.heap.size, 4, none⟩ = some (.slice A3 k c3) := cell_of_row w4 _ 4 _ _ _ BX4.out
      have f4 := fun j => frozen_of_row w4 w1.heap.size j _ _ BX4.out
      clear hown' hgrow' hne
      go_wp2
      go_roundw
      case rel =>
        refine ⟨k + 1, .slice A5 (k + 1) c5, by omega, by go_num, ?_, ?_, ?_⟩
        · have := heap_setCell_same _ w1.heap.size 4 _ _ (.slice A5 (k + 1) c5) BX4.out
          simpa using this
        · rw [LS.out]
          exact own_cell (show w4.ownsRow (w1.heap.size + 1) 2 1 (.slice A5 (k + 1) c5) (k + 1) _ by simpa using OW'.out) _ _ _ (fun k hk => by have := (OW'.out.lt k hk).1; omega)
        · exact g4.out.setCell (p := ⟨w1.heap.size, 4, none⟩) (Nat.le_refl _) _
      case measure => simp [intOf]; omega
    · obtain rfl : k = c.q.length := by omega
      have t0 : wr.cell? ⟨w1.heap.size, 0, none⟩ = some (.int .i64 c.st) := cell_of_row wr _ 0 _ _ _ BX.out
      have t1 : wr.cell? ⟨w1.heap.size, 1, none⟩ = some (.int .i64 c.who) := cell_of_row wr _ 1 _ _ _ BX.out
      have t2 : wr.cell? ⟨w1.heap.size, 2, none⟩ = some (.int .i64 c.due) := cell_of_row wr _ 2 _ _ _ BX.out
      have t3 : wr.cell? ⟨w1.heap.size, 3, none⟩ = some (.int .i64 c.ren) := cell_of_row wr _ 3 _ _ _ BX.out
      have t4 : wr.cell? ⟨w1.heap.size, 4, none⟩ = some (.slice A3 c.q.length c3) := cell_of_row wr _ 4 _ _ _ BX.out
      have RR := Lib.hid ((HB.out.block (w.heap.size + 1) Z1.out).trans R1.out)
      have r0 : wr.cell? ⟨w.heap.size + 1, 0, none⟩ = some (.int .i64 0) := cell_of_row wr _ 0 _ _ _ RR.out
      have r1 : wr.cell? ⟨w.heap.size + 1, 1, none⟩ = some (.int .i64 0) := cell_of_row wr _ 1 _ _ _ RR.out
      have r2 : wr.cell? ⟨w.heap.size + 1, 2, none⟩ = some (.int .i64 0) := cell_of_row wr _ 2 _ _ _ RR.out
      have r3 : wr.cell? ⟨w.heap.size + 1, 3, none⟩ = some (.int .i64 0) := cell_of_row wr _ 3 _ _ _ RR.out
      have r4 : wr.cell? ⟨w.heap.size + 1, 4, none⟩ = some (.slice none 0 0) := cell_of_row wr _ 4 _ _ _ RR.out
      have fr := fun j => frozen_of_row wr (w.heap.size + 1) j _ _ RR.out
      have hz1' := Z1.out
      go_wp2
      refine bodyPost_ret (v := .agg #[.int .i64 c.st, .int .i64 c.who, .int .i64 c.due, .int .i64 c.ren, .slice A3 c.q.length c3]) (by simp [results, Try.results38, go_sem, r0, r1, r2, r3, r4]) rfl ?_
      refine ⟨_, rfl, ?_, ?_⟩
      · have O9 := Lib.hid (show wr.ownsRow w.heap.size 2 1 (.slice A3 c.q.length c3) c.q.length (c.q.map (Value.int .i64)) by
          have := ownMono OW.out (show w.heap.size ≤ w1.heap.size + 1 by omega)
          rwa [List.take_length] at this)
        have hnb := Lib.hid (fun k hk => (OW.out.lt k hk).1)
        repeat (refine own_cell ?_ _ _ _ (fun k hk => by have := hnb.out k hk; omega))
        exact O9.out
      · repeat (refine Below.setCell ?_ (by first | (simp; done) | (simp; omega) | omega) _)
        exact B4.out.trans (HB.out.mono (by have := G1.out.size; omega))
end Go.Proofs.Ytmafjncaigllbab
