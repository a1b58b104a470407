/- Slices of numbers: how they read when they come in; the law's copies, comparisons and marks: contracts. Condition: no longer than a slice can be (the copies: than the law tests). -/
import Derived.Test.YtjeflpohokjjkaaOrd
import Derived.Test.YtjeflpohokjjkaaQuiet
import Derived.Maps.AppendAt
namespace Go.Proofs.Ytjeflpohokjjkaa
set_option linter.unusedSimpArgs false
set_option linter.unusedVariables false
set_option maxRecDepth 100000
open Go.ChangeShapes Go.WideShapes Go.ChangeAt Go.RowKit

section
variable {H : Type} {enc : TypeId × Value → H} {w : World} {base : Nat} {spare : Nat → Bool} {held : Bool}
/-- A slice of numbers among cells that came in. -/
theorem ints_of_trod {t e : TypeId} {k : IntKind} {fuel : Nat} {cs : List Value} {x : DataW H × List MemPlace} (ht : Try.prog.underlying t = some (.slice e)) (he : Try.prog.underlying e = some (.int k)) (hc : Try.prog.cellsOf e = 1)
    (hf : DataW.trod enc Try.prog w base spare held fuel t cs = some x) : ∃ (v : Value) (zs : List Int), cs = [v] ∧ (∀ z ∈ zs, (Lit.int k z).wf = true) ∧ IntsOf k w v zs ∧ zs.length ≤ maxLen := by
  rcases open_ints ht he hc hf with ⟨rfl, _⟩ | ⟨a', len, cap, zs, rfl, _, hl, hm, hz, _, hcell, hwz⟩
  · exact ⟨_, [], rfl, by simp, ⟨_, _, rfl, fun h => absurd h (Nat.lt_irrefl _)⟩, by simp⟩
  · have hlz : len ≤ zs.length := by rw [hz]; split <;> omega
    have e : (zs.take len).length = len := by simp; omega
    refine ⟨_, zs.take len, rfl, fun z hz => hwz z (List.mem_of_mem_take hz), ⟨some a', cap, by rw [e], fun h0 => ?_⟩, by rw [e]; omega⟩
    rw [e] at h0
    have h1 := hcell 0 (by omega)
    have hs : a'.spot = none := by simpa [Addr.add] using World.cell?_spot h1
    obtain ⟨g, o, sp⟩ := a'
    simp only at hs
    subst hs
    refine ⟨g, o, rfl, ?_, fun i hi => ?_⟩
    · have h2 := block_lt_of_cell h1
      rwa [block_of_add] at h2
    · rw [e] at hi
      have h2 := hcell i (by omega)
      rw [Addr.add_lit] at h2
      rw [h2, List.getElem_take]
      simp [List.getD, List.getElem?_eq_getElem (show i < zs.length by omega)]
theorem ints_of_arg {t e : TypeId} {k : IntKind} {r : Reach} {b0 : Nat} {v : Value} {d : DataW H} {p : List MemPlace} (ht : Try.prog.underlying t = some (.slice e)) (he : Try.prog.underlying e = some (.int k)) (hc : Try.prog.cellsOf e = 1)
    (hv : Value.okWide Try.prog w r b0 t v) (h : DataW.Trod enc Try.prog w base spare held t v d p) : ∃ zs : List Int, (∀ z ∈ zs, (Lit.int k z).wf = true) ∧ IntsOf k w v zs ∧ zs.length ≤ maxLen := by
  obtain ⟨a, len, cap, rfl⟩ := okWide_slice ht hv
  obtain ⟨fuel, hf⟩ := h
  obtain ⟨v, zs, hcs, h1, h2, h3⟩ := ints_of_trod ht he hc hf
  have hv : v = .slice a len cap := by simpa [Value.cells] using hcs.symm
  subst hv
  exact ⟨zs, h1, h2, h3⟩
end

/-- A part of a slice of numbers. -/
theorem IntsOf.at_ {k : IntKind} {w : World} {v : Value} {zs : List Int} (h : IntsOf k w v zs) : ∃ A c, v = .slice A zs.length c ∧ (0 < zs.length → ∃ g o, A = some ⟨g, o, none⟩ ∧ g < w.heap.size ∧ IntsAt k w g o zs) := h

theorem ownBelow {w w' : World} {base : Nat} {e : TypeId} {size n : Nat} {v : Value} {xs : List Value} (h : w.ownsRow base e size v n xs) (hb : Below w.heap.size w w') : w'.ownsRow base e size v n xs := by
  refine ⟨h.1, ?_⟩
  rcases h.2 with hn | ⟨g, cap, cur, hv, hbg, hg, rest⟩
  · exact .inl hn
  · exact .inr ⟨g, cap, cur, hv, hbg, (hb.block g (Array.getElem?_eq_some_iff.1 hg).1).trans hg, rest⟩
theorem ownMono {w : World} {base base' : Nat} {e : TypeId} {size n : Nat} {v : Value} {xs : List Value} (h : w.ownsRow base e size v n xs) (hb : base' ≤ base) : w.ownsRow base' e size v n xs := by
  refine ⟨h.1, ?_⟩
  rcases h.2 with hn | ⟨g, cap, cur, hv, hbg, rest⟩
  · exact .inl hn
  · exact .inr ⟨g, cap, cur, hv, by omega, rest⟩
theorem ownOther {w w' : World} {base : Nat} {e : TypeId} {size n : Nat} {v : Value} {xs : List Value} {row : Option Nat} (h : w.ownsRow base e size v n xs) (hg : w.grownBy w' row) (hne : ∀ k, v.ownBlock = some k → some k ≠ row) : w'.ownsRow base e size v n xs := by
  refine h.kept hg ?_
  cases hv : v.ownBlock with
  | none => exact .inl rfl
  | some k => exact .inr (hne k hv)
theorem ownInts {w : World} {base : Nat} {v : Value} {l : List Int} {t : TypeId} {k : IntKind} (h : w.ownsRow base t 1 v l.length (l.map (Value.int k))) : IntsOf k w v l := by
  rcases h.2 with ⟨rfl, hn⟩ | ⟨g, cap, cur, rfl, hb, hg, _⟩
  · exact ⟨none, 0, by rw [hn], fun h0 => absurd h0 (by omega)⟩
  · refine ⟨_, cap, rfl, fun _ => ⟨g, 0, rfl, (Array.getElem?_eq_some_iff.1 hg).1, fun i hi => ?_⟩⟩
    rw [Nat.zero_add, h.cellAt i (by omega)]
    simp [List.getElem?_eq_getElem hi]
theorem only_set2 {a w : World} {g : Nat} (h : a.grownBy w (some g)) (o : Nat) (u : Value) : a.grownBy (w.setCell ⟨g, o, none⟩ u) (some g) :=
  ⟨h.os, h.tape, h.output, by simpa [World.setCell] using h.size, fun i hi hne => (Below.heap_setCell w ⟨g, o, none⟩ u i (by rintro rfl; exact hne rfl)).trans (h.block i hi hne)⟩


set_option maxHeartbeats 2000000 in
theorem eqInt64S_same' (v1 v2 : Value) (zs : List Int) (w : World) (hs1 : IntsOf .i64 w v1 zs) (hs2 : IntsOf .i64 w v2 zs) (hn : zs.length ≤ maxLen) :
    Calls Try.prog 10 #[v1, v2] w fun e w' => e = .returned (.bool true) ∧ Below w.heap.size w w' := by
  obtain ⟨A1, k1, rfl, hs1⟩ := hs1
  obtain ⟨A2, k2, rfl, hs2⟩ := hs2
  unfold maxLen at hn
  have H1 := Lib.hid hs1
  have H2 := Lib.hid hs2
  clear hs1 hs2
  go_enter Try.func10, Try.ntmps10
  go_wp2
  go_loopw [5] (fun i wr => ∃ k : Nat, k ≤ zs.length ∧ i = .int .i64 k ∧ Below w.heap.size w wr) (fun i _ => zs.length - (intOf i).toNat)
  case atStart => exact ⟨0, Nat.zero_le _, rfl, Below.refl _ _⟩
  case round =>
    obtain ⟨k, hk, rfl, hb⟩ := hrel
    by_cases hlt : k < zs.length
    · obtain ⟨g1, o1, rfl, hg1, ha1⟩ := H1.out (by omega)
      obtain ⟨g2, o2, rfl, hg2, ha2⟩ := H2.out (by omega)
      have p0 := ha1.below hb hg1 k hlt
      have q0 := ha2.below hb hg2 k hlt
      clear ha1 ha2
      go_wp2
      go_quiet (fail)
      clear p0 q0
      go_wp2
      go_roundw
      case rel => exact ⟨k + 1, by omega, by go_num, below_drewN hb _⟩
      case measure => simp [intOf]; omega
    · obtain rfl : k = zs.length := by omega
      go_wp2
      go_ret
      exact ⟨rfl, hb⟩


/-- What the marks leave, from the number k0 on: the first j of them. -/
def mksTo (k0 : Int) (l : List Int) (j : Nat) : List Int := (List.range l.length).map fun i => if i < j then k0 + (i : Int) else l.getD i 0
theorem mksTo_zero (k0 : Int) (l : List Int) : mksTo k0 l 0 = l := by
  refine List.ext_getElem (by simp [mksTo]) fun i h1 h2 => ?_
  simp [mksTo, List.getD, List.getElem?_eq_getElem h2]
theorem mksTo_length (k0 : Int) (l : List Int) (j : Nat) : (mksTo k0 l j).length = l.length := by simp [mksTo]
theorem mksTo_succ (k0 : Int) (k : IntKind) (l : List Int) (j : Nat) (hj : j < l.length) : ((mksTo k0 l j).map (Value.int k)).set j (.int k (k0 + j)) = (mksTo k0 l (j + 1)).map (Value.int k) := by
  refine List.ext_getElem (by simp [mksTo]) fun i h1 h2 => ?_
  rw [List.getElem_set]
  by_cases e : j = i
  · subst e
    simp [mksTo]
  · rw [if_neg e]
    simp [mksTo]
    by_cases h : i < j
    · rw [if_pos h, if_pos (by omega)]
    · rw [if_neg h, if_neg (by omega)]
def mks (k0 : Int) (l : List Int) : List Int := mksTo k0 l l.length
theorem mks_length (k0 : Int) (l : List Int) : (mks k0 l).length = l.length := mksTo_length _ _ _

set_option maxHeartbeats 2000000 in
theorem markI64_any (v : Value) (l : List Int) (k0 : Int) (base : Nat) (w : World) (hn : l.length ≤ 1048576) (hk0 : 0 ≤ k0) (hk1 : k0 ≤ 1000000000000) (hown : w.ownsRow base 2 1 v l.length (l.map (Value.int .i64))) :
    Calls Try.prog 13 #[v, .int .i64 k0] w fun e w' => e = .returned (.int .i64 (k0 + l.length)) ∧ w'.ownsRow base 2 1 v (mks k0 l).length ((mks k0 l).map (Value.int .i64)) ∧ w.grownBy w' v.ownBlock := by
  have el := mks_length k0 l
  by_cases h0 : l = []
  · subst h0
    obtain ⟨A, c, rfl⟩ : ∃ A c, v = .slice A 0 c := by
      rcases hown.2 with ⟨rfl, _⟩ | ⟨g, cap, cur, rfl, _⟩
      · exact ⟨_, _, rfl⟩
      · exact ⟨_, _, rfl⟩
    have HO := Lib.hid hown
    clear hown el hn
    go_enter Try.func13, Try.ntmps13
    go_wp2
    refine wp_loop_rounds 1 ?_
    rw [rounds_succ]; go_wp2
    go_ret
    exact ⟨by simp, HO.out, World.grownBy.refl w _⟩
  · have hpos : 0 < l.length := List.length_pos_iff.2 h0
    obtain ⟨g, cap, rfl⟩ : ∃ g cap, v = .slice (some ⟨g, 0, none⟩) l.length cap := by
      rcases hown.2 with ⟨_, h⟩ | ⟨g, cap, cur, h, _⟩
      · omega
      · exact ⟨g, cap, h⟩
    have HO := Lib.hid hown
    clear hown h0
    rw [el]
    clear el
    go_enter Try.func13, Try.ntmps13
    go_wp2
    go_loopw [1, 5] (fun x i wr => ∃ j : Nat, j ≤ l.length ∧ i = .int .i64 j ∧ x = .int .i64 (k0 + (j : Int)) ∧ wr.ownsRow base 2 1 (.slice (some ⟨g, 0, none⟩) l.length cap) l.length ((mksTo k0 l j).map (Value.int .i64)) ∧ w.grownBy wr (some g)) (fun _ i _ => l.length - (intOf i).toNat)
    case atStart => exact ⟨0, Nat.zero_le _, rfl, by simp, by rw [mksTo_zero]; exact HO.out, World.grownBy.refl w _⟩
    case round =>
      obtain ⟨j, hj, rfl, rfl, how, hgr⟩ := hrel
      have HW := Lib.hid how
      have HG := Lib.hid hgr
      clear how hgr
      by_cases hlt : j < l.length
      · have hlj : j < (mksTo k0 l j).length := by rw [mksTo_length]; exact hlt
        obtain ⟨u, hu⟩ : ∃ u, wr.cell? ⟨g, j, none⟩ = some u := ⟨_, (HW.out.cellAt j (by omega)).trans (by rw [List.getElem?_eq_getElem (by simpa using hlj)])⟩
        have fz := HW.out.frozenAt
        clear hlj
        go_wp2
        go_roundw
        case rel => exact ⟨j + 1, by omega, by go_num, by first | go_num | (congr 1; push_cast; omega), by rw [← mksTo_succ k0 .i64 l j hlt]; exact (HW.out.stored j _).1, only_set2 HG.out _ _⟩
        case measure => simp [intOf]; omega
      · obtain rfl : j = l.length := by omega
        go_wp2
        go_ret
        exact ⟨rfl, HW.out, HG.out⟩
set_option maxHeartbeats 2000000 in
theorem heldI64_any (v : Value) (l : List Int) (k0 : Int) (w : World) (hn : l.length ≤ 1048576) (hk0 : 0 ≤ k0) (hk1 : k0 ≤ 1000000000000) (hs : IntsOf .i64 w v (mks k0 l)) :
    Calls Try.prog 14 #[v, .int .i64 k0] w fun e w' => e = .returned (.int .i64 (k0 + l.length)) ∧ Below w.heap.size w w' := by
  obtain ⟨A, c, rfl, hs⟩ := hs
  have el := mks_length k0 l
  have HS := Lib.hid hs
  have EL := Lib.hid el
  clear hs
  rw [el]
  clear el
  go_enter Try.func14, Try.ntmps14
  go_wp2
  go_loopw [1, 5] (fun x i wr => ∃ j : Nat, j ≤ l.length ∧ i = .int .i64 j ∧ x = .int .i64 (k0 + (j : Int)) ∧ Below w.heap.size w wr) (fun _ i _ => l.length - (intOf i).toNat)
  case atStart => exact ⟨0, Nat.zero_le _, rfl, by simp, Below.refl _ _⟩
  case round =>
    obtain ⟨j, hj, rfl, rfl, hb⟩ := hrel
    by_cases hlt : j < l.length
    · obtain ⟨g, o, rfl, hg, hat⟩ := HS.out (by have := EL.out; omega)
      have c0 := hat.below hb hg j (by have := EL.out; omega)
      have e : (mks k0 l)[j]'(by have := EL.out; omega) = k0 + (j : Int) := by simp [mks, mksTo, hlt]
      rw [e] at c0
      clear hat e
      go_wp2
      go_roundw
      case rel => exact ⟨j + 1, by omega, by go_num, by first | go_num | (congr 1; push_cast; omega), hb⟩
      case measure => simp [intOf]; omega
    · obtain rfl : j = l.length := by omega
      go_wp2
      go_ret
      exact ⟨rfl, hb⟩
end Go.Proofs.Ytjeflpohokjjkaa
