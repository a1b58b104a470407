/- Which orders are valid: the model's function and the program's, contracts. Condition: the order is no longer than a slice can be, its numbers are int8s. -/
import Derived.Test.YtnkkabbndmfhmaaOrd2
namespace Go.Proofs.Ytnkkabbndmfhmaa
set_option linter.unusedSimpArgs false
set_option linter.unusedVariables false
set_option maxRecDepth 100000
open Go.RowKit

def SeenAt (w : World) (g : Nat) (fs : List Int) : Prop :=
  ∃ cs : Array Value, w.heap[g]? = some (.cells cs 105 (0, 0)) ∧ cs.size = 7 ∧ ∀ j : Nat, j < 7 → cs[j]? = some (.bool (decide ((j : Int) ∈ fs)))

theorem SeenAt.start (w : World) : SeenAt (w.alloc (.cells #[.bool false, .bool false, .bool false, .bool false, .bool false, .bool false, .bool false] 105)) w.heap.size [] := by
  refine ⟨_, heap_alloc_new w _, rfl, fun j hj => ?_⟩
  have : j = 0 ∨ j = 1 ∨ j = 2 ∨ j = 3 ∨ j = 4 ∨ j = 5 ∨ j = 6 := by omega
  rcases this with rfl | rfl | rfl | rfl | rfl | rfl | rfl <;> rfl
theorem SeenAt.below {w w' : World} {B g : Nat} {fs : List Int} (h : SeenAt w g fs) (hb : Below B w w') (hg : g < B) : SeenAt w' g fs := by
  obtain ⟨cs, h, h2⟩ := h
  exact ⟨cs, (hb.block g hg).trans h, h2⟩
theorem SeenAt.lt {w : World} {g : Nat} {fs : List Int} (h : SeenAt w g fs) : g < w.heap.size := by
  obtain ⟨cs, h, _⟩ := h
  rcases Nat.lt_or_ge g w.heap.size with hlt | hge
  · exact hlt
  · rw [Array.getElem?_eq_none hge] at h; cases h
theorem SeenAt.cell {w : World} {g : Nat} {fs : List Int} (h : SeenAt w g fs) (j : Nat) (hj : j < 7) : w.cell? ⟨g, j, none⟩ = some (.bool (decide ((j : Int) ∈ fs))) := by
  obtain ⟨cs, h, _, h3⟩ := h
  rw [cell_of_row w g _ cs _ _ h]
  exact h3 j hj
theorem SeenAt.frozen {w : World} {g : Nat} {fs : List Int} (h : SeenAt w g fs) (o : Nat) : w.frozen? ⟨g, o, none⟩ = false := by
  obtain ⟨cs, h, _⟩ := h
  exact frozen_of_row w g _ cs _ h
theorem SeenAt.set {w : World} {g : Nat} {fs : List Int} (h : SeenAt w g fs) (n : Nat) (hn : n < 7) : SeenAt (w.setCell ⟨g, n, none⟩ (.bool true)) g (fs ++ [(n : Int)]) := by
  obtain ⟨cs, h1, h2, h3⟩ := h
  refine ⟨_, heap_setCell_same _ _ _ _ _ _ h1, by simpa using h2, fun j hj => ?_⟩
  rw [Array.getElem?_setIfInBounds]
  by_cases e : n = j
  · subst e
    rw [if_pos rfl, if_pos (by omega)]
    simp
  · rw [if_neg e, h3 j hj]
    congr 2
    rw [Bool.eq_iff_iff]
    simp only [decide_eq_true_eq, List.mem_append, List.mem_singleton]
    constructor
    · exact Or.inl
    · rintro (h | h)
      · exact h
      · omega

theorem fieldOf_bd (z : Int) (h0 : -128 ≤ z) (h1 : z ≤ 127) : -128 ≤ fieldOf z ∧ fieldOf z ≤ 127 := by
  unfold fieldOf
  split
  · split <;> omega
  · omega

set_option maxHeartbeats 4000000 in
theorem l01Order_any (v : Value) (zs : List Int) (hz : ∀ z ∈ zs, -128 ≤ z ∧ z ≤ 127) (w : World) (hs : IntsOf .i8 w v zs) (hn : zs.length ≤ maxLen) :
    Calls Try.prog 44 #[v] w fun e w' => e = .returned (.bool (okO zs)) ∧ Below w.heap.size w w' := by
  obtain ⟨A, c, rfl, hs⟩ := hs
  unfold maxLen at hn
  have HS := Lib.hid hs
  have HZ := Lib.hid hz
  have H0 := Lib.hid (SeenAt.start w)
  clear hs hz
  go_enter Try.func44, Try.ntmps44
  go_wp2
  go_loopw [4, 5] (fun i _ wr => ∃ k : Nat, k ≤ zs.length ∧ i = .int .i64 k ∧ GoodTo zs k ∧ SeenAt wr w.heap.size (fsOf zs k) ∧ Below w.heap.size w wr) (fun i _ _ => zs.length - (intOf i).toNat)
  case atStart => exact ⟨0, Nat.zero_le _, rfl, goodTo_zero zs, H0.out, (Below.refl _ _).alloc (Nat.le_refl _) _⟩
  case round =>
    obtain ⟨k, hk, rfl, hgood, hseen, hb⟩ := hrel
    have HG := Lib.hid hgood
    clear hgood
    by_cases hlt : k < zs.length
    · obtain ⟨ga, oa, rfl, hga, hat⟩ := HS.out (by omega)
      have p0 := hat.below hb hga k hlt
      obtain ⟨z0, z1⟩ := HZ.out zs[k] (List.getElem_mem hlt)
      obtain ⟨b0, b1⟩ := fieldOf_bd zs[k] z0 z1
      have HE := Lib.hid hseen
      clear hat hseen
      go_wp2_with fail
      refine (l01Field_any zs[k] _ z0 z1).mono ?_
      rintro e w' ⟨rfl, rfl⟩
      clear p0 z0 z1
      have FR := Lib.hid (fun h => okO_range hlt h)
      have FD := Lib.hid (fun h => okO_dup hlt h)
      have FS := Lib.hid (fun h h2 => HG.out.succ hlt h h2)
      have FE := Lib.hid (fsOf_succ zs k hlt)
      clear HG
      generalize fieldOf zs[k] = f at b0 b1 FR FD FS FE ⊢
      cases hi : inB f 1 6
      · go_wp2_with (go_at_call 77; refine (l00In_any _ _ _ _).mono ?_; rintro e w' ⟨rfl, rfl⟩)
        go_ret
        exact ⟨by rw [FR.out hi]; rfl, hb⟩
      · have hr : 1 ≤ f ∧ f ≤ 6 := by unfold inB at hi; simpa using hi
        obtain ⟨n, rfl⟩ : ∃ n : Nat, f = n := ⟨f.toNat, by omega⟩
        have hn1 : 1 ≤ n := by omega
        have hn6 : n ≤ 6 := by omega
        have c0 := HE.out.cell n (by omega)
        have fz := HE.out.frozen
        by_cases hd : (n : Int) ∈ fsOf zs k
        · rw [decide_eq_true hd] at c0
          have HD := Lib.hid hd
          have HR := Lib.hid hr
          clear hd hr
          go_wp2_with (go_at_call 77; refine (l00In_any _ _ _ _).mono ?_; rintro e w' ⟨rfl, rfl⟩)
          go_ret
          exact ⟨by rw [FD.out HD.out]; rfl, hb⟩
        · rw [decide_eq_false hd] at c0
          have HD := Lib.hid hd
          have HR := Lib.hid hr
          clear hd hr
          go_wp2_with (go_at_call 77; refine (l00In_any _ _ _ _).mono ?_; rintro e w' ⟨rfl, rfl⟩)
          go_roundw
          case rel => exact ⟨k + 1, by omega, by go_num, FS.out HR.out HD.out, by rw [FE.out]; exact HE.out.set n (by omega), hb.setCell (p := ⟨w.heap.size, n, none⟩) (Nat.le_refl _) _⟩
          case measure => simp [intOf]; omega
    · obtain rfl : k = zs.length := by omega
      go_wp2
      go_ret
      refine ⟨?_, hb⟩
      rw [okO_all HG.out]
      rfl

set_option maxHeartbeats 4000000 in
theorem validOrder_any (v : Value) (zs : List Int) (hz : ∀ z ∈ zs, -128 ≤ z ∧ z ≤ 127) (w : World) (hs : IntsOf .i8 w v zs) (hn : zs.length ≤ maxLen) :
    Calls Try.prog 48 #[v] w fun e w' => e = .returned (.bool (okO zs)) ∧ Below w.heap.size w w' := by
  obtain ⟨A, c, rfl, hs⟩ := hs
  unfold maxLen at hn
  have HS := Lib.hid hs
  have HZ := Lib.hid hz
  have H0 := Lib.hid (SeenAt.start w)
  clear hs hz
  cases hi0 : inB (zs.length : Int) 1 6
  · have HO := Lib.hid (okO_len hi0)
    go_enter Try.func48, Try.ntmps48
    go_wp2_with (go_at_call 81; refine (withinInt_any _ _ _ _).mono ?_; rintro e w' ⟨rfl, rfl⟩)
    go_ret
    exact ⟨by rw [HO.out]; rfl, Below.refl _ _⟩
  · have hpos : 0 < zs.length := by unfold inB at hi0; simp at hi0; omega
    go_enter Try.func48, Try.ntmps48
    go_wp2_with (go_at_call 81; refine (withinInt_any _ _ _ _).mono ?_; rintro e w' ⟨rfl, rfl⟩)
    clear hi0
    go_loopw [13, 5, 6] (fun i _ _ wr => ∃ k : Nat, k ≤ zs.length ∧ i = .int .i64 k ∧ GoodTo zs k ∧ SeenAt wr w.heap.size (fsOf zs k) ∧ Below w.heap.size w wr) (fun i _ _ _ => zs.length - (intOf i).toNat)
    case atStart => exact ⟨0, Nat.zero_le _, rfl, goodTo_zero zs, H0.out, (Below.refl _ _).alloc (Nat.le_refl _) _⟩
    case round =>
      obtain ⟨k, hk, rfl, hgood, hseen, hb⟩ := hrel
      have HG := Lib.hid hgood
      clear hgood
      by_cases hlt : k < zs.length
      · obtain ⟨ga, oa, rfl, hga, hat⟩ := HS.out (by omega)
        have p0 := hat.below hb hga k hlt
        obtain ⟨z0, z1⟩ := HZ.out zs[k] (List.getElem_mem hlt)
        have HE := Lib.hid hseen
        clear hat hseen
        have FR := Lib.hid (fun h => okO_range hlt h)
        have FD := Lib.hid (fun h => okO_dup hlt h)
        have FS := Lib.hid (fun h h2 => HG.out.succ hlt h h2)
        have FE := Lib.hid (fsOf_succ zs k hlt)
        clear HG
        generalize zs[k] = z at p0 z0 z1 FR FD FS FE ⊢
        have hc : z = -128 ∨ (∃ f, z = -f ∧ 1 ≤ f ∧ f ≤ 127 ∧ fieldOf z = f) ∨ (∃ f, f = z ∧ 0 ≤ f ∧ f ≤ 127 ∧ fieldOf z = f) := by
          unfold fieldOf
          by_cases h1 : z = -128
          · exact .inl h1
          · by_cases h2 : z < 0
            · exact .inr (.inl ⟨-z, by omega, by omega, by omega, by rw [if_pos h2, if_neg h1]⟩)
            · exact .inr (.inr ⟨z, rfl, by omega, by omega, by rw [if_neg h2]⟩)
        rcases hc with rfl | ⟨f, rfl, f0, f1, hf⟩ | ⟨f, rfl, f0, f1, hf⟩
        · go_wp2_with (go_at_call 82; refine (within8s_any _ _ _ _).mono ?_; rintro e w' ⟨rfl, rfl⟩; simp only [inB, Int.reduceLE, Int.reduceNeg, false_and, decide_false])
          go_ret
          exact ⟨by rw [FR.out (by decide)]; rfl, hb⟩
        all_goals
          rw [hf] at FR FD FS FE
          clear hf
          cases hi : inB f 1 6
          · go_wp2_with (go_at_call 82; refine (within8s_any _ _ _ _).mono ?_; rintro e w' ⟨rfl, rfl⟩)
            go_ret
            exact ⟨by rw [FR.out hi]; rfl, hb⟩
          · have hr : 1 ≤ f ∧ f ≤ 6 := by unfold inB at hi; simpa using hi
            obtain ⟨n, rfl⟩ : ∃ n : Nat, f = n := ⟨f.toNat, by omega⟩
            have hn1 : 1 ≤ n := by omega
            have hn6 : n ≤ 6 := by omega
            have c0 := HE.out.cell n (by omega)
            have fz := HE.out.frozen
            by_cases hd : (n : Int) ∈ fsOf zs k
            · rw [decide_eq_true hd] at c0
              have HD := Lib.hid hd
              have HR := Lib.hid hr
              clear hd hr
              go_wp2_with (go_at_call 82; refine (within8s_any _ _ _ _).mono ?_; rintro e w' ⟨rfl, rfl⟩)
              go_ret
              exact ⟨by rw [FD.out HD.out]; rfl, hb⟩
            · rw [decide_eq_false hd] at c0
              have HD := Lib.hid hd
              have HR := Lib.hid hr
              clear hd hr
              go_wp2_with (go_at_call 82; refine (within8s_any _ _ _ _).mono ?_; rintro e w' ⟨rfl, rfl⟩)
              go_roundw
              case rel => exact ⟨k + 1, by omega, by go_num, FS.out HR.out HD.out, by rw [FE.out]; exact HE.out.set n (by omega), hb.setCell (p := ⟨w.heap.size, n, none⟩) (Nat.le_refl _) _⟩
              case measure => simp [intOf]; omega
      · obtain rfl : k = zs.length := by omega
        go_wp2
        go_ret
        refine ⟨?_, hb⟩
        rw [okO_all HG.out, decide_eq_true hpos]
        rfl

end Go.Proofs.Ytnkkabbndmfhmaa
