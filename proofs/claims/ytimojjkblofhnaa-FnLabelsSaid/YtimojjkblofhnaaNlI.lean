/- Labels with two bytes exchanged, by the program: a contract. No condition. -/
import Derived.Test.YtimojjkblofhnaaNlA
import Derived.Laws.IdiomStrings
import Derived.BigRegion
import Derived.RegionTactic
namespace Go.Proofs.Ytimojjkblofhnaa
set_option linter.unusedSimpArgs false
set_option linter.unusedVariables false
set_option maxRecDepth 100000
open Go.RowKit

theorem heap_alloc_newF (W : World) (cs : Array Value) (t : TypeId) (fr : Nat × Nat) : (W.alloc (.cells cs t fr)).heap[W.heap.size]? = some (.cells cs t fr) := heap_alloc_new W _
def RowY (w : World) (g : Nat) (X : List UInt8) : Prop := ∃ cs fr, w.heap[g]? = some (.cells cs 5 fr) ∧ X.length ≤ cs.size ∧ (∀ i (h : i < X.length), cs[i]? = some (.int .u8 (X[i].toNat : Int))) ∧ ∀ o, o < X.length → (decide (fr.1 ≤ o) && decide (o < fr.2)) = false
theorem RowY.lt {w : World} {g : Nat} {X : List UInt8} (h : RowY w g X) : g < w.heap.size := by
  obtain ⟨cs, fr, h, _⟩ := h
  exact (Array.getElem?_eq_some_iff.1 h).1
theorem RowY.cell {w : World} {g : Nat} {X : List UInt8} (h : RowY w g X) (i : Nat) (hi : i < X.length) : w.cell? ⟨g, i, none⟩ = some (.int .u8 (X[i].toNat : Int)) := by
  obtain ⟨cs, fr, h, _, h3, _⟩ := h
  rw [cell_of_row w g _ _ _ _ h]
  exact h3 i hi
theorem RowY.frozen {w : World} {g : Nat} {X : List UInt8} (h : RowY w g X) (o : Nat) (ho : o < X.length) : w.frozen? ⟨g, o, none⟩ = false := by
  obtain ⟨cs, fr, h, _, _, h4⟩ := h
  have := h4 o ho
  simp only [World.frozen?, h]
  exact this
theorem RowY.put {w : World} {g : Nat} {X : List UInt8} (h : RowY w g X) (i : Nat) (hi : i < X.length) (x : UInt8) : RowY (w.setCell ⟨g, i, none⟩ (.int .u8 (x.toNat : Int))) g (X.set i x) := by
  obtain ⟨cs, fr, h, h2, h3, h4⟩ := h
  refine ⟨cs.setIfInBounds i (.int .u8 (x.toNat : Int)), fr, ?_, by simpa using h2, fun j hj => ?_, fun o ho => h4 o (by simpa using ho)⟩
  · rw [World.setCell, Array.getElem?_modify, if_pos rfl, h]
    rfl
  · rw [Array.getElem?_setIfInBounds]
    by_cases e : i = j
    · subst e
      rw [if_pos rfl, if_pos (by omega)]
      simp
    · rw [if_neg e, List.getElem_set_ne e]
      exact h3 j (by simpa using hj)
theorem RowY.drew {w : World} {g : Nat} {X : List UInt8} (h : RowY w g X) : RowY w.drew g X := h
theorem RowY.below {w w' : World} {g : Nat} {X : List UInt8} (h : RowY w g X) (hb : Below w.heap.size w w') : RowY w' g X := by
  have hl := h.lt
  obtain ⟨cs, fr, h, h2⟩ := h
  exact ⟨cs, fr, (hb.block g hl).trans h, h2⟩
theorem RowY.text {w : World} {g cap n : Nat} {X : List UInt8} (h : RowY w g X) (hn : X.length = n) : (convert 22 9 (.slice (some ⟨g, 0, none⟩) n cap)).run Try.prog w = .ok (.string (tB X)) w := by
  subst hn
  exact run_convert_bytes_back (P := Try.prog) w 22 9 5 ⟨g, 0, none⟩ cap X Try.underlying22 Try.underlying5 Try.underlying9 (fun j hj => by
    rw [Addr.add_lit, Nat.zero_add]
    exact h.cell j hj)
theorem toBytes (T : List UInt8) (W : World) : ∃ cap W2, (convert 9 22 (.string (tB T))).run Try.prog W = .ok (.slice (some ⟨W.heap.size, 0, none⟩) T.length cap) W2 ∧ RowY W2 W.heap.size T ∧ T.length ≤ cap ∧ Below W.heap.size W W2 := by
  have h := run_bytes_of_string (P := Try.prog) W 9 22 5 (tB T) Try.underlying9 Try.underlying22 Try.underlying5
  have hc := grownCap_ge W (tB T).size 0 5
  rw [tB_size] at h hc
  refine ⟨_, _, h, ?_, hc, ?_⟩
  · generalize grownCap W T.length 0 5 = cap at *
    have hz : (bytesRow (tB T) cap).size = cap := by
      unfold bytesRow
      rw [tB_size]
      simp [tB]
      omega
    refine ⟨bytesRow (tB T) cap, _, heap_alloc_newF _ _ _ _, by rw [hz]; exact hc, fun i hi => ?_, fun o ho => ?_⟩
    · unfold bytesRow
      rw [Array.getElem?_append_left (by simpa [tB] using hi)]
      simp [tB, hi]
    · rw [hz]
      have : ¬ cap ≤ o := by omega
      simp [this]
  · exact (Below.refl _ _).drew.alloc (Nat.le_refl _) _
theorem swT_set {T : List UInt8} {p : Nat} (h : p + 1 < T.length) : (T.set p T[p + 1]).set (p + 1) T[p] = swT T p := by
  rw [swT_form h]
  have h1 : T.drop p = T[p] :: T.drop (p + 1) := List.drop_eq_getElem_cons (by omega)
  have h2 : T.drop (p + 1) = T[p + 1] :: T.drop (p + 2) := List.drop_eq_getElem_cons h
  have h3 : T = T.take p ++ (T[p] :: T[p + 1] :: T.drop (p + 2)) := by rw [← h2, ← h1, List.take_append_drop]
  generalize hA : T.take p = A at *
  have hl : A.length = p := by rw [← hA, List.length_take]; omega
  generalize T[p] = a at *
  generalize T[p + 1] = b at *
  generalize T.drop (p + 2) = R at *
  rw [h3, List.set_append_right _ _ (by omega), hl, Nat.sub_self, List.set_cons_zero, List.set_append_right _ _ (by omega), hl, Nat.add_sub_cancel_left, List.set_cons_succ, List.set_cons_zero]
theorem own_lowS {w : World} {b b' n : Nat} {t : TypeId} {v : Value} {xs : List Value} (h : w.ownsRow b' t 1 v n xs) (hb : b ≤ b') : w.ownsRow b t 1 v n xs := by
  refine ⟨h.1, ?_⟩
  rcases h.2 with hn | ⟨g, cap, cur, hv, hbg, rest⟩
  · exact .inl hn
  · exact .inr ⟨g, cap, cur, hv, Nat.le_trans hb hbg, rest⟩
def txTo (c : Nat → List UInt8) (n : Nat) : List (List UInt8) := (List.range n).map c
theorem txTo_len (c : Nat → List UInt8) (n : Nat) : (txTo c n).length = n := by simp [txTo]
theorem txTo_succ (c : Nat → List UInt8) (n : Nat) : txTo c (n + 1) = txTo c n ++ [c n] := by unfold txTo; rw [List.range_succ, List.map_append]; rfl
theorem txTo_mem {c : Nat → List UInt8} {n : Nat} (h : ∀ i, i < n → (c i).length = 9) : ∀ s ∈ txTo c n, s.length = 9 := by
  intro s hs
  obtain ⟨i, hi, rfl⟩ := List.mem_map.1 hs
  exact h i (List.mem_range.1 hi)
set_option maxHeartbeats 8000000 in
theorem swapped_nine (T : List UInt8) (h9 : T.length = 9) (w : World) :
    Calls Try.prog 13 #[.string (tB T)] w fun e w' => ∃ u, e = .returned (.tuple #[u, .int .i64 0]) ∧ w'.ownsRow w.heap.size 9 1 u (lbs (swT T) T 8).length ((lbs (swT T) T 8).map encStr) ∧ Below w.heap.size w w' := by
  have hs : (tB T).size = 9 := by rw [tB_size]; exact h9
  have HT9 := Lib.hid h9
  obtain ⟨i0, hi0, hz0, hz1, hz2⟩ := info_parts infoStr
  have LA := Lib.hid (fun v W (h : StrsOf W v (txTo (swT T) 8)) => labelsAmong_any v (txTo (swT T) 8) T W h (by rw [txTo_len]; decide) (txTo_mem fun i hi => swT_len T h9 i hi))
  have TOB := Lib.hid (fun W => toBytes T W)
  have O0 := Lib.hid (show w.ownsRow w.heap.size 9 1 (.slice none 0 0) (txTo (swT T) 0).length ((txTo (swT T) 0).map encStr) from ⟨rfl, .inl ⟨rfl, rfl⟩⟩)
  obtain ⟨S, hS⟩ : ∃ S, tB T = S := ⟨_, rfl⟩
  rw [hS] at hs LA TOB ⊢
  clear h9 hS
  go_enter Try.func13, Try.ntmps13
  go_wp2
  go_loopw [4, 5] (fun v_ i_ wr => ∃ (v : Value) (i j : Nat), v = v_ ∧ i ≤ 8 ∧ j = i + 1 ∧ i_ = .int .i64 (j : Int) ∧ wr.ownsRow w.heap.size 9 1 v (txTo (swT T) i).length ((txTo (swT T) i).map encStr) ∧ Below w.heap.size w wr) (fun _ i_ _ => 9 - (intOf i_).toNat)
  case atStart => exact ⟨_, 0, 1, rfl, Nat.zero_le _, rfl, rfl, O0.out, Below.refl _ _⟩
  case round =>
    clear O0
    obtain ⟨v, i, j, rfl, hi, hj, rfl, hown, hb⟩ := hrel
    have HJ := Lib.hid hj
    have OA := Lib.hid hown
    have HB := Lib.hid hb
    clear hown hb
    by_cases hlt : i < 8
    · obtain ⟨cap, W2, hrun, hrow, hcap, hbel⟩ := TOB.out wr
      have hT1 : j < T.length := by have := HT9.out; omega
      have hT0 : i < T.length := by omega
      have hcap9 : 9 ≤ cap := by have := HT9.out; omega
      rw [HT9.out] at hrun
      have SW := Lib.hid (show (T.set i T[j]).set j T[i] = swT T i by subst hj; exact swT_set (by have := HT9.out; omega))
      have ESX := Lib.hid (txTo_succ (swT T) i)
      have c1 := hrow.cell j hT1
      have c0 := hrow.cell i hT0
      have f1 := hrow.frozen j hT1
      have f0 := hrow.frozen i hT0
      have PUT := ((hrow.put i hT0 T[j]).put j (by simpa using hT1) T[i]).drew
      rw [SW.out] at PUT
      have BX := ((hbel.setCell (p := ⟨wr.heap.size, i, none⟩) (Nat.le_refl _) (.int .u8 (T[j].toNat : Int))).setCell (p := ⟨wr.heap.size, j, none⟩) (Nat.le_refl _) (.int .u8 (T[i].toNat : Int))).drew
      have hij : ¬ i = j := by omega
      have hij2 : ¬ j = i := by omega
      have w2 : (j : Int) - 1 = (i : Int) := by omega
      have j9 : j < 9 := by omega
      have j9i : (j : Int) < 9 := by omega
      have i9 : i < 9 := by omega
      obtain ⟨W3, hW3⟩ : ∃ W3, ((W2.setCell ⟨wr.heap.size, i, none⟩ (.int .u8 (T[j].toNat : Int))).setCell ⟨wr.heap.size, j, none⟩ (.int .u8 (T[i].toNat : Int))).drew = W3 := ⟨_, rfl⟩
      rw [hW3] at PUT BX
      have HW3 := Lib.hid hW3
      have tx := PUT.text (cap := cap) (n := 9) (swT_len T HT9.out i hlt)
      have TX := Lib.hid tx
      have B3 := Lib.hid (bnext HB.out BX)
      have O3 := Lib.hid (ownBelow OA.out BX)
      have z3 := B3.out.size
      clear PUT BX SW hrow hbel hcap hW3 tx hj
      generalize (T[i].toNat : Int) = ti at *
      generalize (T[j].toNat : Int) = tj at *
      clear hT0 hT1
      obtain ⟨X, hX⟩ : ∃ X, tB (swT T i) = X := ⟨_, rfl⟩
      have HX := Lib.hid (show encStr (swT T i) = .string X from by rw [← hX]; rfl)
      rw [hX] at TX
      clear hX
      obtain ⟨L, hL⟩ : ∃ L, txTo (swT T) i = L := ⟨_, rfl⟩
      have LL := txTo_len (swT T) i
      rw [hL] at O3 ESX LL
      have LN := Lib.hid LL
      clear hL LL
      go_upto_region 8 with (fail)
      go_region
      rw [HW3.out]
      have tx := TX.out
      go_wp2_with (at_builtin; refine wpList_append_own _ rfl (.tmp 34) (.tmp 37) _ rfl w.heap.size 9 i0 (.string ⟨#[]⟩) 1 16 Try.underlying35 hi0 hz0 hz1 hz2 rfl (by decide) _ _ _ rfl (O3.out.alloc _) ⟨W3.heap.size, 0, none⟩ 1 1 [.string X] rfl rfl (cell_one_new _ _ _) (by intro u hu; simp at hu; subst hu; rfl) (by have := LN.out; unfold maxLen; omega) (by have := LN.out; omega) (by simp; omega) ?_)
      intro v' w4 hown' hgrow' _
      have OC := Lib.hid (show w4.ownsRow w.heap.size 9 1 v' (txTo (swT T) (i + 1)).length ((txTo (swT T) (i + 1)).map encStr) by rw [ESX.out, List.length_append, List.map_append, List.map_cons, HX.out]; exact hown')
      have B4 := Lib.hid ((B3.out.alloc z3 _).grown hgrow' (by simp; omega) (fun k hk => (O3.out.lt k hk).1))
      clear hown' hgrow' tx
      go_wp2
      go_roundw
      case rel => exact ⟨_, i + 1, j + 1, rfl, by omega, by have := HJ.out; omega, by go_num, OC.out, B4.out⟩
      case measure => simp [intOf] <;> omega
    · obtain rfl : i = 8 := by omega
      obtain rfl : j = 9 := by omega
      have ST := Lib.hid (ownStrs OA.out rfl)
      have z1 := HB.out.size
      clear hj HJ
      go_wp2_with fail
      refine (LA.out v wr ST.out).mono ?_
      rintro e w5 ⟨u, rfl, h5, g5⟩
      have O5 := Lib.hid (own_lowS h5 z1)
      have B5 := Lib.hid (bnext HB.out g5)
      clear h5 g5
      go_wp2
      go_ret2
      exact ⟨u, rfl, O5.out, B5.out⟩
set_option maxHeartbeats 4000000 in
theorem swappedLabels_any (T : List UInt8) (hm : T.length ≤ maxLen) (w : World) :
    Calls Try.prog 13 #[.string (tB T)] w fun e w' => ∃ u, e = .returned (.tuple #[u, .int .i64 (nlC T)]) ∧ w'.ownsRow w.heap.size 9 1 u (swL T).length ((swL T).map encStr) ∧ Below w.heap.size w w' := by
  by_cases h9 : T.length = 9
  · rw [show nlC T = 0 by unfold nlC; rw [if_pos h9], show swL T = lbs (swT T) T 8 by unfold swL; rw [if_pos h9]]
    exact swapped_nine T h9 w
  · rw [show nlC T = 5 by unfold nlC; rw [if_neg h9], show swL T = [] by unfold swL; rw [if_neg h9]]
    have hs : (tB T).size = T.length := tB_size T
    have d0 : ((T.length : Int) != 9) = true := by rw [bne_iff_ne]; omega
    have hm2 : T.length ≤ 9223372036854775807 := by unfold maxLen at hm; omega
    generalize tB T = S at *
    go_enter Try.func13, Try.ntmps13
    go_wp2
    go_ret2
    exact ⟨.slice none 0 0, rfl, ⟨rfl, .inl ⟨rfl, rfl⟩⟩, Below.refl _ _⟩
end Go.Proofs.Ytimojjkblofhnaa
