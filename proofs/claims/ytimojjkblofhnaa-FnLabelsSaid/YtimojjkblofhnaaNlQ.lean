/- A text put into an ascending list of texts, by the model: a contract. Condition: at most 400 texts. -/
import Derived.Test.YtimojjkblofhnaaStrS
import Derived.Sort.Walk0
import Derived.Maps.AppendAt
import Derived.StillTailTactics
namespace Go.Proofs.Ytimojjkblofhnaa
set_option linter.unusedSimpArgs false
set_option linter.unusedVariables false
set_option maxRecDepth 100000
open Go.RowKit

theorem tB_toList (s : List UInt8) : (tB s).toList = s := by rw [ByteArray.toList_eq]; simp [tB]
theorem infoStr : (Try.prog.info? 9).map (fun i => (i.zero, i.size, i.bytes)) = some (some (.string ⟨#[]⟩), 1, 16) := by kernel_rfl
theorem elemStrs : Try.prog.underlying 35 = some (.slice (Try.prog.elem 35)) := by kernel_rfl
theorem sizeStrs (w : World) : (sizeOf (Try.prog.elem 35)).run Try.prog w = .ok 1 w := by kernel_rfl
theorem run_hiS (A : Option Addr) (n c k : Nat) (hk : k ≤ c) (w : World) :
    (Instr.slice 35 (.slice A n c) none (some (.int .i64 (k : Int))) none).run Try.prog w = .ok (.slice A k c) w := by
  rw [run_slice_h w _ _ _ _ elemStrs _ _ (by omega) (by omega), sizeStrs]
  cases A <;> simp [Result.andThen, sliced, Addr.add]
def loT (o i c : Nat) : Nat := if c = i then o else o + i
theorem run_loS (g o n c i : Nat) (hi : i ≤ n) (hc : n ≤ c) (w : World) :
    (Instr.slice 35 (.slice (some ⟨g, o, none⟩) n c) (some (.int .i64 (i : Int))) none none).run Try.prog w = .ok (.slice (some ⟨g, loT o i c, none⟩) (n - i) (c - i)) w := by
  rw [run_slice_l w _ _ _ _ elemStrs _ _ (by omega) (by omega), sizeStrs]
  unfold loT
  by_cases h : c = i
  · simp [Result.andThen, sliced, h]
  · simp [Result.andThen, sliced, h, Addr.add]
theorem strsAt_cells {w : World} {g o : Nat} {ss : List (List UInt8)} (h : StrsAt w g o ss) : ∀ j u, (ss.map encStr)[j]? = some u → w.cell? ((⟨g, o, none⟩ : Addr).add j) = some u := by
  intro j u hu
  have hj : j < ss.length := by have := (List.getElem?_eq_some_iff.1 hu).1; simpa using this
  rw [List.getElem?_map, List.getElem?_eq_getElem hj] at hu
  have e : encStr ss[j] = u := by simpa using hu
  rw [Addr.add_lit, ← e]
  exact h j hj
theorem strsAt_take {w : World} {g o : Nat} {ss : List (List UInt8)} (h : StrsAt w g o ss) (k : Nat) : StrsAt w g o (ss.take k) := fun i hi => by
  rw [List.getElem_take]; exact h i _
theorem strsAt_drop {w : World} {g o c : Nat} {ss : List (List UInt8)} (h : StrsAt w g o ss) (k : Nat) (hc : ss.length ≤ c) : StrsAt w g (loT o k c) (ss.drop k) := fun i hi => by
  rw [List.length_drop] at hi
  unfold loT
  rw [if_neg (by omega), List.getElem_drop, Nat.add_assoc]
  exact h _ _
theorem strs_one (ss : List (List UInt8)) : ∀ u ∈ ss.map encStr, u.oneCell' = true := by
  intro u hu
  obtain ⟨s, _, rfl⟩ := List.mem_map.1 hu
  rfl
theorem own_strsAt {w : World} {base g n cap : Nat} {ss : List (List UInt8)} {t : TypeId} (h : w.ownsRow base t 1 (.slice (some ⟨g, 0, none⟩) n cap) n (ss.map encStr)) (hn : n = ss.length) : base ≤ g ∧ g < w.heap.size ∧ StrsAt w g 0 ss ∧ n ≤ cap := by
  subst hn
  obtain ⟨h1, h2⟩ := h.lt g rfl
  refine ⟨h1, h2, fun i hi => ?_, ?_⟩
  · rw [Nat.zero_add, h.cellAt i (by omega)]
    simp [List.getElem?_eq_getElem hi, encStr_tB]
  · rcases h.2 with ⟨h', _⟩ | ⟨g', cap', cur, h', _, _, hc, _⟩
    · cases h'
    · cases h'; exact hc
set_option maxHeartbeats 8000000 in
theorem l07Put_any (g o c : Nat) (ss : List (List UInt8)) (t : List UInt8) (w : World) (hg : g < w.heap.size) (hat : StrsAt w g o ss) (hc : ss.length ≤ c) (hn : ss.length ≤ 400) :
    Calls Try.prog 29 #[.slice (some ⟨g, o, none⟩) ss.length c, .string (tB t)] w fun e w' => ∃ g' o' c', e = .returned (.slice (some ⟨g', o', none⟩) (putS ss t).length c') ∧ g' < w'.heap.size ∧ StrsAt w' g' o' (putS ss t) ∧ (putS ss t).length ≤ c' ∧ Below w.heap.size w w' := by
  have HA := Lib.hid hat
  obtain ⟨i0, hi0, hz0, hz1, hz2⟩ := info_parts infoStr
  clear hat
  go_enter Try.func29, Try.ntmps29
  go_wp2
  go_loopw [5] (fun k_ wr => ∃ k : Nat, k_ = .int .i64 (k : Int) ∧ k ≤ ss.length ∧ (∀ i (h : i < ss.length), i < k → ss[i] < t) ∧ Below w.heap.size w wr) (fun k_ _ => ss.length - (intOf k_).toNat)
  case atStart => exact ⟨0, rfl, Nat.zero_le _, (fun i _ h => absurd h (Nat.not_lt_zero _)), Below.refl _ _⟩
  case round =>
    obtain ⟨k, rfl, hk, hlow, hb⟩ := hrel
    have HL := Lib.hid hlow
    have HB := Lib.hid hb
    clear hlow hb
    have hgr := Nat.lt_of_lt_of_le hg HB.out.size
    have hsz := HB.out.size
    by_cases hlt : k < ss.length
    · have p0 := HA.out.below HB.out hg k hlt
      by_cases hl : ss[k] < t
      · have l0 : Op.bytesLess (tB ss[k]).toList (tB t).toList = true := by rw [tB_toList, tB_toList, bytesLess_eq]; exact decide_eq_true hl
        have HL2 := Lib.hid (show ∀ i (h : i < ss.length), i < k + 1 → ss[i] < t from fun i h hi => by
          by_cases e : i = k
          · subst e; exact hl
          · exact HL.out i h (by omega))
        clear hl
        generalize tB ss[k] = Tk at p0 l0
        go_wp2
        go_roundw
        case rel => exact ⟨k + 1, by go_num, by omega, HL2.out, HB.out⟩
        case measure => simp [intOf] <;> omega
      · have l0 : Op.bytesLess (tB ss[k]).toList (tB t).toList = false := by rw [tB_toList, tB_toList, bytesLess_eq]; exact decide_eq_false hl
        have EK := Lib.hid (atS_is (Nat.le_of_lt hlt) HL.out (fun _ => hl))
        by_cases he : ss[k] = t
        · have e0 : ((tB ss[k]).toList == (tB t).toList) = true := by rw [he]; simp
          have EP := Lib.hid (show putS ss t = ss by unfold putS; rw [EK.out, List.getElem?_eq_getElem hlt, he, if_pos rfl])
          clear hl he
          generalize tB ss[k] = Tk at p0 l0 e0
          go_wp2
          go_ret
          exact ⟨g, o, c, by rw [EP.out]; rfl, hgr, by rw [EP.out]; exact HA.out.below HB.out hg, by rw [EP.out]; exact hc, HB.out⟩
        · have e0 : ((tB ss[k]).toList == (tB t).toList) = false := by rw [tB_toList, tB_toList]; simpa using he
          have EP := Lib.hid (show putS ss t = ss.take k ++ t :: ss.drop k by unfold putS; rw [EK.out, List.getElem?_eq_getElem hlt, if_neg (by simpa using he)])
          clear hl he
          generalize tB ss[k] = Tk at p0 l0 e0
          have s1 := fun W => run_loS g o ss.length c k (by omega) hc W
          have s2 := fun W => run_hiS (some ⟨g, o, none⟩) ss.length c k (by omega) W
          have G1 := Lib.hid (HB.out.alloc hsz (.cells #[.string (tB t)] 9))
          have OW := Lib.hid (show (wr.alloc (.cells #[.string (tB t)] 9)).ownsRow w.heap.size 9 1 (.slice (some ⟨wr.heap.size, 0, none⟩) 1 1) 1 [Value.string (tB t)] from ⟨rfl, .inr ⟨wr.heap.size, 1, _, rfl, hsz, heap_alloc_new wr _, Nat.le_refl _, by decide, rfl, rfl⟩⟩)
          have A1 := Lib.hid (strsAt_drop (c := c) (HA.out.below G1.out hg) k hc)
          have LD := Lib.hid (show ((ss.drop k).map encStr).length = ss.length - k by rw [List.length_map, List.length_drop])
          have LT := Lib.hid (show ((ss.take k).map encStr).length = k by rw [List.length_map, List.length_take]; omega)
          have zz1 := G1.out.size
          go_wp2_with (at_builtin; refine wpList_append_own _ rfl (.tmp 35) (.tmp 38) _ rfl w.heap.size 9 i0 (.string ⟨#[]⟩) 1 16 Try.underlying35 hi0 hz0 hz1 hz2 rfl (by decide) _ _ _ rfl OW.out ⟨g, loT o k c, none⟩ (ss.length - k) (c - k) ((ss.drop k).map encStr) rfl (by rw [LD.out, Nat.mul_one]) (strsAt_cells A1.out) (strs_one _) (by unfold maxLen; omega) (by omega) zz1 ?_)
          intro v6 w6 hown6 hgrow6 hne6
          obtain ⟨g6, n6, rfl⟩ : ∃ g6 n6, v6 = .slice (some ⟨g6, 0, none⟩) (1 + (ss.length - k)) n6 := by
            rcases hown6.2 with ⟨h, h0⟩ | ⟨g6, n6, cur, h, _⟩
            · omega
            · exact ⟨g6, n6, h⟩
          have G6 := Lib.hid (G1.out.grown hgrow6 zz1 (fun q hq => (OW.out.lt q hq).1))
          have O6 := Lib.hid hown6
          have zz6 := G6.out.size
          have G7 := Lib.hid (show Below w6.heap.size w6 (w6.alloc (.cells #[] 9)) from (Below.refl _ _).alloc (Nat.le_refl _) _)
          have OE := Lib.hid (show (w6.alloc (.cells #[] 9)).ownsRow w6.heap.size 9 1 (.slice (some ⟨w6.heap.size, 0, none⟩) 0 0) 0 [] from ⟨rfl, .inr ⟨w6.heap.size, 0, #[], rfl, Nat.le_refl _, heap_alloc_new w6 _, Nat.le_refl _, Nat.zero_le _, rfl, rfl⟩⟩)
          have A7 := Lib.hid (strsAt_take (HA.out.below (bnext G6.out G7.out) hg) k)
          have zz7 := G7.out.size
          clear hown6 hgrow6 hne6
          go_wp2_with (at_builtin; refine wpList_append_own _ rfl (.tmp 40) (.tmp 43) _ rfl w6.heap.size 9 i0 (.string ⟨#[]⟩) 1 16 Try.underlying35 hi0 hz0 hz1 hz2 rfl (by decide) _ _ _ rfl OE.out ⟨g, o, none⟩ k c ((ss.take k).map encStr) rfl (by rw [LT.out, Nat.mul_one]) (strsAt_cells A7.out) (strs_one _) (by unfold maxLen; omega) (by omega) zz7 ?_)
          intro v8 w8 hown8 hgrow8 _
          have G8 := Lib.hid (G7.out.grown hgrow8 zz7 (fun q hq => (OE.out.lt q hq).1))
          have O8 := Lib.hid hown8
          have zz8 := G8.out.size
          have O68 := Lib.hid (ownBelow O6.out G8.out)
          have C6 := Lib.hid (show ∀ j u, (Value.string (tB t) :: (ss.drop k).map encStr)[j]? = some u → w8.cell? ((⟨g6, 0, none⟩ : Addr).add j) = some u from fun j u hu => by
            have hj : j < 1 + (ss.length - k) := by have h := (List.getElem?_eq_some_iff.1 hu).1; rw [List.length_cons, LD.out] at h; omega
            rw [Addr.add_lit, Nat.zero_add, O68.out.cellAt j (by omega)]
            first | exact hu | (rw [List.map_drop] at hu; exact hu) | simpa using hu)
          clear hown8 hgrow8
          go_wp2_with (at_builtin; refine wpList_append_own _ rfl (.tmp 44) (.tmp 45) _ rfl w6.heap.size 9 i0 (.string ⟨#[]⟩) 1 16 Try.underlying35 hi0 hz0 hz1 hz2 rfl (by decide) _ _ _ rfl O8.out ⟨g6, 0, none⟩ (1 + (ss.length - k)) n6 (Value.string (tB t) :: (ss.drop k).map encStr) rfl (by rw [List.length_cons, LD.out]; omega) C6.out (by
            intro u hu
            rcases List.mem_cons.1 hu with rfl | hu
            · rfl
            · exact strs_one _ u hu) (by unfold maxLen; omega) (by omega) zz8 ?_)
          intro v9 w9 hown9 hgrow9 hne9
          have G9 := Lib.hid (G8.out.grown hgrow9 zz8 (fun q hq => (O8.out.lt q hq).1))
          have EL := Lib.hid (show (putS ss t).length = k + (1 + (ss.length - k)) by rw [EP.out, List.length_append, List.length_cons, List.length_take, List.length_drop]; omega)
          have O9 := Lib.hid (show w9.ownsRow w6.heap.size 9 1 v9 (putS ss t).length ((putS ss t).map encStr) by
            rw [EL.out, EP.out, List.map_append, List.map_cons, encStr_tB]
            first | exact hown9 | (rw [Nat.zero_add, List.nil_append] at hown9; exact hown9) | simpa using hown9)
          clear hown9 hgrow9
          obtain ⟨g9, n9, rfl⟩ : ∃ g9 n9, v9 = .slice (some ⟨g9, 0, none⟩) (putS ss t).length n9 := by
            rcases O9.out.2 with ⟨h, _⟩ | ⟨g9, n9, cur, h, _⟩
            · exact absurd h hne9
            · exact ⟨g9, n9, h⟩
          obtain ⟨x1, x2, x3, x4⟩ := own_strsAt O9.out rfl
          clear hne9
          go_wp2
          go_ret
          exact ⟨g9, 0, n9, rfl, x2, x3, x4, bnext G6.out G9.out⟩
    · have EK := Lib.hid (atS_is hk HL.out (fun h => absurd h hlt))
      have EP := Lib.hid (show putS ss t = ss.take k ++ t :: ss.drop k by unfold putS; rw [EK.out, if_neg (by rw [List.getElem?_eq_none (by omega)]; simp)])
      have s1 := fun W => run_loS g o ss.length c k (by omega) hc W
      have s2 := fun W => run_hiS (some ⟨g, o, none⟩) ss.length c k (by omega) W
      have G1 := Lib.hid (HB.out.alloc hsz (.cells #[.string (tB t)] 9))
      have OW := Lib.hid (show (wr.alloc (.cells #[.string (tB t)] 9)).ownsRow w.heap.size 9 1 (.slice (some ⟨wr.heap.size, 0, none⟩) 1 1) 1 [Value.string (tB t)] from ⟨rfl, .inr ⟨wr.heap.size, 1, _, rfl, hsz, heap_alloc_new wr _, Nat.le_refl _, by decide, rfl, rfl⟩⟩)
      have A1 := Lib.hid (strsAt_drop (c := c) (HA.out.below G1.out hg) k hc)
      have LD := Lib.hid (show ((ss.drop k).map encStr).length = ss.length - k by rw [List.length_map, List.length_drop])
      have LT := Lib.hid (show ((ss.take k).map encStr).length = k by rw [List.length_map, List.length_take]; omega)
      have zz1 := G1.out.size
      go_wp2_with (at_builtin; refine wpList_append_own _ rfl (.tmp 35) (.tmp 38) _ rfl w.heap.size 9 i0 (.string ⟨#[]⟩) 1 16 Try.underlying35 hi0 hz0 hz1 hz2 rfl (by decide) _ _ _ rfl OW.out ⟨g, loT o k c, none⟩ (ss.length - k) (c - k) ((ss.drop k).map encStr) rfl (by rw [LD.out, Nat.mul_one]) (strsAt_cells A1.out) (strs_one _) (by unfold maxLen; omega) (by omega) zz1 ?_)
      intro v6 w6 hown6 hgrow6 hne6
      obtain ⟨g6, n6, rfl⟩ : ∃ g6 n6, v6 = .slice (some ⟨g6, 0, none⟩) (1 + (ss.length - k)) n6 := by
        rcases hown6.2 with ⟨h, h0⟩ | ⟨g6, n6, cur, h, _⟩
        · omega
        · exact ⟨g6, n6, h⟩
      have G6 := Lib.hid (G1.out.grown hgrow6 zz1 (fun q hq => (OW.out.lt q hq).1))
      have O6 := Lib.hid hown6
      have zz6 := G6.out.size
      have G7 := Lib.hid (show Below w6.heap.size w6 (w6.alloc (.cells #[] 9)) from (Below.refl _ _).alloc (Nat.le_refl _) _)
      have OE := Lib.hid (show (w6.alloc (.cells #[] 9)).ownsRow w6.heap.size 9 1 (.slice (some ⟨w6.heap.size, 0, none⟩) 0 0) 0 [] from ⟨rfl, .inr ⟨w6.heap.size, 0, #[], rfl, Nat.le_refl _, heap_alloc_new w6 _, Nat.le_refl _, Nat.zero_le _, rfl, rfl⟩⟩)
      have A7 := Lib.hid (strsAt_take (HA.out.below (bnext G6.out G7.out) hg) k)
      have zz7 := G7.out.size
      clear hown6 hgrow6 hne6
      go_wp2_with (at_builtin; refine wpList_append_own _ rfl (.tmp 40) (.tmp 43) _ rfl w6.heap.size 9 i0 (.string ⟨#[]⟩) 1 16 Try.underlying35 hi0 hz0 hz1 hz2 rfl (by decide) _ _ _ rfl OE.out ⟨g, o, none⟩ k c ((ss.take k).map encStr) rfl (by rw [LT.out, Nat.mul_one]) (strsAt_cells A7.out) (strs_one _) (by unfold maxLen; omega) (by omega) zz7 ?_)
      intro v8 w8 hown8 hgrow8 _
      have G8 := Lib.hid (G7.out.grown hgrow8 zz7 (fun q hq => (OE.out.lt q hq).1))
      have O8 := Lib.hid hown8
      have zz8 := G8.out.size
      have O68 := Lib.hid (ownBelow O6.out G8.out)
      have C6 := Lib.hid (show ∀ j u, (Value.string (tB t) :: (ss.drop k).map encStr)[j]? = some u → w8.cell? ((⟨g6, 0, none⟩ : Addr).add j) = some u from fun j u hu => by
        have hj : j < 1 + (ss.length - k) := by have h := (List.getElem?_eq_some_iff.1 hu).1; rw [List.length_cons, LD.out] at h; omega
        rw [Addr.add_lit, Nat.zero_add, O68.out.cellAt j (by omega)]
        first | exact hu | (rw [List.map_drop] at hu; exact hu) | simpa using hu)
      clear hown8 hgrow8
      go_wp2_with (at_builtin; refine wpList_append_own _ rfl (.tmp 44) (.tmp 45) _ rfl w6.heap.size 9 i0 (.string ⟨#[]⟩) 1 16 Try.underlying35 hi0 hz0 hz1 hz2 rfl (by decide) _ _ _ rfl O8.out ⟨g6, 0, none⟩ (1 + (ss.length - k)) n6 (Value.string (tB t) :: (ss.drop k).map encStr) rfl (by rw [List.length_cons, LD.out]; omega) C6.out (by
        intro u hu
        rcases List.mem_cons.1 hu with rfl | hu
        · rfl
        · exact strs_one _ u hu) (by unfold maxLen; omega) (by omega) zz8 ?_)
      intro v9 w9 hown9 hgrow9 hne9
      have G9 := Lib.hid (G8.out.grown hgrow9 zz8 (fun q hq => (O8.out.lt q hq).1))
      have EL := Lib.hid (show (putS ss t).length = k + (1 + (ss.length - k)) by rw [EP.out, List.length_append, List.length_cons, List.length_take, List.length_drop]; omega)
      have O9 := Lib.hid (show w9.ownsRow w6.heap.size 9 1 v9 (putS ss t).length ((putS ss t).map encStr) by
        rw [EL.out, EP.out, List.map_append, List.map_cons, encStr_tB]
        first | exact hown9 | (rw [Nat.zero_add, List.nil_append] at hown9; exact hown9) | simpa using hown9)
      clear hown9 hgrow9
      obtain ⟨g9, n9, rfl⟩ : ∃ g9 n9, v9 = .slice (some ⟨g9, 0, none⟩) (putS ss t).length n9 := by
        rcases O9.out.2 with ⟨h, _⟩ | ⟨g9, n9, cur, h, _⟩
        · exact absurd h hne9
        · exact ⟨g9, n9, h⟩
      obtain ⟨x1, x2, x3, x4⟩ := own_strsAt O9.out rfl
      clear hne9
      go_wp2
      go_ret
      exact ⟨g9, 0, n9, rfl, x2, x3, x4, bnext G6.out G9.out⟩
end Go.Proofs.Ytimojjkblofhnaa
