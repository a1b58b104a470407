/- Labels that differ in one byte, by the program: a contract. No condition. -/
import Derived.Test.YtimojjkblofhnaaNlI
import Derived.Test.YtimojjkblofhnaaNlN
namespace Go.Proofs.Ytimojjkblofhnaa
set_option linter.unusedSimpArgs false
set_option linter.unusedVariables false
set_option maxRecDepth 100000
open Go.RowKit

theorem conv36 (cs : Array Value) (n : Nat) (W : World) : (convert 22 22 (.slice (some ⟨W.heap.size, 0, none⟩) n n)).run Try.prog (W.alloc (.cells cs 5)) = .ok (.slice (some ⟨W.heap.size, 0, none⟩) n n) (W.alloc (.cells cs 5 (cs.size, cs.size + 1))) := by
  have hsh : (W.alloc (.cells cs 5)).shape? W.heap.size = some (5, cs.size) := by
    have : (W.alloc (.cells cs 5)).heap[W.heap.size]? = some (.cells cs 5) := heap_alloc_new W _
    unfold World.shape?
    rw [this]
  have hfr : (W.alloc (.cells cs 5)).freeze ⟨W.heap.size, cs.size, none⟩ 1 = W.alloc (.cells cs 5 (cs.size, cs.size + 1)) := by
    have hm : ∀ (a : Array Obj) (x : Obj) (f : Obj → Obj), (a.push x).modify a.size f = a.push (f x) := by
      intro a x f
      apply Array.ext
      · simp
      · intro i h1 h2
        simp only [Array.getElem_modify, Array.getElem_push]
        by_cases h : a.size = i
        · subst h
          simp
        · have hi : i < a.size := by simp at h1; omega
          simp [h, hi]
    unfold World.freeze
    rw [if_neg (by decide)]
    show ({ W.alloc (.cells cs 5) with heap := (W.heap.push (.cells cs 5)).modify W.heap.size _ } : World) = _
    rw [hm]
    rfl
  simp [convert, run_underlying Try.underlying22, run_underlying Try.underlying5, markStringish, hsh]
  exact hfr
theorem row36 (W : World) (a b : Nat) (ha : 36 ≤ a) : RowY (W.alloc (.cells #[.int .u8 48, .int .u8 49, .int .u8 50, .int .u8 51, .int .u8 52, .int .u8 53, .int .u8 54, .int .u8 55, .int .u8 56, .int .u8 57, .int .u8 97, .int .u8 98, .int .u8 99, .int .u8 100, .int .u8 101, .int .u8 102, .int .u8 103, .int .u8 104, .int .u8 105, .int .u8 106, .int .u8 107, .int .u8 108, .int .u8 109, .int .u8 110, .int .u8 111, .int .u8 112, .int .u8 113, .int .u8 114, .int .u8 115, .int .u8 116, .int .u8 117, .int .u8 118, .int .u8 119, .int .u8 120, .int .u8 121, .int .u8 122] 5 (a, b))) W.heap.size LT36 := by
  refine ⟨_, (a, b), heap_alloc_new W _, by decide, fun i hi => ?_, fun o ho => ?_⟩
  · show ((LT36.map fun x => Value.int .u8 (x.toNat : Int)).toArray)[i]? = _
    simp [hi]
  · have h2 : LT36.length = 36 := rfl
    have h3 : ¬ a ≤ o := by omega
    simp [h3]
theorem lt36_at (k : Nat) (h : k < LT36.length) : LT36[k] = lt36 k := by simp [lt36, List.getD, List.getElem?_eq_getElem h]
set_option maxHeartbeats 8000000 in
theorem near_nine (T : List UInt8) (h9 : T.length = 9) (w : World) :
    Calls Try.prog 11 #[.string (tB T)] w fun e w' => ∃ u, e = .returned (.tuple #[u, .int .i64 0]) ∧ w'.ownsRow w.heap.size 9 1 u (lbs (ntx T) T 324).length ((lbs (ntx T) T 324).map encStr) ∧ Below w.heap.size w w' := by
  have hs : (tB T).size = 9 := by rw [tB_size]; exact h9
  have HT9 := Lib.hid h9
  obtain ⟨i0, hi0, hz0, hz1, hz2⟩ := info_parts infoStr
  have LA := Lib.hid (fun v W (h : StrsOf W v (txTo (ntx T) 324)) => labelsAmong_any v (txTo (ntx T) 324) T W h (by rw [txTo_len]; decide) (txTo_mem fun i hi => by rw [ntx_len]; exact h9))
  have TOB := Lib.hid (fun W => toBytes T W)
  have O0 := Lib.hid (show w.ownsRow w.heap.size 9 1 (.slice none 0 0) (txTo (ntx T) (36 * 0)).length ((txTo (ntx T) (36 * 0)).map encStr) from ⟨rfl, .inl ⟨rfl, rfl⟩⟩)
  obtain ⟨S, hS⟩ : ∃ S, tB T = S := ⟨_, rfl⟩
  rw [hS] at hs LA TOB ⊢
  clear h9 hS
  go_enter Try.func11, Try.ntmps11
  go_wp2
  go_loopw [4, 14] (fun v_ i_ wr => ∃ (v : Value) (i : Nat), v = v_ ∧ i ≤ 9 ∧ i_ = .int .i64 (i : Int) ∧ wr.ownsRow w.heap.size 9 1 v (txTo (ntx T) (36 * i)).length ((txTo (ntx T) (36 * i)).map encStr) ∧ Below w.heap.size w wr) (fun _ i_ _ => 9 - (intOf i_).toNat)
  case atStart => exact ⟨_, 0, rfl, Nat.zero_le _, rfl, O0.out, Below.refl _ _⟩
  case round =>
    clear O0
    obtain ⟨v, i, rfl, hi, rfl, hown, hb⟩ := hrel
    have OA := Lib.hid hown
    have HB := Lib.hid hb
    clear hown hb
    by_cases hlt : i < 9
    · have i9 : (i : Int) < 9 := by omega
      obtain ⟨wo, rfl⟩ : ∃ wo, wo = wr := ⟨_, rfl⟩
      have hcv := conv36 #[.int .u8 48, .int .u8 49, .int .u8 50, .int .u8 51, .int .u8 52, .int .u8 53, .int .u8 54, .int .u8 55, .int .u8 56, .int .u8 57, .int .u8 97, .int .u8 98, .int .u8 99, .int .u8 100, .int .u8 101, .int .u8 102, .int .u8 103, .int .u8 104, .int .u8 105, .int .u8 106, .int .u8 107, .int .u8 108, .int .u8 109, .int .u8 110, .int .u8 111, .int .u8 112, .int .u8 113, .int .u8 114, .int .u8 115, .int .u8 116, .int .u8 117, .int .u8 118, .int .u8 119, .int .u8 120, .int .u8 121, .int .u8 122] 36 wo
      have R0 := Lib.hid (row36 wo 36 37 (Nat.le_refl _))
      have G0 := Lib.hid (show Below wo.heap.size wo (wo.alloc (.cells #[.int .u8 48, .int .u8 49, .int .u8 50, .int .u8 51, .int .u8 52, .int .u8 53, .int .u8 54, .int .u8 55, .int .u8 56, .int .u8 57, .int .u8 97, .int .u8 98, .int .u8 99, .int .u8 100, .int .u8 101, .int .u8 102, .int .u8 103, .int .u8 104, .int .u8 105, .int .u8 106, .int .u8 107, .int .u8 108, .int .u8 109, .int .u8 110, .int .u8 111, .int .u8 112, .int .u8 113, .int .u8 114, .int .u8 115, .int .u8 116, .int .u8 117, .int .u8 118, .int .u8 119, .int .u8 120, .int .u8 121, .int .u8 122] 5 (36, 37))) from (Below.refl _ _).alloc (Nat.le_refl _) _)
      have O1 := Lib.hid (ownBelow OA.out G0.out)
      have B1 := Lib.hid (bnext HB.out G0.out)
      have OV := Lib.hid HB.out.size
      go_wp2
      generalize World.alloc wo _ = W0 at R0 G0 O1 B1 ⊢
      have hlo : wo.heap.size < W0.heap.size := R0.out.lt
      go_loopw [4, 20] (fun v_ k_ wr => ∃ (v : Value) (k : Nat), v = v_ ∧ k ≤ 36 ∧ k_ = .int .i64 (k : Int) ∧ wr.ownsRow w.heap.size 9 1 v (txTo (ntx T) (36 * i + k)).length ((txTo (ntx T) (36 * i + k)).map encStr) ∧ RowY wr wo.heap.size LT36 ∧ v.ownBlock ≠ some wo.heap.size ∧ Below w.heap.size w wr) (fun _ k_ _ => 36 - (intOf k_).toNat)
      case atStart => exact ⟨_, 0, rfl, by omega, rfl, O1.out, R0.out, (fun h => by have := (OA.out.lt _ h).2; omega), B1.out⟩
      case round =>
        clear O1 R0 B1 OA
        obtain ⟨v, k, rfl, hk, rfl, hown, hrow0, hvb, hb⟩ := hrel
        have OA := Lib.hid hown
        have HB := Lib.hid hb
        have R0 := Lib.hid hrow0
        have HV := Lib.hid hvb
        clear hown hb hvb
        by_cases hlk : k < 36
        · obtain ⟨cap, W2, hrun, hrow, hcap, hbel⟩ := TOB.out wr
          have hT0 : i < T.length := by have := HT9.out; omega
          have hcap9 : 9 ≤ cap := by have := HT9.out; omega
          rw [HT9.out] at hrun
          have kl : k < LT36.length := hlk
          have cl := hrow0.cell k kl
          rw [lt36_at k kl] at cl
          have z0 := hrow0.lt
          have SW := Lib.hid (show T.set i (lt36 k) = ntx T (36 * i + k) from (ntx_at T i k hlk).symm)
          have ESX := Lib.hid (show txTo (ntx T) (36 * i + (k + 1)) = txTo (ntx T) (36 * i + k) ++ [ntx T (36 * i + k)] from txTo_succ (ntx T) (36 * i + k))
          have c0 := hrow.cell i hT0
          have f0 := hrow.frozen i hT0
          have PUT := hrow.put i hT0 (lt36 k)
          rw [SW.out] at PUT
          have BX := hbel.setCell (p := ⟨wr.heap.size, i, none⟩) (Nat.le_refl _) (.int .u8 ((lt36 k).toNat : Int))
          obtain ⟨W3, hW3⟩ : ∃ W3, W2.setCell ⟨wr.heap.size, i, none⟩ (.int .u8 ((lt36 k).toNat : Int)) = W3 := ⟨_, rfl⟩
          rw [hW3] at PUT BX
          have HW3 := Lib.hid hW3
          have tx := PUT.text (cap := cap) (n := 9) (by rw [ntx_len]; exact HT9.out)
          have TX := Lib.hid tx
          have B3 := Lib.hid (bnext HB.out BX)
          have O3 := Lib.hid (ownBelow OA.out BX)
          have R3 := Lib.hid (hrow0.below BX)
          have z3 := B3.out.size
          have z30 := R3.out.lt
          clear PUT BX SW hrow hbel hcap hW3 tx hrow0
          generalize ((lt36 k).toNat : Int) = ti at *
          generalize (T[i].toNat : Int) = t0 at *
          clear hT0
          obtain ⟨X, hX⟩ : ∃ X, tB (ntx T (36 * i + k)) = X := ⟨_, rfl⟩
          have HX := Lib.hid (show encStr (ntx T (36 * i + k)) = .string X from by rw [← hX]; rfl)
          rw [hX] at TX
          clear hX
          obtain ⟨L, hL⟩ : ∃ L, txTo (ntx T) (36 * i + k) = L := ⟨_, rfl⟩
          have LL := txTo_len (ntx T) (36 * i + k)
          rw [hL] at O3 ESX LL
          have LN := Lib.hid (show L.length ≤ 400 by omega)
          clear hL LL
          go_upto_region 12 with (fail)
          rw [HW3.out]
          have tx := TX.out
          go_wp2_with (at_builtin; refine wpList_append_own_at _ rfl (.tmp 30) (.tmp 33) _ rfl w.heap.size 9 i0 (.string ⟨#[]⟩) 1 16 Try.underlying35 hi0 hz0 hz1 hz2 rfl (by decide) _ _ _ rfl (O3.out.alloc _) ⟨W3.heap.size, 0, none⟩ 1 1 [.string X] rfl rfl (cell_one_new _ _ _) (by intro u hu; simp at hu; subst hu; rfl) (by have := LN.out; unfold maxLen; omega) (by have := LN.out; omega) (by simp; omega) ?_)
          intro v' w4 hown' hgrow' _ hblk
          have OC := Lib.hid (show w4.ownsRow w.heap.size 9 1 v' (txTo (ntx T) (36 * i + (k + 1))).length ((txTo (ntx T) (36 * i + (k + 1))).map encStr) by rw [ESX.out, List.length_append, List.map_append, List.map_cons, HX.out]; exact hown')
          have B4 := Lib.hid ((B3.out.alloc z3 _).grown hgrow' (by simp; omega) (fun k hk => (O3.out.lt k hk).1))
          have HV4 := Lib.hid (show v'.ownBlock ≠ some wo.heap.size from fun h => by
            rcases hblk with h2 | h2
            · exact HV.out (h2.symm.trans h)
            · rw [h2] at h
              injection h with h
              first | omega | (simp at h; omega))
          have R4 := Lib.hid (show RowY w4 wo.heap.size LT36 by
            obtain ⟨cs, fr, h1, h2⟩ := R3.out
            refine ⟨cs, fr, (hgrow'.block _ (by simp; omega) ?_).trans ((Below.heap_alloc _ _ _ z30).trans h1), h2⟩
            exact fun h => HV.out h.symm)
          clear hown' hgrow' tx hblk
          go_wp2
          go_roundw
          case rel => exact ⟨_, k + 1, rfl, by omega, by go_num, OC.out, R4.out, HV4.out, B4.out⟩
          case measure => simp [intOf] <;> omega
        · obtain rfl : k = 36 := by omega
          have E36 := Lib.hid (show 36 * i + 36 = 36 * (i + 1) by omega)
          rw [E36.out] at OA
          clear hrow0
          go_wp2
          go_roundw
          case rel => exact ⟨_, i + 1, rfl, by omega, by go_num, OA.out, HB.out⟩
          case measure => simp [intOf] <;> omega
    · obtain rfl : i = 9 := by omega
      have ST := Lib.hid (ownStrs OA.out rfl)
      have z1 := HB.out.size
      go_wp2_with fail
      refine (LA.out v wr ST.out).mono ?_
      rintro e w5 ⟨u, rfl, h5, g5⟩
      have O5 := Lib.hid (own_lowS h5 z1)
      have B5 := Lib.hid (bnext HB.out g5)
      clear h5 g5
      go_wp2
      go_ret2
      exact ⟨u, rfl, O5.out, B5.out⟩
set_option maxHeartbeats 4000000 in
theorem nearLabels_any (T : List UInt8) (hm : T.length ≤ maxLen) (w : World) :
    Calls Try.prog 11 #[.string (tB T)] w fun e w' => ∃ u, e = .returned (.tuple #[u, .int .i64 (nlC T)]) ∧ w'.ownsRow w.heap.size 9 1 u (nrL T).length ((nrL T).map encStr) ∧ Below w.heap.size w w' := by
  by_cases h9 : T.length = 9
  · rw [show nlC T = 0 by unfold nlC; rw [if_pos h9], show nrL T = lbs (ntx T) T 324 by unfold nrL; rw [if_pos h9]]
    exact near_nine T h9 w
  · rw [show nlC T = 5 by unfold nlC; rw [if_neg h9], show nrL T = [] by unfold nrL; rw [if_neg h9]]
    have hs : (tB T).size = T.length := tB_size T
    have d0 : ((T.length : Int) != 9) = true := by rw [bne_iff_ne]; omega
    have hm2 : T.length ≤ 9223372036854775807 := by unfold maxLen at hm; omega
    generalize tB T = S at *
    go_enter Try.func11, Try.ntmps11
    go_wp2
    go_ret2
    exact ⟨.slice none 0 0, rfl, ⟨rfl, .inl ⟨rfl, rfl⟩⟩, Below.refl _ _⟩
end Go.Proofs.Ytimojjkblofhnaa
