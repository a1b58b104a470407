/- A list put in an order, by the model and by the program: contracts. Condition: at most 1048576 books, whose numbers lie within their kinds; the order is no longer than a slice can be. -/
import Derived.Test.YtnkkabbndmfhmaaStbO
import Derived.Test.YtnkkabbndmfhmaaStbS
import Derived.Test.YtnkkabbndmfhmaaCb
import Derived.Test.YtnkkabbndmfhmaaBooksOk
namespace Go.Proofs.Ytnkkabbndmfhmaa
set_option linter.unusedSimpArgs false
set_option linter.unusedVariables false
set_option maxRecDepth 100000
open Go.RowKit Stab

def sbC (zs : List Int) (xs : List Bk) : Int := if okO zs && okB xs then 0 else 1
def sbL (zs : List Int) (xs : List Bk) : List Bk := if okO zs && okB xs then insTo (ltB zs) xs xs.length else []
theorem sb_cases (zs : List Int) (xs : List Bk) : (okO zs = false ∧ sbC zs xs = 1 ∧ sbL zs xs = []) ∨ (okO zs = true ∧ okB xs = false ∧ sbC zs xs = 1 ∧ sbL zs xs = []) ∨
    (okO zs = true ∧ okB xs = true ∧ sbC zs xs = 0 ∧ sbL zs xs = insTo (ltB zs) xs xs.length) := by
  unfold sbC sbL
  cases okO zs <;> cases okB xs <;> simp
theorem sbL_len (zs : List Int) (xs : List Bk) : (sbL zs xs).length ≤ xs.length := by
  unfold sbL
  split
  · rw [insTo_len]; exact Nat.le_refl _
  · exact Nat.zero_le _
theorem resB_none (w : World) (B : Nat) : ResB w B (.slice none 0 0) [] := .inl ⟨rfl, rfl⟩
theorem resB_made {w : World} {B : Nat} (h : B ≤ w.heap.size) : ResB (w.alloc (.cells #[] 76)) B (.slice (some ⟨w.heap.size, 0, none⟩) 0 0) [] := ResB.ofL (ResB.own1 w B h) rfl

set_option maxHeartbeats 4000000 in
theorem specSortBooks_any (vo v : Value) (zs : List Int) (hz : ∀ z ∈ zs, -128 ≤ z ∧ z ≤ 127) (xs : List Bk) (wf : ∀ b ∈ xs, b.Wf) (w : World) (ho : IntsOf .i8 w vo zs) (hs : SliceOf w v xs) (hzn : zs.length ≤ maxLen) (hn : xs.length ≤ 1048576) :
    Calls Try.prog 10 #[vo, v] w fun e w' => ∃ u, e = .returned (.tuple #[u, .int .i64 (sbC zs xs)]) ∧ ResB w' w.heap.size u (sbL zs xs) ∧ Below w.heap.size w w' := by
  have hm : xs.length ≤ maxLen := by unfold maxLen; omega
  have CO := Lib.hid (fun W h => l01Order_any vo zs hz W h hzn)
  have CB := Lib.hid (fun W (h : SliceOf W v xs) => l01Ok_any v xs wf W h hm)
  have CS := Lib.hid (fun W h (h2 : SliceOf W v xs) => l01Sorted_any vo v zs hz xs wf W h hzn h2 hn)
  have HO := Lib.hid ho
  have HS := Lib.hid hs
  obtain ⟨A, c, rfl, -⟩ := hs
  obtain ⟨Ao, co, rfl, -⟩ := ho
  clear wf hz
  rcases sb_cases zs xs with ⟨h1, e1, e2⟩ | ⟨h1, h2, e1, e2⟩ | ⟨h1, h2, e1, e2⟩
  · rw [e1, e2]
    go_enter Try.func10, Try.ntmps10
    go_wp2_with fail
    refine (CO.out _ HO.out).mono ?_
    rintro e w1 ⟨rfl, g1⟩
    rw [h1]
    have R := Lib.hid (resB_made g1.size)
    go_wp2
    go_ret2
    exact ⟨_, rfl, R.out, g1.alloc g1.size _⟩
  · rw [e1, e2]
    go_enter Try.func10, Try.ntmps10
    go_wp2_with fail
    refine (CO.out _ HO.out).mono ?_
    rintro e w1 ⟨rfl, g1⟩
    rw [h1]
    go_wp2_with fail
    refine (CB.out _ (HS.out.below g1)).mono ?_
    rintro e w2 ⟨rfl, g2⟩
    rw [h2]
    have G2 := Lib.hid (bnext g1 g2)
    have R := Lib.hid (resB_made G2.out.size)
    go_wp2
    go_ret2
    exact ⟨_, rfl, R.out, G2.out.alloc G2.out.size _⟩
  · rw [e1, e2]
    go_enter Try.func10, Try.ntmps10
    go_wp2_with fail
    refine (CO.out _ HO.out).mono ?_
    rintro e w1 ⟨rfl, g1⟩
    rw [h1]
    go_wp2_with fail
    refine (CB.out _ (HS.out.below g1)).mono ?_
    rintro e w2 ⟨rfl, g2⟩
    rw [h2]
    have G2 := Lib.hid (bnext g1 g2)
    go_wp2_with fail
    refine (CS.out _ (HO.out.below G2.out) (HS.out.below G2.out)).mono ?_
    rintro e w3 ⟨u, rfl, r3, g3⟩
    have R3 := Lib.hid (r3.mono G2.out.size)
    clear r3
    go_wp2
    go_ret2
    exact ⟨_, rfl, R3.out, bnext G2.out g3⟩

theorem ownBlock_lt {k : IntKind} {w : World} {v : Value} {zs : List Int} (h : IntsOf k w v zs) (h0 : 0 < zs.length) : ∀ q, v.ownBlock = some q → q < w.heap.size := by
  obtain ⟨A, c, rfl, hat⟩ := h
  obtain ⟨g, o, rfl, hg, -⟩ := hat h0
  intro q hq
  obtain rfl : g = q := by injection hq
  exact hg
set_option maxHeartbeats 4000000 in
theorem sortBooks_any (vo v : Value) (zs : List Int) (hz : ∀ z ∈ zs, -128 ≤ z ∧ z ≤ 127) (xs : List Bk) (wf : ∀ b ∈ xs, b.Wf) (w : World) (ho : IntsOf .i8 w vo zs) (hs : SliceOf w v xs) (hzn : zs.length ≤ maxLen) (hn : xs.length ≤ 1048576) :
    Calls Try.prog 13 #[vo, v] w fun e w' => ∃ u, e = .returned (.tuple #[u, .int .i64 (sbC zs xs)]) ∧ ResB w' w.heap.size u (sbL zs xs) ∧ Below w.heap.size w w' := by
  have hm : xs.length ≤ maxLen := by unfold maxLen; omega
  have CO := Lib.hid (fun W h => validOrder_any vo zs hz W h hzn)
  have CB := Lib.hid (fun W (h : SliceOf W v xs) => validBooks_any v xs W h hm)
  have G1 := Lib.hid (show Below w.heap.size w (w.alloc (.cells #[vo] 22)) from (Below.refl _ _).alloc (Nat.le_refl _) _)
  have X1 := Lib.hid (heap_alloc_new w (.cells #[vo] 22))
  have Y1 : w.heap.size < (w.alloc (.cells #[vo] 22)).heap.size := by simp
  have WF := Lib.hid wf
  have HO := Lib.hid (ho.below G1.out)
  have HS := Lib.hid (hs.below G1.out)
  obtain ⟨A, c, rfl, -⟩ := hs
  obtain ⟨Ao, co, rfl, -⟩ := ho
  clear wf hz
  rcases sb_cases zs xs with ⟨h1, e1, e2⟩ | ⟨h1, h2, e1, e2⟩ | ⟨h1, h2, e1, e2⟩
  · rw [e1, e2]
    go_enter Try.func13, Try.ntmps13
    go_upto_region 1 with (fail)
    generalize World.alloc w _ = W1 at G1 X1 Y1 HO HS ⊢
    have p0 : W1.cell? ⟨w.heap.size, 0, none⟩ = some (.slice Ao zs.length co) := cell_of_row W1 _ 0 _ _ _ X1.out
    go_wp2_with fail
    refine (CO.out _ HO.out).mono ?_
    rintro e w1 ⟨rfl, g1⟩
    rw [h1]
    clear p0
    have B1 := Lib.hid (bnext G1.out g1)
    go_wp2
    go_ret2
    exact ⟨_, rfl, resB_none _ _, B1.out⟩
  · rw [e1, e2]
    go_enter Try.func13, Try.ntmps13
    go_upto_region 1 with (fail)
    generalize World.alloc w _ = W1 at G1 X1 Y1 HO HS ⊢
    have p0 : W1.cell? ⟨w.heap.size, 0, none⟩ = some (.slice Ao zs.length co) := cell_of_row W1 _ 0 _ _ _ X1.out
    go_wp2_with fail
    refine (CO.out _ HO.out).mono ?_
    rintro e w1 ⟨rfl, g1⟩
    rw [h1]
    clear p0
    go_wp2_with fail
    refine (CB.out _ (HS.out.below g1)).mono ?_
    rintro e w2 ⟨rfl, g2⟩
    rw [h2]
    have B2 := Lib.hid (bnext (bnext G1.out g1) g2)
    go_wp2
    go_ret2
    exact ⟨_, rfl, resB_none _ _, B2.out⟩
  · rw [e1, e2]
    have OF := okO_fields h1
    have z0 : 0 < zs.length := by have h := h1; unfold okO at h; simp at h; omega
    have ES := Lib.hid (stable_ins OF WF.out)
    have OF := Lib.hid OF
    go_enter Try.func13, Try.ntmps13
    go_upto_region 1 with (fail)
    generalize World.alloc w _ = W1 at G1 X1 Y1 HO HS ⊢
    have p0 : W1.cell? ⟨w.heap.size, 0, none⟩ = some (.slice Ao zs.length co) := cell_of_row W1 _ 0 _ _ _ X1.out
    go_wp2_with fail
    refine (CO.out _ HO.out).mono ?_
    rintro e w1 ⟨rfl, g1⟩
    rw [h1]
    have P0 := Lib.hid ((g1.cell (p := ⟨w.heap.size, 0, none⟩) Y1).trans p0)
    clear p0
    go_wp2_with fail
    refine (CB.out _ (HS.out.below g1)).mono ?_
    rintro e w2 ⟨rfl, g2⟩
    rw [h2]
    have zz1 := g1.size
    have zz2 := g2.size
    have P1 := Lib.hid ((g2.cell (p := ⟨w.heap.size, 0, none⟩) (show w.heap.size < w1.heap.size by omega)).trans P0.out)
    have B2 := Lib.hid (bnext (bnext G1.out g1) g2)
    have HO2 := Lib.hid ((HO.out.below g1).below g2)
    have HS2 := Lib.hid ((HS.out.below g1).below g2)
    have zz3 := B2.out.size
    clear g1 g2
    by_cases h0 : 0 < xs.length
    · obtain ⟨A', c', e', hh⟩ := HS2.out
      obtain ⟨ga, oa, rfl, -, -⟩ := hh h0
      injection e' with e3 e4 e5
      subst e3
      subst e5
      clear e4
      go_wp2_with fail
      refine (inOrderB_any w.heap.size _ zs OF.out hzn ga oa _ xs WF.out w2 h0 hn HS2.out P1.out HO2.out (by omega) (ownBlock_lt HO2.out z0)).mono ?_
      rintro e w3 ⟨u, rfl, r3, g3⟩
      rw [ES.out] at r3
      have R3 := Lib.hid (r3.mono zz3)
      clear r3
      go_wp2
      go_ret2
      exact ⟨_, rfl, R3.out, bnext B2.out g3⟩
    · obtain rfl : xs = [] := List.eq_nil_of_length_eq_zero (by omega)
      simp only [List.length_nil] at *
      cases A with
      | none =>
        go_wp2_with fail
        refine (inOrderBn_any w.heap.size w2 c).mono ?_
        rintro e w3 ⟨rfl, g3⟩
        go_wp2
        go_ret2
        exact ⟨_, rfl, resB_none _ _, bnext B2.out g3⟩
      | some p =>
        go_wp2_with fail
        refine (inOrderB0_any w.heap.size p c w2).mono ?_
        rintro e w3 ⟨rfl, g3⟩
        go_wp2
        go_ret2
        exact ⟨_, rfl, resB_none _ _, bnext B2.out g3⟩
end Go.Proofs.Ytnkkabbndmfhmaa
