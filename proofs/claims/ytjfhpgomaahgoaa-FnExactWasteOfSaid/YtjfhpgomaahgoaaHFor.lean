/- The height to which a book belongs, by the model and by the program: contracts. Condition: numbers within their kinds, a slice no longer than can be. -/
import Derived.Test.YtjfhpgomaahgoaaLevels
import Derived.Deep.RegionHeld3
namespace Go.Proofs.Ytjfhpgomaahgoaa
set_option linter.unusedSimpArgs false
set_option linter.unusedVariables false
set_option maxRecDepth 100000
open Go.RowKit

def hfV (p : Pg) (hs : List Int) (b : Bk) : Int := if hsB p hs && bookB b then hs.getD (hIx hs b.hi) 0 else 0
def hfC (p : Pg) (hs : List Int) (b : Bk) : Int := if hsB p hs && bookB b then (if hIx hs b.hi < hs.length then 0 else 6) else 1
theorem hf_cases (p : Pg) (hs : List Int) (b : Bk) : (hsB p hs = false ∧ hfV p hs b = 0 ∧ hfC p hs b = 1) ∨ (hsB p hs = true ∧ bookB b = false ∧ hfV p hs b = 0 ∧ hfC p hs b = 1) ∨
    (hsB p hs = true ∧ bookB b = true ∧ hIx hs b.hi = hs.length ∧ hfV p hs b = 0 ∧ hfC p hs b = 6) ∨ (hsB p hs = true ∧ bookB b = true ∧ ∃ h : hIx hs b.hi < hs.length, hfV p hs b = hs[hIx hs b.hi] ∧ hfC p hs b = 0) := by
  unfold hfV hfC
  cases h1 : hsB p hs
  · exact .inl ⟨rfl, rfl, rfl⟩
  · cases h2 : bookB b
    · exact .inr (.inl ⟨rfl, rfl, rfl, rfl⟩)
    · have := hIx_le hs b.hi
      by_cases h3 : hIx hs b.hi < hs.length
      · exact .inr (.inr (.inr ⟨rfl, rfl, h3, by simp [List.getD, h3], by simp [h3]⟩))
      · exact .inr (.inr (.inl ⟨rfl, rfl, by omega, by simp [List.getD, List.getElem?_eq_none (show hs.length ≤ hIx hs b.hi by omega)], by simp [h3]⟩))

set_option maxHeartbeats 4000000 in
theorem l04For_any (v : Value) (hs : List Int) (b : Bk) (hb : b.Wf) (g o : Nat) (w : World) (hsl : IntsOf .i64 w v hs) (hn : hs.length ≤ maxLen) (hc : w.cell? ⟨g, o + 6, none⟩ = some (.int .i16 b.hi)) (hg : g < w.heap.size) :
    Calls Try.prog 78 #[v, .pointer (some ⟨g, o, none⟩)] w fun e w' => e = .returned (.int .i64 (if hIx hs b.hi < hs.length then (hIx hs b.hi : Int) else -1)) ∧ Below w.heap.size w w' := by
  obtain ⟨A, c, rfl, hat⟩ := hsl
  have HA := Lib.hid hat
  have HC := Lib.hid hc
  obtain ⟨_, _, _, _, _, _, ⟨h1, h2⟩, _⟩ := hb
  unfold maxLen at hn
  obtain ⟨K, hK⟩ : ∃ K, hIx hs b.hi = K := ⟨_, rfl⟩
  have hKl : K ≤ hs.length := by rw [← hK]; exact hIx_le hs b.hi
  have HN := Lib.hid (fun (i : Nat) (h : i < K) (hi : i < hs.length) => show ¬ b.hi ≤ hs[i] by subst hK; exact hIx_not h hi)
  have HT := Lib.hid (fun (h : K < hs.length) => show b.hi ≤ hs[K] by subst hK; exact hIx_at h)
  rw [hK]
  clear hat hc hK
  go_enter Try.func78, Try.ntmps78
  go_wp2
  go_loopw [5] (fun i_ wr => ∃ i : Nat, i ≤ K ∧ i_ = .int .i64 (i : Int) ∧ Below w.heap.size w wr) (fun i_ _ => K + 1 - (intOf i_).toNat)
  case atStart => exact ⟨0, Nat.zero_le _, rfl, Below.refl _ _⟩
  case round =>
    obtain ⟨i, hi, rfl, hbel⟩ := hrel
    by_cases hlt : i < hs.length
    · obtain ⟨ga, oa, rfl, hga, hcells⟩ := HA.out (by omega)
      have q0 := (hcells.below hbel hga) i hlt
      have q1 := (hbel.cell (p := ⟨g, o + 6, none⟩) hg).trans HC.out
      have NN := Lib.hid (fun h => HN.out i h hlt)
      have TT := Lib.hid (fun (e : i = K) => show b.hi ≤ hs[i] by subst e; exact HT.out hlt)
      generalize hs[i] = h at q0 NN TT
      clear hcells
      by_cases hik : i < K
      · have d : h < b.hi := by have := NN.out hik; omega
        go_wp2
        go_quiet (fail)
        clear q0 q1
        go_wp2
        go_roundw
        case rel => exact ⟨i + 1, by omega, by go_num, below_drewN hbel _⟩
        case measure => simp [intOf]; omega
      · have d : b.hi ≤ h := TT.out (by omega)
        obtain rfl : i = K := by omega
        go_wp2
        go_quiet (fail)
        clear q0 q1
        go_wp2
        go_ret
        exact ⟨by first | rfl | (rw [if_pos hlt]; rfl), below_drewN hbel _⟩
    · obtain rfl : K = hs.length := by omega
      obtain rfl : i = hs.length := by omega
      go_wp2
      go_ret
      exact ⟨by first | rfl | (rw [if_neg (Nat.lt_irrefl _)]; rfl), hbel⟩

set_option maxHeartbeats 4000000 in
theorem specHeightFor_any (p : Pg) (wf : p.Wf) (v : Value) (hs : List Int) (b : Bk) (wz : ∀ z ∈ hs, (Lit.int .i64 z).wf = true) (wb : b.Wf) (w : World) (hsl : IntsOf .i64 w v hs) (hn : hs.length ≤ maxLen) :
    Calls Try.prog 39 #[.agg #[.int .i16 p.lo, .int .i16 p.st, .int .i16 p.bo], v, .agg #[.int .i16 b.c, .int .u8 b.m0, .int .u8 b.m1, .int .u8 b.m2, .int .i16 b.v, .int .i16 b.wi, .int .i16 b.hi, .int .i16 b.we]] w fun e w' => e = .returned (.tuple #[.int .i64 (hfV p hs b), .int .i64 (hfC p hs b)]) ∧ Below w.heap.size w w' := by
  obtain ⟨PO, hPO⟩ : ∃ o : Obj, o = .cells #[.int .i16 p.lo, .int .i16 p.st, .int .i16 p.bo] 26 := ⟨_, rfl⟩
  obtain ⟨BO, hBO⟩ : ∃ o : Obj, o = .cells #[.int .i16 b.c, .int .u8 b.m0, .int .u8 b.m1, .int .u8 b.m2, .int .i16 b.v, .int .i16 b.wi, .int .i16 b.hi, .int .i16 b.we] 61 := ⟨_, rfl⟩
  have G1 := Lib.hid (show Below w.heap.size w ((w.alloc PO).alloc BO) by go_grown)
  have BX := Lib.hid (show BkBox ((w.alloc PO).alloc BO) (w.heap.size + 1) b by rw [hBO]; have h := BkBox.new (w.alloc PO) b 61; rw [World.size_alloc] at h; exact h)
  have HS := Lib.hid (hsl.below G1.out)
  have WF := Lib.hid wf
  have WZ := Lib.hid wz
  have WB := Lib.hid wb
  obtain ⟨A, c, rfl, hat⟩ := hsl
  have HA := Lib.hid hat
  clear wf wz wb hat
  have hn' : (hs.length : Int) ≤ 9223372036854775807 := by unfold maxLen at hn; omega
  rcases hf_cases p hs b with ⟨h1, h2, h3⟩ | ⟨h1, h4, h2, h3⟩ | ⟨h1, h4, h5, h2, h3⟩ | ⟨h1, h4, h5, h2, h3⟩
  · have E := Lib.hid h2
    have E2 := Lib.hid h3
    clear h2 h3
    go_enter Try.func39, Try.ntmps39
    go_wp2_with fail
    rw [← hPO, ← hBO]
    refine (l04Ok_any p WF.out _ hs WZ.out _ HS.out hn).mono ?_
    rintro e w1 ⟨rfl, g1⟩
    rw [h1]
    go_wp2
    go_ret2
    exact ⟨by rw [E.out, E2.out]; rfl, bnext G1.out g1⟩
  · have E := Lib.hid h2
    have E2 := Lib.hid h3
    clear h2 h3
    go_enter Try.func39, Try.ntmps39
    go_wp2_with fail
    rw [← hPO, ← hBO]
    refine (l04Ok_any p WF.out _ hs WZ.out _ HS.out hn).mono ?_
    rintro e w1 ⟨rfl, g1⟩
    rw [h1]
    have bx := BX.out.below g1
    go_wp2_with fail
    refine (l01Book_any b WB.out (w.heap.size + 1) 0 _ bx.c0 bx.c1 bx.c2 bx.c3 bx.c4 bx.c5 bx.c6 bx.c7 bx.lt).mono ?_
    rintro e w2 ⟨rfl, g2⟩
    rw [h4]
    clear bx
    go_wp2
    go_ret2
    exact ⟨by rw [E.out, E2.out]; rfl, bnext (bnext G1.out g1) g2⟩
  · have E := Lib.hid h2
    have E2 := Lib.hid h3
    clear h2 h3
    go_enter Try.func39, Try.ntmps39
    go_wp2_with fail
    rw [← hPO, ← hBO]
    refine (l04Ok_any p WF.out _ hs WZ.out _ HS.out hn).mono ?_
    rintro e w1 ⟨rfl, g1⟩
    rw [h1]
    have bx := BX.out.below g1
    go_wp2_with fail
    refine (l01Book_any b WB.out (w.heap.size + 1) 0 _ bx.c0 bx.c1 bx.c2 bx.c3 bx.c4 bx.c5 bx.c6 bx.c7 bx.lt).mono ?_
    rintro e w2 ⟨rfl, g2⟩
    rw [h4]
    have bx2 := bx.below g2
    have bx6 := Lib.hid bx2.c6
    have bxl := bx2.lt
    clear bx bx2
    go_wp2_with fail
    refine (l04For_any _ hs b WB.out (w.heap.size + 1) 0 _ (HS.out.below (bnext g1 g2)) hn bx6.out bxl).mono ?_
    rintro e w3 ⟨rfl, g3⟩
    rw [if_neg (by omega)]
    clear h5
    go_wp2
    go_ret2
    exact ⟨by rw [E.out, E2.out]; rfl, bnext (bnext (bnext G1.out g1) g2) g3⟩
  · obtain ⟨h6, h7⟩ : hfV p hs b = hs[hIx hs b.hi] ∧ hfC p hs b = 0 := ⟨h2, h3⟩
    have E := Lib.hid h6
    have E2 := Lib.hid h7
    have CF := Lib.hid (fun (W : World) (q1 : IntsOf .i64 W (.slice A hs.length c) hs) (q2 : W.cell? ⟨w.heap.size + 1, 0 + 6, none⟩ = some (.int .i16 b.hi)) (q3 : w.heap.size + 1 < W.heap.size) => l04For_any _ hs b WB.out (w.heap.size + 1) 0 W q1 hn q2 q3)
    rw [if_pos h5] at CF
    have HK := Lib.hid (fun (h0 : 0 < hs.length) => HA.out h0)
    clear h2 h3 h6 h7
    go_enter Try.func39, Try.ntmps39
    go_wp2_with fail
    rw [← hPO, ← hBO]
    refine (l04Ok_any p WF.out _ hs WZ.out _ HS.out hn).mono ?_
    rintro e w1 ⟨rfl, g1⟩
    rw [h1]
    have bx := BX.out.below g1
    go_wp2_with fail
    refine (l01Book_any b WB.out (w.heap.size + 1) 0 _ bx.c0 bx.c1 bx.c2 bx.c3 bx.c4 bx.c5 bx.c6 bx.c7 bx.lt).mono ?_
    rintro e w2 ⟨rfl, g2⟩
    rw [h4]
    have bx2 := bx.below g2
    have bx6 := Lib.hid bx2.c6
    have bxl := bx2.lt
    clear bx bx2
    go_wp2_with fail
    refine (CF.out _ (HS.out.below (bnext g1 g2)) bx6.out bxl).mono ?_
    rintro e w3 ⟨rfl, g3⟩
    obtain ⟨ga, oa, rfl, hga, hcells⟩ := HA.out (by omega)
    have G3 := Lib.hid (bnext (bnext (bnext G1.out g1) g2) g3)
    have q0 := (hcells.below G3.out hga) _ h5
    generalize hs[hIx hs b.hi] = h at q0 E
    have kl : (hIx hs b.hi : Int) < (hs.length : Int) := by omega
    generalize hIx hs b.hi = K at *
    clear hcells
    go_wp2
    go_ret2
    exact ⟨by rw [E.out, E2.out]; rfl, G3.out⟩

theorem vB_any (b : Bk) (w : World) :
    Calls Try.prog 80 #[.agg #[.int .i16 b.c, .int .u8 b.m0, .int .u8 b.m1, .int .u8 b.m2, .int .i16 b.v, .int .i16 b.wi, .int .i16 b.hi, .int .i16 b.we]] w fun e w' => e = .returned (.bool (bookB b)) ∧ Below w.heap.size w w' :=
  (validBook_any b w).mono fun _ _ ⟨h, e⟩ => ⟨h, by rw [← e]; exact (Below.refl _ _).alloc (Nat.le_refl _) _⟩

theorem ta_top (W : World) : (Instr.typeAssert (.iface 134 (.agg #[])) 103 100 true).run Try.prog W = .ok (.tuple #[.agg #[.int .i64 0, .int .i64 0], .bool false]) W := by
  rfl
theorem ta_shelf (i h : Int) (W : World) : (Instr.typeAssert (.iface 100 (.agg #[.int .i64 i, .int .i64 h])) 103 100 true).run Try.prog W = .ok (.tuple #[.agg #[.int .i64 i, .int .i64 h], .bool true]) W := by
  rfl
theorem own_some {w : World} {base : Nat} {e : TypeId} {v : Value} {n : Nat} {l : List Value} (h : w.ownsRow base e 1 v (n + 1) l) : ∃ g c, v = .slice (some ⟨g, 0, none⟩) (n + 1) c := by
  rcases h.2 with ⟨_, h⟩ | ⟨g, cap, cur, h, _⟩
  · omega
  · exact ⟨g, cap, h⟩

set_option maxHeartbeats 8000000 in
theorem heightFor_any (p : Pg) (wf : p.Wf) (v : Value) (hs : List Int) (b : Bk) (wz : ∀ z ∈ hs, (Lit.int .i64 z).wf = true) (wb : b.Wf) (w : World) (hsl : IntsOf .i64 w v hs) (hn : hs.length ≤ maxLen) :
    Calls Try.prog 41 #[.agg #[.int .i16 p.lo, .int .i16 p.st, .int .i16 p.bo], v, .agg #[.int .i16 b.c, .int .u8 b.m0, .int .u8 b.m1, .int .u8 b.m2, .int .i16 b.v, .int .i16 b.wi, .int .i16 b.hi, .int .i16 b.we]] w fun e w' => e = .returned (.tuple #[.int .i64 (hfV p hs b), .int .i64 (hfC p hs b)]) ∧ Below w.heap.size w w' := by
  obtain ⟨PO, hPO⟩ : ∃ o : Obj, o = .cells #[.int .i16 p.lo, .int .i16 p.st, .int .i16 p.bo] 26 := ⟨_, rfl⟩
  obtain ⟨BO, hBO⟩ : ∃ o : Obj, o = .cells #[.int .i16 b.c, .int .u8 b.m0, .int .u8 b.m1, .int .u8 b.m2, .int .i16 b.v, .int .i16 b.wi, .int .i16 b.hi, .int .i16 b.we] 61 := ⟨_, rfl⟩
  have G1 := Lib.hid (show Below w.heap.size w ((w.alloc PO).alloc BO) by go_grown)
  have BX := Lib.hid (show BkBox ((w.alloc PO).alloc BO) (w.heap.size + 1) b by rw [hBO]; have h := BkBox.new (w.alloc PO) b 61; rw [World.size_alloc] at h; exact h)
  have HS := Lib.hid (hsl.below G1.out)
  have WF := Lib.hid wf
  have WZ := Lib.hid wz
  have WB := Lib.hid wb
  obtain ⟨A, c, rfl, -⟩ := hsl
  clear wf wz wb
  rcases hf_cases p hs b with ⟨h1, h2, h3⟩ | ⟨h1, h4, h2, h3⟩ | ⟨h1, h4, h5, h2, h3⟩ | ⟨h1, h4, h5, h2, h3⟩
  · have E := Lib.hid h2
    have E2 := Lib.hid h3
    clear h2 h3
    go_enter Try.func41, Try.ntmps41
    go_wp2_with fail
    rw [← hPO, ← hBO]
    refine (validHeights_any p WF.out _ hs WZ.out _ HS.out hn).mono ?_
    rintro e w1 ⟨rfl, g1⟩
    rw [h1]
    go_wp2
    go_ret2
    exact ⟨by rw [E.out, E2.out]; rfl, bnext G1.out g1⟩
  · have E := Lib.hid h2
    have E2 := Lib.hid h3
    clear h2 h3
    go_enter Try.func41, Try.ntmps41
    go_wp2_with fail
    rw [← hPO, ← hBO]
    refine (validHeights_any p WF.out _ hs WZ.out _ HS.out hn).mono ?_
    rintro e w1 ⟨rfl, g1⟩
    rw [h1]
    obtain ⟨c0, c1, c2, c3, c4, c5, c6, c7, -⟩ := BX.out.below g1
    go_wp2_with fail
    refine (vB_any b _).mono ?_
    rintro e w2 ⟨rfl, g2⟩
    rw [h4]
    clear c0 c1 c2 c3 c4 c5 c6 c7
    go_wp2
    go_ret2
    exact ⟨by rw [E.out, E2.out]; rfl, bnext (bnext G1.out g1) g2⟩
  · have E := Lib.hid h2
    have E2 := Lib.hid h3
    have L6 := (hsB_len h1).2.2
    have EL := Lib.hid (show lvF hs b.hi = .iface 134 (.agg #[]) by unfold lvF; rw [dif_neg (by omega)]; rfl)
    clear h2 h3 h5
    go_enter Try.func41, Try.ntmps41
    go_wp2_with fail
    rw [← hPO, ← hBO]
    refine (validHeights_any p WF.out _ hs WZ.out _ HS.out hn).mono ?_
    rintro e w1 ⟨rfl, g1⟩
    rw [h1]
    obtain ⟨c0, c1, c2, c3, c4, c5, c6, c7, -⟩ := BX.out.below g1
    go_wp2_with fail
    refine (vB_any b _).mono ?_
    rintro e w2 ⟨rfl, g2⟩
    rw [h4]
    clear c0 c1 c2 c3 c4 c5 c6 c7
    have G3 := Lib.hid (bnext (bnext G1.out g1) g2)
    have HS3 := Lib.hid (HS.out.below (bnext g1 g2))
    have BX3 := Lib.hid (BX.out.below (bnext g1 g2))
    clear g1 g2
    have b0 : Below w2.heap.size w2 w2.drew := (Below.refl _ _).drew
    have HK := Lib.hid (show ∀ W1, Below w2.heap.size w2 W1 → (fun W1 => Below w2.heap.size w2 W1 ∧ W1.cell? ⟨w.heap.size + 1, 0, none⟩ = some (.int .i16 b.c) ∧ W1.cell? ⟨w.heap.size + 1, 1, none⟩ = some (.int .u8 b.m0) ∧ W1.cell? ⟨w.heap.size + 1, 2, none⟩ = some (.int .u8 b.m1) ∧ W1.cell? ⟨w.heap.size + 1, 3, none⟩ = some (.int .u8 b.m2) ∧ W1.cell? ⟨w.heap.size + 1, 4, none⟩ = some (.int .i16 b.v) ∧ W1.cell? ⟨w.heap.size + 1, 5, none⟩ = some (.int .i16 b.wi) ∧ W1.cell? ⟨w.heap.size + 1, 6, none⟩ = some (.int .i16 b.hi) ∧ W1.cell? ⟨w.heap.size + 1, 7, none⟩ = some (.int .i16 b.we)) W1 from fun W1 hB => by
      have h := BX3.out.below hB
      exact ⟨hB, h.c0, h.c1, h.c2, h.c3, h.c4, h.c5, h.c6, h.c7⟩)
    have TA := ta_top
    go_wp2
    go_region_held3 (fun W1 => Below w2.heap.size w2 W1 ∧ W1.cell? ⟨w.heap.size + 1, 0, none⟩ = some (.int .i16 b.c) ∧ W1.cell? ⟨w.heap.size + 1, 1, none⟩ = some (.int .u8 b.m0) ∧ W1.cell? ⟨w.heap.size + 1, 2, none⟩ = some (.int .u8 b.m1) ∧ W1.cell? ⟨w.heap.size + 1, 3, none⟩ = some (.int .u8 b.m2) ∧ W1.cell? ⟨w.heap.size + 1, 4, none⟩ = some (.int .i16 b.v) ∧ W1.cell? ⟨w.heap.size + 1, 5, none⟩ = some (.int .i16 b.wi) ∧ W1.cell? ⟨w.heap.size + 1, 6, none⟩ = some (.int .i16 b.hi) ∧ W1.cell? ⟨w.heap.size + 1, 7, none⟩ = some (.int .i16 b.we)) (first | exact HK.out _ b0 | exact HK.out _ (And.left (by assumption)) | (refine HK.out _ (bnext ?_ hq); exact And.left (by assumption)) | exact HK.out _ (bnext (And.left (by assumption)) ((Below.refl _ _).alloc (Nat.le_refl _) _)) | exact HK.out _ (bnext H9.out ((Below.refl _ _).alloc (Nat.le_refl _) _)) | exact HK.out _ (((show Below w2.heap.size w2 _ from And.left (by assumption)).setCell (p := ⟨_, _, none⟩) (by have h8 := H8.out.size; have h9 := H9.out.size; simp; try omega) _).setCell (p := ⟨_, _, none⟩) (by have h8 := H8.out.size; have h9 := H9.out.size; simp; try omega) _)) (first
      | (go_at_call 82; refine (levelsOf_any _ hs _ (HS3.out.below (And.left (by assumption))) L6).mono ?_; rintro e w' ⟨v, rfl, ho, hq⟩; obtain ⟨gl, cl, rfl⟩ := own_some ho; have HO := Lib.hid ho; clear ho; have H8 := Lib.hid (bnext (show Below w2.heap.size w2 _ from And.left (by assumption)) hq); try (have HX8 := Lib.hid ((hq.block w2.heap.size (by simp)).trans (heap_alloc_new w2 _))))
      | (go_at_call 81; refine (levelFor_any _ gl cl hs b WB.out _ (by first | exact HO.out | exact ownBelow HO.out ((Below.refl _ _).alloc (Nat.le_refl _) _)) L6).mono ?_; rintro e w5 ⟨rfl, hq⟩; rw [EL.out]; have H9 := Lib.hid (bnext (show Below w2.heap.size w2 _ from And.left (by assumption)) hq); try (have X9 := (by first | exact (hq.block _ (Array.getElem?_eq_some_iff.1 HX8.out).1).trans HX8.out | exact (hq.block w'.heap.size (by simp)).trans (heap_alloc_new w' _)); have y0 := cell_of_row _ _ 0 _ _ _ X9; have y1 := cell_of_row _ _ 1 _ _ _ X9; have yf := fun j => frozen_of_row _ _ j _ _ X9; simp only [List.getElem?_toArray, List.getElem?_cons_zero, List.getElem?_cons_succ] at y0 y1; have HX9 := Lib.hid X9; clear X9)))
    all_goals
      have hf : Below w2.heap.size w2 _ := And.left (by assumption)
      have HF := Lib.hid hf
      clear hf
      go_wp2
      go_ret2
      exact ⟨by rw [E.out, E2.out]; rfl, bnext G3.out HF.out⟩
  · obtain ⟨h6, h7⟩ : hfV p hs b = hs[hIx hs b.hi] ∧ hfC p hs b = 0 := ⟨h2, h3⟩
    have E2 := Lib.hid h7
    have L6 := (hsB_len h1).2.2
    have EL := show lvF hs b.hi = .iface 100 (.agg #[.int .i64 (hIx hs b.hi : Int), .int .i64 hs[hIx hs b.hi]]) by unfold lvF; rw [dif_pos h5]; rfl
    obtain ⟨h, hh⟩ : ∃ h, hs[hIx hs b.hi] = h := ⟨_, rfl⟩
    rw [hh] at EL h6
    have E := Lib.hid h6
    clear h2 h3 h6 h7 hh
    have KK : ((hIx hs b.hi : Nat) : Int) = ((hIx hs b.hi : Nat) : Int) := rfl
    obtain ⟨K, hK⟩ : ∃ K : Int, ((hIx hs b.hi : Nat) : Int) = K := ⟨_, rfl⟩
    rw [hK] at EL
    have EL := Lib.hid EL
    clear h5 KK hK
    go_enter Try.func41, Try.ntmps41
    go_wp2_with fail
    rw [← hPO, ← hBO]
    refine (validHeights_any p WF.out _ hs WZ.out _ HS.out hn).mono ?_
    rintro e w1 ⟨rfl, g1⟩
    rw [h1]
    obtain ⟨c0, c1, c2, c3, c4, c5, c6, c7, -⟩ := BX.out.below g1
    go_wp2_with fail
    refine (vB_any b _).mono ?_
    rintro e w2 ⟨rfl, g2⟩
    rw [h4]
    clear c0 c1 c2 c3 c4 c5 c6 c7
    have G3 := Lib.hid (bnext (bnext G1.out g1) g2)
    have HS3 := Lib.hid (HS.out.below (bnext g1 g2))
    have BX3 := Lib.hid (BX.out.below (bnext g1 g2))
    clear g1 g2
    have b0 : Below w2.heap.size w2 w2.drew := (Below.refl _ _).drew
    have HK := Lib.hid (show ∀ W1, Below w2.heap.size w2 W1 → (fun W1 => Below w2.heap.size w2 W1 ∧ W1.cell? ⟨w.heap.size + 1, 0, none⟩ = some (.int .i16 b.c) ∧ W1.cell? ⟨w.heap.size + 1, 1, none⟩ = some (.int .u8 b.m0) ∧ W1.cell? ⟨w.heap.size + 1, 2, none⟩ = some (.int .u8 b.m1) ∧ W1.cell? ⟨w.heap.size + 1, 3, none⟩ = some (.int .u8 b.m2) ∧ W1.cell? ⟨w.heap.size + 1, 4, none⟩ = some (.int .i16 b.v) ∧ W1.cell? ⟨w.heap.size + 1, 5, none⟩ = some (.int .i16 b.wi) ∧ W1.cell? ⟨w.heap.size + 1, 6, none⟩ = some (.int .i16 b.hi) ∧ W1.cell? ⟨w.heap.size + 1, 7, none⟩ = some (.int .i16 b.we)) W1 from fun W1 hB => by
      have h := BX3.out.below hB
      exact ⟨hB, h.c0, h.c1, h.c2, h.c3, h.c4, h.c5, h.c6, h.c7⟩)
    have TA := fun W => ta_shelf K h W
    go_wp2
    go_region_held3 (fun W1 => Below w2.heap.size w2 W1 ∧ W1.cell? ⟨w.heap.size + 1, 0, none⟩ = some (.int .i16 b.c) ∧ W1.cell? ⟨w.heap.size + 1, 1, none⟩ = some (.int .u8 b.m0) ∧ W1.cell? ⟨w.heap.size + 1, 2, none⟩ = some (.int .u8 b.m1) ∧ W1.cell? ⟨w.heap.size + 1, 3, none⟩ = some (.int .u8 b.m2) ∧ W1.cell? ⟨w.heap.size + 1, 4, none⟩ = some (.int .i16 b.v) ∧ W1.cell? ⟨w.heap.size + 1, 5, none⟩ = some (.int .i16 b.wi) ∧ W1.cell? ⟨w.heap.size + 1, 6, none⟩ = some (.int .i16 b.hi) ∧ W1.cell? ⟨w.heap.size + 1, 7, none⟩ = some (.int .i16 b.we)) (first | exact HK.out _ b0 | exact HK.out _ (And.left (by assumption)) | (refine HK.out _ (bnext ?_ hq); exact And.left (by assumption)) | exact HK.out _ (bnext (And.left (by assumption)) ((Below.refl _ _).alloc (Nat.le_refl _) _)) | exact HK.out _ (bnext H9.out ((Below.refl _ _).alloc (Nat.le_refl _) _)) | exact HK.out _ (((show Below w2.heap.size w2 _ from And.left (by assumption)).setCell (p := ⟨_, _, none⟩) (by have h8 := H8.out.size; have h9 := H9.out.size; simp; try omega) _).setCell (p := ⟨_, _, none⟩) (by have h8 := H8.out.size; have h9 := H9.out.size; simp; try omega) _)) (first
      | (go_at_call 82; refine (levelsOf_any _ hs _ (HS3.out.below (And.left (by assumption))) L6).mono ?_; rintro e w' ⟨v, rfl, ho, hq⟩; obtain ⟨gl, cl, rfl⟩ := own_some ho; have HO := Lib.hid ho; clear ho; have H8 := Lib.hid (bnext (show Below w2.heap.size w2 _ from And.left (by assumption)) hq); try (have HX8 := Lib.hid ((hq.block w2.heap.size (by simp)).trans (heap_alloc_new w2 _))))
      | (go_at_call 81; refine (levelFor_any _ gl cl hs b WB.out _ (by first | exact HO.out | exact ownBelow HO.out ((Below.refl _ _).alloc (Nat.le_refl _) _)) L6).mono ?_; rintro e w5 ⟨rfl, hq⟩; rw [EL.out]; have H9 := Lib.hid (bnext (show Below w2.heap.size w2 _ from And.left (by assumption)) hq); try (have X9 := (by first | exact (hq.block _ (Array.getElem?_eq_some_iff.1 HX8.out).1).trans HX8.out | exact (hq.block w'.heap.size (by simp)).trans (heap_alloc_new w' _)); have y0 := cell_of_row _ _ 0 _ _ _ X9; have y1 := cell_of_row _ _ 1 _ _ _ X9; have yf := fun j => frozen_of_row _ _ j _ _ X9; simp only [List.getElem?_toArray, List.getElem?_cons_zero, List.getElem?_cons_succ] at y0 y1; have HX9 := Lib.hid X9; clear X9)))
    all_goals
      have hf : Below w2.heap.size w2 _ := And.left (by assumption)
      have HF := Lib.hid hf
      clear hf
      go_wp2
      go_ret2
      exact ⟨by rw [E.out, E2.out]; rfl, bnext G3.out HF.out⟩

end Go.Proofs.Ytjfhpgomaahgoaa
