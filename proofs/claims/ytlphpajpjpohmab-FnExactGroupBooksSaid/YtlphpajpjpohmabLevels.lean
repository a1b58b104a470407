/- The levels of heights and the first that holds a book, by the program: contracts. Condition: at most 6 heights, numbers within their kinds. -/
import Derived.Test.YtlphpajpjpohmabLevel
import Derived.Test.YtlphpajpjpohmabOwn
import Derived.Maps.AppendAt
namespace Go.Proofs.Ytlphpajpjpohmab
set_option linter.unusedSimpArgs false
set_option linter.unusedVariables false
set_option maxRecDepth 100000
open Go.RowKit

def lvC (hs : List Int) (n : Nat) : List Value := (List.range n).map (fun i => lvV i (hs.getD i 0))
theorem lvC_succ (hs : List Int) (n : Nat) : lvC hs (n + 1) = lvC hs n ++ [lvV n (hs.getD n 0)] := by unfold lvC; rw [List.range_succ, List.map_append]; rfl
theorem lvC_length (hs : List Int) (n : Nat) : (lvC hs n).length = n := by simp [lvC]

set_option maxHeartbeats 8000000 in
theorem levelsOf_any (v0 : Value) (hs : List Int) (w : World) (hsl : IntsOf .i64 w v0 hs) (h6 : hs.length ≤ 6) :
    Calls Try.prog 65 #[v0] w fun e w' => ∃ v, e = .returned v ∧ w'.ownsRow w.heap.size 98 1 v (hs.length + 1) (lvC hs hs.length ++ [topV]) ∧ Below w.heap.size w w' := by
  obtain ⟨A, c, rfl, hat⟩ := hsl
  obtain ⟨i0, hi0, hz0, hz1, hz2⟩ := info_parts infoLevel
  have HA := Lib.hid hat
  have H0 := Lib.hid (show w.ownsRow w.heap.size 98 1 (.slice none 0 0) 0 (lvC hs 0) from ⟨rfl, .inl ⟨rfl, rfl⟩⟩)
  clear hat
  go_enter Try.func65, Try.ntmps65
  go_wp2
  go_loopw [3, 8] (fun v_ i_ wr => ∃ i : Nat, i ≤ hs.length ∧ i_ = .int .i64 (i : Int) ∧ wr.ownsRow w.heap.size 98 1 v_ i (lvC hs i) ∧ Below w.heap.size w wr) (fun _ i_ _ => hs.length - (intOf i_).toNat)
  case atStart => exact ⟨0, Nat.zero_le _, rfl, H0.out, Below.refl _ _⟩
  case round =>
    obtain ⟨i, hi, rfl, hown, hb⟩ := hrel
    have OW := Lib.hid hown
    obtain ⟨A3, c3, rfl⟩ := vlen_own1 hown
    clear hown
    have hsz := hb.size
    by_cases hlt : i < hs.length
    · obtain ⟨ga, oa, rfl, hga, hcells⟩ := HA.out (by omega)
      have q0 := (hcells.below hb hga) i hlt
      have LS := Lib.hid (show lvC hs (i + 1) = lvC hs i ++ [.iface 101 (.agg #[.int .i64 (i : Int), .int .i64 hs[i]])] by rw [lvC_succ]; simp [lvV, List.getD, List.getElem?_eq_getElem hlt])
      generalize hs[i] = h at q0 LS
      clear hcells
      go_wp2_with (at_builtin; refine wpList_append_own _ rfl (.tmp 13) (.tmp 18) _ rfl w.heap.size 98 i0 .nilIface 1 16 Try.underlying95 hi0 hz0 hz1 hz2 rfl (by decide) _ _ _ rfl (OW.out.alloc _) ⟨wr.heap.size, 0, none⟩ 1 1 [.iface 101 (.agg #[.int .i64 (i : Int), .int .i64 h])] rfl rfl ?c1 ?c2 ?c3 ?c4 ?c5 ?_)
      case c1 => exact cell_one_new _ _ _
      case c2 => (intro u hu; simp at hu; subst hu; rfl)
      case c3 => (unfold maxLen; omega)
      case c4 => omega
      case c5 => (simp; omega)
      intro v' w4 hown' hgrow' _
      have OW' := Lib.hid hown'
      have g4 : Below w.heap.size w w4 := (hb.alloc hsz _).grown hgrow' (by simp; omega) (fun k hk => (OW.out.lt k hk).1)
      clear hown' hgrow'
      go_wp2
      go_roundw
      case rel => exact ⟨i + 1, by omega, by go_num, by rw [LS.out]; simpa using OW'.out, g4⟩
      case measure => simp [intOf]; omega
    · obtain rfl : i = hs.length := by omega
      go_wp2_with (at_builtin; refine wpList_append_own _ rfl (.tmp 21) (.tmp 24) _ rfl w.heap.size 98 i0 .nilIface 1 16 Try.underlying95 hi0 hz0 hz1 hz2 rfl (by decide) _ _ _ rfl (OW.out.alloc _) ⟨wr.heap.size, 0, none⟩ 1 1 [.iface 103 (.agg #[])] rfl rfl ?c1 ?c2 ?c3 ?c4 ?c5 ?_)
      case c1 => exact cell_one_new _ _ _
      case c2 => (intro u hu; simp at hu; subst hu; rfl)
      case c3 => (unfold maxLen; omega)
      case c4 => omega
      case c5 => (simp; omega)
      intro v' w4 hown' hgrow' _
      have OW' := Lib.hid hown'
      have g4 : Below w.heap.size w w4 := (hb.alloc hsz _).grown hgrow' (by simp; omega) (fun k hk => (OW.out.lt k hk).1)
      clear hown' hgrow'
      go_wp2
      go_ret
      exact ⟨_, rfl, OW'.out, g4⟩

/-- The first height that holds a book; behind the last one, if none does. -/
def hIx (hs : List Int) (b : Int) : Nat := hs.findIdx (fun h => decide (b ≤ h))
theorem hIx_le (hs : List Int) (b : Int) : hIx hs b ≤ hs.length := List.findIdx_le_length
theorem hIx_not {hs : List Int} {b : Int} {i : Nat} (h : i < hIx hs b) (hi : i < hs.length) : ¬ b ≤ hs[i] := by
  have := List.not_of_lt_findIdx h
  simpa using this
theorem hIx_at {hs : List Int} {b : Int} (h : hIx hs b < hs.length) : b ≤ hs[hIx hs b] := by
  have h2 : (fun h => decide (b ≤ h)) (hs[hIx hs b]) = true := List.findIdx_getElem (w := h)
  exact of_decide_eq_true h2
theorem lvC_at {hs : List Int} {i : Nat} (h : i < hs.length) : (lvC hs hs.length ++ [topV])[i]? = some (lvV i hs[i]) := by
  rw [List.getElem?_append_left (by rw [lvC_length]; exact h)]
  simp [lvC, h, List.getD]
theorem lvC_top {hs : List Int} : (lvC hs hs.length ++ [topV])[hs.length]? = some topV := by
  rw [List.getElem?_append_right (by rw [lvC_length]; exact Nat.le_refl _), lvC_length]
  simp

set_option maxHeartbeats 8000000 in
theorem indexLevel_any (base g cap bx : Nat) (hs : List Int) (b : Bk) (hb : b.Wf) (w : World) (ho : w.ownsRow base 98 1 (.slice (some ⟨g, 0, none⟩) (hs.length + 1) cap) (hs.length + 1) (lvC hs hs.length ++ [topV])) (h6 : hs.length ≤ 6) (hx : BkBox w bx b) :
    Calls Try.prog 74 #[.slice (some ⟨g, 0, none⟩) (hs.length + 1) cap, .func (.func 75) #[] #[.pointer (some ⟨bx, 0, none⟩)]] w fun e w' => e = .returned (.int .i64 (hIx hs b.hi : Int)) ∧ Below w.heap.size w w' := by
  have HO := Lib.hid ho
  have HX := Lib.hid hx
  have HW := Lib.hid hb
  obtain ⟨K, hK⟩ : ∃ K, hIx hs b.hi = K := ⟨_, rfl⟩
  have hKl : K ≤ hs.length := by rw [← hK]; exact hIx_le hs b.hi
  have HN := Lib.hid (fun (i : Nat) (h : i < K) (hi : i < hs.length) => show ¬ b.hi ≤ hs[i] by subst hK; exact hIx_not h hi)
  have HT := Lib.hid (fun (h : K < hs.length) => show b.hi ≤ hs[K] by subst hK; exact hIx_at h)
  rw [hK]
  clear ho hx hb hK
  go_enter Try.func74, Try.ntmps74
  go_wp2
  go_loopw [8] (fun i_ wr => ∃ i : Nat, i ≤ K ∧ i_ = .int .i64 (i : Int) ∧ Below w.heap.size w wr) (fun i_ _ => K - (intOf i_).toNat)
  case atStart => exact ⟨0, Nat.zero_le _, rfl, Below.refl _ _⟩
  case round =>
    obtain ⟨i, hi, rfl, hbel⟩ := hrel
    have ho := ownBelow HO.out hbel
    have BX := Lib.hid (HX.out.below hbel)
    have il : (i : Int) < (hs.length : Int) + 1 := by omega
    by_cases hlt : i < hs.length
    · have q0 := (ho.cellAt i (by omega)).trans (lvC_at hlt)
      have NN := Lib.hid (fun h => HN.out i h hlt)
      have TT := Lib.hid (fun (e : i = K) => show b.hi ≤ hs[i] by subst e; exact HT.out hlt)
      generalize hs[i] = h at q0 NN TT
      have CC := Lib.hid (levelFor1_shelf i h b HW.out bx wr BX.out)
      unfold lvV at q0 CC
      clear ho
      by_cases hik : i < K
      · have d : decide (b.hi ≤ h) = false := by simpa using NN.out hik
        rw [d] at CC
        go_wp2_with (go_at_call 75; refine (CC.out).mono ?_; rintro e w1 ⟨rfl, g1⟩)
        go_roundw
        case rel => exact ⟨i + 1, by omega, by go_num, bnext hbel g1⟩
        case measure => simp [intOf]; omega
      · have d : decide (b.hi ≤ h) = true := by simpa using TT.out (by omega)
        rw [d] at CC
        obtain rfl : i = K := by omega
        go_wp2_with (go_at_call 75; refine (CC.out).mono ?_; rintro e w1 ⟨rfl, g1⟩)
        go_ret
        exact ⟨rfl, bnext hbel g1⟩
    · obtain rfl : i = hs.length := by omega
      obtain rfl : K = hs.length := by omega
      have q0 := (ho.cellAt hs.length (by omega)).trans lvC_top
      have CC := Lib.hid (levelFor1_top b bx wr BX.out)
      unfold topV at q0 CC
      clear ho
      go_wp2_with (go_at_call 75; refine (CC.out).mono ?_; rintro e w1 ⟨rfl, g1⟩)
      go_ret
      exact ⟨rfl, bnext hbel g1⟩

/-- What levelFor finds. -/
def lvF (hs : List Int) (b : Int) : Value := if h : hIx hs b < hs.length then lvV (hIx hs b) hs[hIx hs b] else topV

set_option maxHeartbeats 4000000 in
theorem levelFor_any (base g cap : Nat) (hs : List Int) (b : Bk) (hb : b.Wf) (w : World) (ho : w.ownsRow base 98 1 (.slice (some ⟨g, 0, none⟩) (hs.length + 1) cap) (hs.length + 1) (lvC hs hs.length ++ [topV])) (h6 : hs.length ≤ 6) :
    Calls Try.prog 66 #[.slice (some ⟨g, 0, none⟩) (hs.length + 1) cap, .agg #[.int .i16 b.c, .int .u8 b.m0, .int .u8 b.m1, .int .u8 b.m2, .int .i16 b.v, .int .i16 b.wi, .int .i16 b.hi, .int .i16 b.we]] w fun e w' => e = .returned (lvF hs b.hi) ∧ Below w.heap.size w w' := by
  obtain ⟨BO, hBO⟩ : ∃ o : Obj, o = .cells #[.int .i16 b.c, .int .u8 b.m0, .int .u8 b.m1, .int .u8 b.m2, .int .i16 b.v, .int .i16 b.wi, .int .i16 b.hi, .int .i16 b.we] 59 := ⟨_, rfl⟩
  have G1 := Lib.hid (show Below w.heap.size w (w.alloc BO) from (Below.refl _ _).alloc (Nat.le_refl _) _)
  have BX := Lib.hid (show BkBox (w.alloc BO) w.heap.size b by rw [hBO]; exact BkBox.new w b _)
  have HO := Lib.hid (ownBelow ho G1.out)
  have hKl := hIx_le hs b.hi
  have CC := Lib.hid (indexLevel_any base g cap w.heap.size hs b hb _ HO.out h6 BX.out)
  rw [hBO] at CC
  have il : (hIx hs b.hi : Int) < (hs.length : Int) + 1 := by omega
  clear ho
  go_enter Try.func66, Try.ntmps66
  go_wp2_with fail
  refine (CC.out).mono ?_
  rintro e w1 ⟨rfl, g1⟩
  have G2 := Lib.hid (bnext G1.out (by rw [hBO]; exact g1))
  have ho := ownBelow HO.out (by rw [hBO]; exact g1)
  by_cases hk : hIx hs b.hi < hs.length
  · have q0 := (ho.cellAt (hIx hs b.hi) (by omega)).trans (lvC_at hk)
    have E := Lib.hid (show lvF hs b.hi = lvV (hIx hs b.hi) hs[hIx hs b.hi] by unfold lvF; rw [dif_pos hk])
    generalize hs[hIx hs b.hi] = h at q0 E
    generalize hIx hs b.hi = K at *
    clear ho
    go_wp2
    go_ret
    exact ⟨by rw [E.out]; rfl, G2.out⟩
  · have e0 : hIx hs b.hi = hs.length := by omega
    have q0 := (ho.cellAt hs.length (by omega)).trans lvC_top
    have E := Lib.hid (show lvF hs b.hi = topV by unfold lvF; rw [dif_neg hk])
    rw [e0] at il ⊢
    clear ho
    go_wp2
    go_ret
    exact ⟨by rw [E.out]; rfl, G2.out⟩

end Go.Proofs.Ytlphpajpjpohmab
