/- The books of each height, by the model: a contract. Condition: at most six heights, at most 60 books, whose numbers lie within their kinds. -/
import Derived.Test.YtlphpajpjpohmabGroups
namespace Go.Proofs.Ytlphpajpjpohmab
set_option linter.unusedSimpArgs false
set_option linter.unusedVariables false
set_option maxRecDepth 100000
open Go.RowKit

theorem DjG.symm {a b : Value} (h : DjG a b) : DjG b a := fun k hk e => h k e hk
/-- A value's block lies apart from a list's and from all its parts'. -/
def Apart (u o : Value) (vs : List Value) : Prop := DjG u o ∧ ∀ (i : Nat) (v : Value), vs[i]? = some v → DjG u v
/-- A list that grows of lists of numbers, all in blocks of their own. -/
def TL (w : World) (base : Nat) (o : Value) (vs : List Value) (gr : Nat → List Int) : Prop :=
  w.ownsRow base 35 1 o vs.length vs ∧ (∀ (i : Nat) (v : Value), vs[i]? = some v → w.ownsRow base 2 1 v (gr i).length ((gr i).map (Value.int .i64))) ∧
    (∀ (i j : Nat) (v v' : Value), i ≠ j → vs[i]? = some v → vs[j]? = some v' → DjG v v') ∧ ∀ (i : Nat) (v : Value), vs[i]? = some v → DjG o v
section
variable {w w' : World} {base : Nat} {o u : Value} {vs : List Value} {gr : Nat → List Int}
theorem TL.below (h : TL w base o vs gr) (hb : Below w.heap.size w w') : TL w' base o vs gr := ⟨ownBelow h.1 hb, fun i v hv => ownBelow (h.2.1 i v hv) hb, h.2.2⟩
theorem TL.grown (h : TL w base o vs gr) (hg : w.grownBy w' u.ownBlock) (ap : Apart u o vs) : TL w' base o vs gr :=
  ⟨ownOther h.1 hg (fun k hk e => ap.1 k e.symm hk), fun i v hv => ownOther (h.2.1 i v hv) hg (fun k hk e => ap.2 i v hv k e.symm hk), h.2.2⟩
theorem TL.fresh (h : TL w base o vs gr) {u' : Value} {H : Nat} (hb : u'.ownBlock = some H) (hH : w.heap.size ≤ H) : Apart u' o vs := by
  constructor
  · intro k hk e
    rw [hb] at hk
    injection hk with hk
    have := (h.1.lt k e).2
    omega
  · intro i v hv k hk e
    rw [hb] at hk
    injection hk with hk
    have := ((h.2.1 i v hv).lt k e).2
    omega
theorem Apart.same (ap : Apart u o vs) {u' : Value} (hb : u'.ownBlock = u.ownBlock) : Apart u' o vs := ⟨fun k hk => ap.1 k (hb ▸ hk), fun i v hv k hk => ap.2 i v hv k (hb ▸ hk)⟩
theorem TL.push {o' : Value} (h : TL w base o vs gr) (hu : w.ownsRow base 2 1 u (gr vs.length).length ((gr vs.length).map (Value.int .i64))) (ap : Apart u o vs)
    (ho : w'.ownsRow base 35 1 o' (vs ++ [u]).length (vs ++ [u])) (hg : w.grownBy w' o.ownBlock) (hb : o'.ownBlock = o.ownBlock ∨ ∃ H, o'.ownBlock = some H ∧ w.heap.size ≤ H) : TL w' base o' (vs ++ [u]) gr := by
  have at_ : ∀ (i : Nat) (v : Value), (vs ++ [u])[i]? = some v → vs[i]? = some v ∨ (i = vs.length ∧ v = u) := by
    intro i v hv
    rcases Nat.lt_or_ge i vs.length with hi | hi
    · rw [List.getElem?_append_left hi] at hv; exact .inl hv
    · rw [List.getElem?_append_right hi] at hv
      have h0 : i - vs.length = 0 := by
        have := (List.getElem?_eq_some_iff.1 hv).1
        simpa using this
      rw [h0] at hv
      exact .inr ⟨by omega, by simpa using hv.symm⟩
  have far : ∀ (v : Value), (∃ i : Nat, vs[i]? = some v) ∨ v = u → DjG o' v := by
    intro v hv k hk e
    rcases hb with hb | ⟨H, hb, hH⟩
    · rw [hb] at hk
      rcases hv with ⟨i, hv⟩ | rfl
      · exact h.2.2.2 i v hv k hk e
      · exact ap.1 k e hk
    · rw [hb] at hk
      injection hk with hk
      rcases hv with ⟨i, hv⟩ | rfl
      · have := ((h.2.1 i v hv).lt k e).2; omega
      · have := (hu.lt k e).2; omega
  refine ⟨ho, fun i v hv => ?_, fun i j v v' hij hv hv' => ?_, fun i v hv => ?_⟩
  · rcases at_ i v hv with hv | ⟨rfl, rfl⟩
    · exact ownOther (h.2.1 i v hv) hg (fun k hk e => h.2.2.2 i v hv k e.symm hk)
    · exact ownOther hu hg (fun k hk e => ap.1 k hk e.symm)
  · rcases at_ i v hv with hv2 | ⟨rfl, rfl⟩
    · rcases at_ j v' hv' with hv2' | ⟨rfl, rfl⟩
      · exact h.2.2.1 i j v v' hij hv2 hv2'
      · exact (ap.2 i v hv2).symm
    · rcases at_ j v' hv' with hv2' | ⟨rfl, rfl⟩
      · exact ap.2 j v' hv2'
      · exact absurd rfl hij
  · rcases at_ i v hv with hv | ⟨rfl, rfl⟩
    · exact far v (.inl ⟨i, hv⟩)
    · exact far v (.inr rfl)
end


set_option maxHeartbeats 8000000 in
theorem l04Groups_any (v v2 : Value) (hs : List Int) (xs : List Bk) (wx : ∀ b ∈ xs, b.Wf) (w : World) (s1 : IntsOf .i64 w v hs) (s2 : SliceOf w v2 xs) (h6 : hs.length ≤ 6) (h60 : xs.length ≤ 60) :
    Calls Try.prog 40 #[v, v2] w fun e w' => ∃ o vs, e = .returned o ∧ vs.length = hs.length ∧ TL w' w.heap.size o vs (fun i => grP hs xs i xs.length) ∧ Below w.heap.size w w' := by
  obtain ⟨i0, hi0, hz0, hz1, hz2⟩ := info_parts infoI64G
  obtain ⟨j0, hj0, hy0, hy1, hy2⟩ := info_parts infoI64S
  have S1 := Lib.hid s1
  have WX := Lib.hid wx
  obtain ⟨A, c, rfl, -⟩ := s1
  obtain ⟨B, d, rfl, hb1⟩ := s2
  have HB := Lib.hid hb1
  have T0 := Lib.hid (show TL (w.alloc (.cells #[] 35)) w.heap.size (.slice (some ⟨w.heap.size, 0, none⟩) 0 0) [] (fun i => grP hs xs i xs.length) from
    ⟨⟨rfl, .inr ⟨w.heap.size, 0, #[], rfl, Nat.le_refl _, heap_alloc_new w _, Nat.le_refl _, Nat.zero_le _, rfl, rfl⟩⟩, fun i v hv => by simp at hv, fun i j v v' _ hv => by simp at hv, fun i v hv => by simp at hv⟩)
  clear wx hb1
  go_enter Try.func40, Try.ntmps40
  go_wp2
  go_loopw [5, 6] (fun o_ i_ wr => ∃ (i : Nat) (o : Value) (vs : List Value), o = o_ ∧ i ≤ hs.length ∧ i_ = .int .i64 (i : Int) ∧ vs.length = i ∧ TL wr w.heap.size o vs (fun i => grP hs xs i xs.length) ∧ Below w.heap.size w wr) (fun _ i_ _ => hs.length - (intOf i_).toNat)
  case atStart => exact ⟨0, _, [], rfl, Nat.zero_le _, rfl, rfl, T0.out, (Below.refl _ _).alloc (Nat.le_refl _) _⟩
  case round =>
    obtain ⟨i, o, vs, rfl, hi, rfl, hvl, htl, hb⟩ := hrel
    have TT := Lib.hid htl
    have HBL := Lib.hid hb
    have VL := Lib.hid hvl
    have hsz := hb.size
    clear htl hb hvl
    by_cases hlt : i < hs.length
    · have H0 := Lib.hid (show (wr.alloc (.cells #[] 2)).ownsRow w.heap.size 2 1 (.slice (some ⟨wr.heap.size, 0, none⟩) 0 0) (grP hs xs i 0).length ((grP hs xs i 0).map (Value.int .i64)) from
        ⟨rfl, .inr ⟨wr.heap.size, 0, #[], rfl, hsz, heap_alloc_new wr _, Nat.le_refl _, Nat.zero_le _, rfl, rfl⟩⟩)
      have ba : Below wr.heap.size wr (wr.alloc (.cells #[] 2)) := (Below.refl _ _).alloc (Nat.le_refl _) _
      have T1 := Lib.hid (TT.out.below ba)
      have A1 := Lib.hid (show Apart (.slice (some ⟨wr.heap.size, 0, none⟩) 0 0) o vs from TT.out.fresh rfl (Nat.le_refl _))
      have B1 := Lib.hid (bnext HBL.out ba)
      obtain ⟨Ao, co, rfl⟩ := vlen_own1 TT.out.1
      obtain ⟨wo, rfl⟩ : ∃ wo : World, wo = wr := ⟨_, rfl⟩
      clear ba
      go_wp2
      go_loopw [7, 8] (fun u_ k_ wx_ => ∃ (k : Nat) (u : Value), u = u_ ∧ k ≤ xs.length ∧ k_ = .int .i64 (k : Int) ∧ wx_.ownsRow w.heap.size 2 1 u (grP hs xs i k).length ((grP hs xs i k).map (Value.int .i64)) ∧ Apart u (.slice Ao vs.length co) vs ∧ TL wx_ w.heap.size (.slice Ao vs.length co) vs (fun i => grP hs xs i xs.length) ∧ Below w.heap.size w wx_) (fun _ k_ _ => xs.length - (intOf k_).toNat)
      case atStart => exact ⟨0, _, rfl, Nat.zero_le _, rfl, H0.out, A1.out, T1.out, B1.out⟩
      case round =>
        obtain ⟨k, u, rfl, hk, rfl, hou, hap, htl, hb⟩ := hrel
        have OU := Lib.hid hou
        have AP := Lib.hid hap
        have TT := Lib.hid htl
        have BB := Lib.hid hb
        have hsz2 := hb.size
        have LN := grP_len hs xs i k
        obtain ⟨Au, cu, rfl⟩ := vlen_own1 hou
        clear hou hap htl hb
        by_cases hlk : k < xs.length
        · obtain ⟨gb, ob, rfl, hgb, hcb⟩ := HB.out (by omega)
          have zb := Nat.lt_of_lt_of_le hgb BB.out.size
          have p6 := (booksAt_some (hcb.below BB.out hgb) hlk).2.2.2.2.2.2.1
          have CC := Lib.hid (l04For_any _ hs xs[k] (WX.out _ (List.getElem_mem hlk)) gb (ob + k * 8) wr (S1.out.below BB.out) (by unfold maxLen; omega) p6 zb)
          clear hcb p6
          by_cases hK : hIx hs xs[k].hi = i
          · rw [hK, if_pos hlt] at CC
            have GY := Lib.hid (grP_yes hlk hK)
            clear hK
            go_wp2_with fail
            refine (CC.out).mono ?_
            rintro e w3 ⟨rfl, g3⟩
            have d1 : ((i : Int) == (i : Int)) = true := by simp
            have ba : Below w3.heap.size w3 (w3.alloc (.cells #[.int .i64 (k : Int)] 2)) := (Below.refl _ _).alloc (Nat.le_refl _) _
            have bb := bnext g3 ba
            have OU3 := Lib.hid (ownBelow (ownBelow OU.out g3) ba)
            have TT3 := Lib.hid ((TT.out.below g3).below ba)
            have BB3 := Lib.hid (bnext BB.out bb)
            have z3 := g3.size
            clear ba bb g3 CC
            go_wp2_with (at_builtin; refine wpList_append_own_at _ rfl (.tmp 30) (.tmp 32) _ rfl w.heap.size 2 i0 (.int .i64 0) 1 8 Try.underlying35 hi0 hz0 hz1 hz2 rfl (by decide) _ _ _ rfl OU3.out ⟨w3.heap.size, 0, none⟩ 1 1 [.int .i64 (k : Int)] rfl rfl (cell_one_new _ _ _) (by intro u hu; simp at hu; subst hu; rfl) (by unfold maxLen; omega) (by omega) (by simp; omega) ?_)
            intro v' w4 ho4 hg4 _ hb4
            have OU4 := Lib.hid (show w4.ownsRow w.heap.size 2 1 v' (grP hs xs i (k + 1)).length ((grP hs xs i (k + 1)).map (Value.int .i64)) by rw [GY.out]; simpa using ho4)
            have TT4 := Lib.hid (TT3.out.grown hg4 AP.out)
            have AP4 := Lib.hid (show Apart v' (.slice Ao vs.length co) vs by
              rcases hb4 with h | h
              · exact AP.out.same h
              · exact TT3.out.fresh h (by simp))
            have BB4 := Lib.hid (BB3.out.grown hg4 BB3.out.size (fun q hq => (OU.out.lt q hq).1))
            clear ho4 hg4 hb4
            go_wp2
            go_roundw
            case rel => exact ⟨k + 1, _, rfl, by omega, by go_num, OU4.out, AP4.out, TT4.out, BB4.out⟩
            case measure => simp [intOf]; omega
          · have GN := Lib.hid (grP_no hlk hK)
            have d1 : ∃ z : Int, (if hIx hs xs[k].hi < hs.length then ((hIx hs xs[k].hi : Nat) : Int) else -1) = z ∧ (z == (i : Int)) = false := ⟨_, rfl, by
              rw [beq_eq_false_iff_ne]
              split <;> omega⟩
            obtain ⟨z, hz, d1⟩ := d1
            rw [hz] at CC
            clear hK hz
            go_wp2_with fail
            refine (CC.out).mono ?_
            rintro e w3 ⟨rfl, g3⟩
            have OU3 := Lib.hid (ownBelow OU.out g3)
            have TT3 := Lib.hid (TT.out.below g3)
            have BB3 := Lib.hid (bnext BB.out g3)
            clear g3 CC
            go_wp2
            go_roundw
            case rel => exact ⟨k + 1, _, rfl, by omega, by go_num, by rw [GN.out]; exact OU3.out, AP.out, TT3.out, BB3.out⟩
            case measure => simp [intOf]; omega
        · obtain rfl : k = xs.length := by omega
          have ba : Below wr.heap.size wr (wr.alloc (.cells #[.slice Au (grP hs xs i xs.length).length cu] 35)) := (Below.refl _ _).alloc (Nat.le_refl _) _
          have OU3 := Lib.hid (ownBelow OU.out ba)
          have TT3 := Lib.hid (TT.out.below ba)
          have BB3 := Lib.hid (bnext BB.out ba)
          have hv6 : vs.length ≤ 6 := by have := VL.out; omega
          clear ba
          go_wp2_with (at_builtin; refine wpList_append_own_at _ rfl (.tmp 34) (.tmp 36) _ rfl w.heap.size 35 j0 (.slice none 0 0) 1 24 Try.underlying50 hj0 hy0 hy1 hy2 rfl (by decide) _ _ _ rfl TT3.out.1 ⟨wr.heap.size, 0, none⟩ 1 1 [.slice Au (grP hs xs i xs.length).length cu] rfl rfl (cell_one_new _ _ _) (by intro u hu; simp at hu; subst hu; rfl) (by unfold maxLen; omega) (by omega) (by simp; omega) ?_)
          intro o' w4 ho4 hg4 _ hb4
          have TT4 := Lib.hid (show TL w4 w.heap.size o' (vs ++ [.slice Au (grP hs xs i xs.length).length cu]) (fun i => grP hs xs i xs.length) from
            TT3.out.push (by rw [VL.out]; exact OU3.out) AP.out (by simpa using ho4) hg4 (by
              rcases hb4 with h | h
              · exact .inl h
              · exact .inr ⟨_, h, by simp⟩))
          have BB4 := Lib.hid (BB3.out.grown hg4 BB3.out.size (fun q hq => (TT3.out.1.lt q hq).1))
          clear ho4 hg4 hb4
          go_wp2
          go_roundw
          case rel => exact ⟨i + 1, _, _, rfl, by omega, by go_num, by have := VL.out; simp; omega, TT4.out, BB4.out⟩
          case measure => simp [intOf]; omega
    · obtain rfl : i = hs.length := by omega
      go_wp2
      go_ret
      exact ⟨_, vs, rfl, VL.out, TT.out, HBL.out⟩

end Go.Proofs.Ytlphpajpjpohmab
