/- FreeOn, by the model and by the program: contracts. Condition: lists no longer than the law tests. -/
import Derived.Test.YtdkdchhkfachmaaCostOf
import Derived.Deep.RegionHeldLaw
import Derived.Deep.AppendLies
namespace Go.Proofs.Ytdkdchhkfachmaa
set_option linter.unusedSimpArgs false
set_option linter.unusedVariables false
set_option maxRecDepth 100000
open Go.RowKit

theorem info64o : (Try.prog.info? 2).map (fun i => (i.zero, i.size, i.bytes)) = some (some (.int .i64 0), 1, 8) := by kernel_rfl

def frTo (c : Cs) (xs : List Bk) (es : List Int) : Nat → List Int
  | 0 => []
  | k + 1 => frTo c xs es k ++ [freeB c (part xs (fromE es k).toNat (es.getD k 0).toNat)]
theorem frTo_len (c : Cs) (xs : List Bk) (es : List Int) : ∀ k, (frTo c xs es k).length = k
  | 0 => rfl
  | k + 1 => by rw [frTo, List.length_append, frTo_len c xs es k]; rfl
theorem frTo_lt {c : Cs} {xs : List Bk} {es : List Int} {j i k : Nat} (hj : j < es.length) (hi : fromE es j = i) (hk : es[j] = k) : frTo c xs es (j + 1) = frTo c xs es j ++ [freeB c (part xs i k)] := by
  rw [frTo, getD_ints hj, hi, hk]
  simp
def frR (c : Cs) (xs : List Bk) (es : List Int) : List Int := if layCode c xs es = 0 then frTo c xs es es.length else []
theorem frR_len (c : Cs) (xs : List Bk) (es : List Int) : (frR c xs es).length ≤ 12 := by
  unfold frR
  split
  · rename_i h
    rcases code_cases c xs es with h1 | h1 | ⟨_, h1, _, h3⟩
    · omega
    · omega
    · rw [frTo_len, lay_len h3]; exact (caseB_lens h1).2
  · simp

set_option maxHeartbeats 8000000 in
theorem freeOn_any (c : Cs) (hv : Value) (A : Option Addr) (m : Nat) (v : Value) (xs : List Bk) (es : List Int) (wc : c.Wf) (wf : ∀ b ∈ xs, b.Wf) (w : World) (sc : IntsOf .i16 w hv c.hs) (mc : c.hs.length ≤ maxLen) (sl : SliceOf w (.slice A xs.length m) xs) (hm : xs.length ≤ m) (ml : xs.length ≤ maxLen) (se : IntsOf .i64 w v es) (me : es.length ≤ maxLen) :
    Calls Try.prog 40 #[.agg #[.int .i16 c.wi, .int .i32 c.lo, hv], .slice A xs.length m, v] w fun e w' => ∃ u, e = .returned (.tuple #[u, .int .i64 (layCode c xs es)]) ∧ w'.ownsRow w.heap.size 2 1 u (frR c xs es).length ((frR c xs es).map (Value.int .i64)) ∧ Below w.heap.size w w' := by
  have G0 := Lib.hid (show Below w.heap.size w (w.alloc (.cells #[.int .i16 c.wi, .int .i32 c.lo, hv] 28)) by go_grown)
  have HC := Lib.hid (sc.below G0.out)
  have SL := Lib.hid (sl.below G0.out)
  have SE := Lib.hid (se.below G0.out)
  have WC := Lib.hid wc
  have WF := Lib.hid wf
  have MC := Lib.hid mc
  have ME := Lib.hid me
  have OM := Lib.hid (fun X i d f W (hd : d ≤ 60) f1 f2 => of_any 0 (by omega) X i d f W hd f1 f2)
  obtain ⟨i0, hi0, hz0, hz1, hz2⟩ := info_parts info64o
  obtain ⟨H, qh, rfl, -⟩ := sc
  obtain ⟨Ev, qe, rfl, -⟩ := se
  clear sl wc wf mc me
  by_cases hl : layCode c xs es = 0
  · have LNH := Lib.hid (show layN c xs es = c.hs.length by unfold layN; rw [if_pos hl])
    have HL : askB c xs = true ∧ layB c xs es = true := by unfold layCode at hl; cases h1 : askB c xs <;> cases h2 : layB c xs es <;> simp [h1, h2] at hl ⊢
    obtain ⟨a1, a2⟩ := askB_both HL.1
    obtain ⟨cl1, cl2⟩ := caseB_lens a1
    have h60 := okB_len a2
    have LB := Lib.hid HL.2
    have LE' := Lib.hid (lay_len HL.2)
    have EV := Lib.hid (show frR c xs es = frTo c xs es c.hs.length by unfold frR; rw [if_pos hl, lay_len HL.2])
    have hl' := Lib.hid hl
    clear hl HL a1 a2
    go_enter Try.func40, Try.ntmps40
    go_wp2_with fail
    generalize World.alloc _ _ = W0 at G0 HC SL SE ⊢
    refine (layoutOf_any c _ A m _ xs es WF.out _ HC.out MC.out SL.out hm ml SE.out ME.out).mono ?_
    rintro e w1 ⟨u, rfl, ho, g1⟩
    rw [hl'.out]
    rw [LNH.out] at ho
    obtain ⟨g, cap, rfl⟩ : ∃ g cap, u = .slice (some ⟨g, 0, none⟩) c.hs.length cap := by
      rcases ho.2 with ⟨_, h⟩ | ⟨g, cap, cur, h, _⟩
      · omega
      · exact ⟨g, cap, h⟩
    have HO := Lib.hid ho
    have hgb : g < w1.heap.size := (ho.lt g rfl).2
    clear ho
    go_wp2
    go_loopw [10, 22] (fun v_ s wr => ∃ j : Nat, j ≤ c.hs.length ∧ s = .int .i64 (j : Int) ∧ wr.ownsRow w1.heap.size 2 1 v_ (frTo c xs es j).length ((frTo c xs es j).map (Value.int .i64)) ∧ Below w1.heap.size w1 wr) (fun _ s _ => c.hs.length - (intOf s).toNat)
    case atStart => exact ⟨0, Nat.zero_le _, rfl, ⟨rfl, .inl ⟨rfl, rfl⟩⟩, Below.refl _ _⟩
    case round =>
      obtain ⟨j, hj, rfl, hown, hb⟩ := hrel
      have OW := Lib.hid hown
      clear hown
      have hfl := frTo_len c xs es j
      have HFL := Lib.hid hfl
      clear hfl
      by_cases hlt : j < c.hs.length
      · have hlt' : j < es.length := by rw [LE'.out]; exact hlt
        obtain ⟨-, i, k, hi, hk, hik, hkn, hfit⟩ := lay_at LB.out hlt'
        have pl : (part xs i k).length = k - i := part_length hkn
        have fb := freeS_bd c j (part xs i k) WC.out (part_wf i k WF.out) (by rw [pl]; omega)
        have fe : freeS c j (part xs i k) = freeB c (part xs i k) := by unfold freeS; rw [hfit]; rfl
        rw [fe] at fb
        obtain ⟨fb1, fb2⟩ := fb
        have FT := Lib.hid (frTo_lt (c := c) (xs := xs) hlt' hi hk)
        have ho := ownBelow HO.out hb
        have e0 := (ho.cellAt (j * 3 + 0) (by omega)).trans (rowsCs_at c A xs es j 0 (by omega) _ hlt)
        have e1 := (ho.cellAt (j * 3 + 1) (by omega)).trans (rowsCs_at c A xs es j 1 (by omega) _ hlt)
        have e2 := (ho.cellAt (j * 3 + 2) (by omega)).trans (rowsCs_at c A xs es j 2 (by omega) _ hlt)
        rw [getD_ints hlt', hi, hk] at e0 e1 e2
        simp only [rowCs, Int.toNat_natCast, List.getElem?_cons_zero, List.getElem?_cons_succ, Nat.add_zero] at e0 e1 e2
        have kd : k - i ≤ 60 := by omega
        clear ho hi hk fe pl hfit
        generalize freeB c (part xs i k) = fr at *
        go_wp2_with fail
        refine (OM.out _ _ (k - i) fr _ kd (by omega) fb2).mono ?_
        rintro e w2 ⟨rfl, g2⟩
        have hme : measV 0 (k - i) fr = fr := rfl
        rw [hme]
        have g3 := bnew _ g2
        have OW3 := Lib.hid (ownBelow OW.out g3)
        have B3 := Lib.hid (bnext hb g3)
        have hsz := B3.out.size
        clear e0 e1 e2 g2 g3 hme
        go_wp2_with (at_builtin; refine wpList_append_own _ rfl (.tmp 26) (.tmp 29) _ rfl w1.heap.size 2 i0 (.int .i64 0) 1 8 Try.underlying41 hi0 hz0 hz1 hz2 rfl (by decide) _ _ _ rfl (OW3.out.alloc _) ⟨w2.heap.size, 0, none⟩ 1 1 [.int .i64 fr] rfl rfl ?c1 ?c2 ?c3 ?c4 ?c5 ?_)
        case c1 => exact cell_one_new _ _ _
        case c2 => (intro u hu; simp at hu; subst hu; rfl)
        case c3 => (have := HFL.out; unfold maxLen; omega)
        case c4 => (have := HFL.out; omega)
        case c5 => (simp; omega)
        intro v' w4 hown' hgrow' _
        have OW' := Lib.hid hown'
        have g4 : Below w1.heap.size w1 w4 := (B3.out.alloc hsz _).grown hgrow' (by simp; omega) (fun k hk => (OW3.out.lt k hk).1)
        clear hown' hgrow'
        go_wp2
        go_roundw
        case rel => exact ⟨j + 1, by omega, by go_num, by rw [FT.out]; simpa using OW'.out, g4⟩
        case measure => simp [intOf]; omega
      · obtain rfl : j = c.hs.length := by omega
        go_wp2
        go_ret2
        exact ⟨_, by rw [hl'.out]; rfl, by rw [EV.out]; exact ownMono OW.out (by have := G0.out.size; have := g1.size; omega), bnext (bnext G0.out g1) hb⟩
  · have LN := Lib.hid (show layN c xs es = 0 by unfold layN; rw [if_neg hl])
    have EV := Lib.hid (show frR c xs es = [] by unfold frR; rw [if_neg hl])
    clear hl
    go_enter Try.func40, Try.ntmps40
    go_wp2_with fail
    generalize World.alloc _ _ = W0 at G0 HC SL SE ⊢
    refine (layoutOf_any c _ A m _ xs es WF.out _ HC.out MC.out SL.out hm ml SE.out ME.out).mono ?_
    rintro e w1 ⟨u, rfl, ho, g1⟩
    rw [LN.out] at ho
    obtain ⟨X, cap, rfl⟩ : ∃ X cap, u = .slice X 0 cap := by
      rcases ho.2 with ⟨h, _⟩ | ⟨g, cap, cur, h, _⟩
      · exact ⟨_, _, h⟩
      · exact ⟨_, _, h⟩
    clear ho
    go_wp2
    refine wp_loop_rounds 1 ?_
    rw [rounds_succ]
    go_wp2
    go_ret2
    exact ⟨_, rfl, by rw [EV.out]; exact ⟨rfl, .inl ⟨rfl, rfl⟩⟩, bnext G0.out g1⟩

end Go.Proofs.Ytdkdchhkfachmaa
