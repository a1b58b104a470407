/- FreeOn, by the model: a contract. Condition: lists no longer than the law tests. -/
import Derived.Test.YtdkdchhkfachmaaFreeOn
namespace Go.Proofs.Ytdkdchhkfachmaa
set_option linter.unusedSimpArgs false
set_option linter.unusedVariables false
set_option maxRecDepth 100000
open Go.RowKit

set_option maxHeartbeats 8000000 in
theorem specFreeOn_any (c : Cs) (hv : Value) (A : Option Addr) (m : Nat) (v : Value) (xs : List Bk) (es : List Int) (wc : c.Wf) (wf : ∀ b ∈ xs, b.Wf) (w : World) (sc : IntsOf .i16 w hv c.hs) (mc : c.hs.length ≤ maxLen) (sl : SliceOf w (.slice A xs.length m) xs) (hm : xs.length ≤ m) (ml : xs.length ≤ maxLen) (se : IntsOf .i64 w v es) (me : es.length ≤ maxLen) :
    Calls Try.prog 39 #[.agg #[.int .i16 c.wi, .int .i32 c.lo, hv], .slice A xs.length m, v] w fun e w' => ∃ u, e = .returned (.tuple #[u, .int .i64 (layCode c xs es)]) ∧ w'.ownsRow w.heap.size 2 1 u (frR c xs es).length ((frR c xs es).map (Value.int .i64)) ∧ Below w.heap.size w w' := by
  have G0 := Lib.hid (show Below w.heap.size w (w.alloc (.cells #[.int .i16 c.wi, .int .i32 c.lo, hv] 28)) by go_grown)
  have HB := Lib.hid (CaseAt.new (t := 28) sc)
  have SL := Lib.hid (sl.below G0.out)
  have SE := Lib.hid (se.below G0.out)
  have WC := Lib.hid wc
  have WF := Lib.hid wf
  have MC := Lib.hid mc
  have ME := Lib.hid me
  obtain ⟨i0, hi0, hz0, hz1, hz2⟩ := info_parts info64o
  obtain ⟨H, qh, rfl, -⟩ := sc
  obtain ⟨Ev, qe, rfl, -⟩ := se
  clear sl wc wf mc me
  rcases code_cases c xs es with h | h | ⟨h, a1, a2, hl⟩
  · have EQ := Lib.hid h
    have E := Lib.hid (show frR c xs es = [] by unfold frR; rw [h]; rfl)
    clear h
    go_enter Try.func39, Try.ntmps39
    go_wp2_with fail
    generalize World.alloc _ _ = W0 at G0 HB SL SE ⊢
    refine (l02Laid_any c _ A m _ xs es WC.out WF.out _ _ HB.out MC.out SL.out hm ml SE.out ME.out).mono ?_
    rintro e w1 ⟨rfl, g1⟩
    rw [EQ.out]
    go_wp2
    go_ret2
    exact ⟨_, by rw [EQ.out]; rfl, by rw [E.out]; exact ⟨rfl, .inr ⟨w1.heap.size, 0, #[], rfl, by have := G0.out.size; have := g1.size; omega, heap_alloc_new w1 _, Nat.le_refl _, Nat.zero_le _, rfl, rfl⟩⟩, bnext G0.out (g1.alloc g1.size _)⟩
  · have EQ := Lib.hid h
    have E := Lib.hid (show frR c xs es = [] by unfold frR; rw [h]; rfl)
    clear h
    go_enter Try.func39, Try.ntmps39
    go_wp2_with fail
    generalize World.alloc _ _ = W0 at G0 HB SL SE ⊢
    refine (l02Laid_any c _ A m _ xs es WC.out WF.out _ _ HB.out MC.out SL.out hm ml SE.out ME.out).mono ?_
    rintro e w1 ⟨rfl, g1⟩
    rw [EQ.out]
    go_wp2
    go_ret2
    exact ⟨_, by rw [EQ.out]; rfl, by rw [E.out]; exact ⟨rfl, .inr ⟨w1.heap.size, 0, #[], rfl, by have := G0.out.size; have := g1.size; omega, heap_alloc_new w1 _, Nat.le_refl _, Nat.zero_le _, rfl, rfl⟩⟩, bnext G0.out (g1.alloc g1.size _)⟩
  · have EQ := Lib.hid h
    have E := Lib.hid (show frR c xs es = frTo c xs es es.length by unfold frR; rw [h]; rfl)
    obtain ⟨cl1, cl2⟩ := caseB_lens a1
    have h60 := okB_len a2
    have LB := Lib.hid hl
    have LE := Lib.hid (lay_len hl)
    have hle0 : 0 < es.length := by have := LE.out; omega
    have hle : es.length ≤ 12 := by have := LE.out; omega
    clear h a1 a2 hl
    go_enter Try.func39, Try.ntmps39
    go_wp2_with fail
    generalize World.alloc _ _ = W0 at G0 HB SL SE ⊢
    refine (l02Laid_any c _ A m _ xs es WC.out WF.out _ _ HB.out MC.out SL.out hm ml SE.out ME.out).mono ?_
    rintro e w1 ⟨rfl, g1⟩
    rw [EQ.out]
    have OW0 := Lib.hid (show (w1.alloc (.cells #[] 2)).ownsRow W0.heap.size 2 1 (.slice (some ⟨w1.heap.size, 0, none⟩) 0 0) (frTo c xs es 0).length ((frTo c xs es 0).map (Value.int .i64)) from ⟨rfl, .inr ⟨w1.heap.size, 0, #[], rfl, g1.size, heap_alloc_new w1 _, Nat.le_refl _, Nat.zero_le _, rfl, rfl⟩⟩)
    have GA := Lib.hid (g1.alloc g1.size (.cells #[] 2))
    obtain ⟨E', q', e', se⟩ := SE.out
    obtain ⟨rfl, -, rfl⟩ : Ev = E' ∧ es.length = es.length ∧ qe = q' := by injection e' with a b d; exact ⟨a, b, d⟩
    have SEH := Lib.hid se
    clear se e'
    go_wp2
    go_loopw [9, 10] (fun v_ s wr => ∃ (j : Nat) (vv : Value), v_ = vv ∧ j ≤ es.length ∧ s = .int .i64 (j : Int) ∧ wr.ownsRow W0.heap.size 2 1 vv (frTo c xs es j).length ((frTo c xs es j).map (Value.int .i64)) ∧ Below W0.heap.size W0 wr) (fun _ s _ => es.length - (intOf s).toNat)
    case atStart => exact ⟨0, _, rfl, Nat.zero_le _, rfl, OW0.out, GA.out⟩
    case round =>
      obtain ⟨j, vv, rfl, hj, rfl, hown, hb⟩ := hrel
      have OW := Lib.hid hown
      clear hown
      have HFL := Lib.hid (frTo_len c xs es j)
      by_cases hlt : j < es.length
      · obtain ⟨hjc, i, k, hi, hk, hik, hkn, hfit⟩ := lay_at LB.out hlt
        have fe : freeS c j (part xs i k) = freeB c (part xs i k) := by unfold freeS; rw [hfit]; rfl
        have FT := Lib.hid (frTo_lt (c := c) (xs := xs) hlt hi hk)
        obtain ⟨ge, oe, rfl, hge, hat⟩ := SEH.out (by omega)
        have p0 := hat.below hb hge j hlt
        rw [hk] at p0
        have hsl := run_part2 A xs.length m i k hik (by omega)
        have ze := Nat.lt_of_lt_of_le hge hb.size
        have CF := Lib.hid (fun W (hB : Below W0.heap.size W0 W) => hi ▸ l02From_any _ es j W (SE.out.below hB) hj (by omega))
        have CP := Lib.hid (fun W (hB : Below W0.heap.size W0 W) => fe ▸ l02Free_any c _ _ (part xs i k) j WC.out (part_wf i k WF.out) _ W (HB.out.below hB) MC.out hjc ((SL.out.below hB).part hik hkn (show k ≤ m by omega)) (by rw [part_length hkn]; omega))
        have b0 : Below wr.heap.size wr wr.drew := (Below.refl _ _).drew
        have hbd := hb.drew
        have pw := hat j hlt
        rw [hk] at pw
        have HK := Lib.hid (show ∀ W1, Below W0.heap.size W0 W1 → (fun W1 => Below W0.heap.size W0 W1 ∧ W1.cell? ⟨ge, oe + j, none⟩ = some (.int .i64 (k : Int))) W1 from
          fun W1 hB => ⟨hB, (hB.cell (p := ⟨ge, oe + j, none⟩) hge).trans pw⟩)
        clear pw
        have HP0 := Lib.hid p0
        clear hi hk hfit fe hat p0
        generalize freeB c (part xs i k) = fr at *
        go_wp2
        go_region_held_law (fun W1 => Below W0.heap.size W0 W1 ∧ W1.cell? ⟨ge, oe + j, none⟩ = some (.int .i64 (k : Int))) (first | exact HK.out _ g4.out | (exact HK.out _ ((bnext hb H9.out).alloc (bnext hb H9.out).size _)) | exact HK.out _ (bnext hb H9.out) | exact HK.out _ hbd)
          (first
            | (go_at_call 75; refine (CF.out _ (And.left (by assumption))).mono ?_; rintro e w' ⟨rfl, rfl⟩)
            | (go_at_call 62; refine (CP.out _ (And.left (by assumption))).mono ?_; rintro e w9 ⟨rfl, hq⟩; have H9 := Lib.hid (bnext b0 hq))
            | (refine step_append_lies _ (by rfl) (.tmp 25) (.tmp 37) _ (by rfl) W0.heap.size 2 i0 (.int .i64 0) 1 8 Try.underlying41 hi0 hz0 hz1 hz2 rfl (by decide) u9 _ _ (by rfl) ((ownBelow OW.out H9.out).alloc _) ⟨w9.heap.size, 0, none⟩ 1 1 [.int .i64 fr] (by rfl) rfl (cell_one_new _ _ _) (by intro u hu; simp at hu; subst hu; rfl) (by decide) (by have := HFL.out; unfold maxLen; omega) (by have := HFL.out; omega) (by have := (bnext hb H9.out).size; simp; omega) _ rfl ?_; intro g cap w2 hown' hgrow' hat' hlt'; have OW' := Lib.hid hown'; have g4 := Lib.hid (((bnext hb H9.out).alloc (bnext hb H9.out).size _).grown hgrow' (by have := (bnext hb H9.out).size; simp; omega) (fun k hk => (OW.out.lt k hk).1)); clear hown'))
        all_goals
          rename_i hheld
          clear hheld hgrow' hat' hlt' HK CF CP
          go_wp2
          go_roundw
          case rel => exact ⟨j + 1, _, rfl, by omega, by go_num, by rw [FT.out]; simpa using OW'.out, g4.out⟩
          case measure => simp [intOf]; omega
      · obtain rfl : j = es.length := by omega
        go_wp2
        go_ret2
        exact ⟨_, by rw [EQ.out]; rfl, by rw [E.out]; exact ownMono OW.out (by have := G0.out.size; omega), bnext G0.out hb⟩

end Go.Proofs.Ytdkdchhkfachmaa
