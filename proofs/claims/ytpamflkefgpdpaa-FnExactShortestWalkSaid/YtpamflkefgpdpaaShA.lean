/- A list's values, collected: contracts. Condition: at most 100 numbers. -/
import Derived.Test.YtpamflkefgpdpaaShV
namespace Go.Proofs.Ytpamflkefgpdpaa
set_option linter.unusedSimpArgs false
set_option linter.unusedVariables false
set_option maxRecDepth 100000
open Go.RowKit Go.Shelf
attribute [local go_sem] Oper.semAt_some

theorem own_kindV {W : World} {base : Nat} {e : TypeId} {v : Value} {n : Nat} {l : List Value} (h : W.ownsRow base e 1 v n l) : ∀ k, v.ownBlock = some k → ∃ cs, W.heap[k]? = some (.cells cs e (0, 0)) := by
  intro k hk
  rcases h.2 with ⟨rfl, _⟩ | ⟨g, cap, cur, rfl, _, hg, _⟩
  · cases hk
  · injection hk with hk
    subst hk
    exact ⟨cur, hg⟩
theorem below_grownV {w w' : World} {row : Option Nat} (h : Below w.heap.size w w') : w.grownBy w' row := ⟨h.os, h.tape, h.output, h.size, fun i hi _ => h.block i hi⟩
def valsQ (hs : List Int) (pre : List (VQ hs)) : List Int := pre.map (fun q => hs[q.1]'q.2)
theorem valsQ_all {hs : List Int} {ys : List (VQ hs)} (h : ys.map Subtype.val = List.range hs.length) : valsQ hs ys = hs := by
  have hl : ys.length = hs.length := by have := congrArg List.length h; simpa using this
  refine List.ext_getElem (by simp [valsQ, hl]) fun i h1 h2 => ?_
  simp only [valsQ, List.getElem_map]
  have : (ys.map Subtype.val)[i]'(by simp; omega) = (List.range hs.length)[i]'(by simp; exact h2) := by simp only [h]
  simp only [List.getElem_map, List.getElem_range] at this
  congr 1
set_option maxHeartbeats 8000000 in
theorem appendSeq_any (Bn : Nat) (A : Option Addr) (c : Nat) (hs : List Int) (w : World) (hc : w.heap[Bn]? = some (.cells #[.slice A hs.length c] 22 (0, 0))) (hi : IntsV w w.heap.size A hs) (hlen : hs.length ≤ 100) :
    Calls Try.prog 108 #[.slice none 0 0, .func (.func 95) #[] #[.pointer (some ⟨Bn, 0, none⟩)]] w fun e w' => ∃ u, e = .returned u ∧ w'.ownsRow w.heap.size 2 1 u hs.length (hs.map (Value.int .i64)) ∧ Below w.heap.size w w' := by
  have hbn : Bn < w.heap.size := (Array.getElem?_eq_some_iff.1 hc).1
  have HI := Lib.hid hi
  have HC := Lib.hid hc
  obtain ⟨i0, hi0, hz0, hz1, hz2⟩ := info_parts infoIntS
  clear hi hc
  refine (callsIn_wide (n := 3)).1 ?_
  refine callsIn_of_wp_marks Try.func108 rfl trivial ?_ rfl
  simp only [Try.ntmps108, List.size_toArray, List.length_cons, List.length_nil, Nat.reduceAdd, Nat.reduceSub, Array.replicate_succ, Array.replicate_zero, List.push_toArray, List.append_toArray, List.nil_append, List.cons_append]
  gi_wp2
  have b0 : (w.alloc (.cells #[.slice none 0 0] 22)).heap[w.heap.size]? = some (.cells #[.slice none 0 0] 22 (0, 0)) := heap_alloc_new w _
  have b2 : Below w.heap.size w (w.alloc (.cells #[.slice none 0 0] 22)) := (Below.refl _ _).alloc (Nat.le_refl _) _
  have b3 : (w.alloc (.cells #[.slice none 0 0] 22)).heap.size = w.heap.size + 1 := by simp
  generalize World.alloc w _ = W0 at b0 b2 b3 ⊢
  have HG := Lib.hid b2
  have HB := Lib.hid b0
  have HZ := Lib.hid b3
  have hws : w.heap.size ≤ W0.heap.size := b2.size
  clear b3
  refine wpIn_rangeFunc_ownH rfl (by omega : 1 ≤ 3) (gf := 95) (lb := #[.pointer (some ⟨Bn, 0, none⟩)]) rfl trivial (enters_of Try.func95 (by kernel_rfl) rfl)
    (vw_stops 2 (by omega) w.heap.size Bn A c hs W0 ((HG.out.block _ hbn).trans HC.out) hbn (HI.out.kp (kpV_below HG.out)) hws hlen) kpV_t (kpV_b hws) (Below.refl _ _) (fun _ => rfl)
    (fun pre W => ∃ vv, W.heap[w.heap.size]? = some (.cells #[vv] 22 (0, 0)) ∧ W.ownsRow W0.heap.size 2 1 vv (valsQ hs pre).length ((valsQ hs pre).map (Value.int .i64)) ∧ Below w.heap.size w W ∧ W0.heap.size ≤ W.heap.size)
    (fun _ _ _ => False)
    ?hI ?hIx ⟨_, b0, ⟨rfl, .inl ⟨rfl, rfl⟩⟩, b2, Nat.le_refl _⟩
    (fun x a' _ => a' = { tmps := #[.slice none 0 0, .func (.func 95) #[] #[.pointer (some ⟨Bn, 0, none⟩)], .pointer (some ⟨w.heap.size, 0, none⟩), undef, .slice none 0 0, .int .i64 (hs[x.1]'x.2), .func (.func 95) #[] #[.pointer (some ⟨Bn, 0, none⟩)], .int .i64 (hs[x.1]'x.2), undef, undef, undef, undef, undef], defers := [] })
    ?hAx ?assign ?body ?done ?stop
  case hI =>
    rintro s X Y row ⟨vv, e1, e2, e5, e6⟩ hg hr
    refine ⟨vv, (hg.block _ (Array.getElem?_eq_some_iff.1 e1).1 (fun e => by have := (hr _ e.symm).1; have := HZ.out; omega)).trans e1, ownOther e2 hg (fun k hk e => ?_), e5.grown hg e5.size (fun k e => by have := (hr k e).1; omega), Nat.le_trans e6 hg.size⟩
    obtain ⟨_, ob, h1, h2⟩ := hr k e.symm
    obtain ⟨cs, h3⟩ := own_kindV e2 k hk
    rw [h3] at h1
    cases h1
    cases h2
  case hIx => rintro c s X Y row h _ _; exact h
  case hAx => rintro x a' _ X Y row h _ _; exact h
  case assign =>
    rintro l pre x W K hI hK
    unfold vwE
    gi_wp2
    exact hK _ _ (KeepsOthers.refl _ |>.from _) (kpV_below (Below.refl _ _)) hI rfl
  case body =>
    rintro l pre x a' W hl _ hI rfl hlt
    obtain ⟨j, hj⟩ := x
    obtain ⟨vv, e1, e2, e5, e6⟩ := hI
    have SQ := Lib.hid (show valsQ hs (pre ++ [(⟨j, hj⟩ : VQ hs)]) = valsQ hs pre ++ [hs[j]] by simp [valsQ])
    have LQ := Lib.hid (show (valsQ hs pre).length ≤ 100 by simp [valsQ]; omega)
    have zp : w.heap.size < W.heap.size := (Array.getElem?_eq_some_iff.1 e1).1
    have d9 : Below W.heap.size W (W.alloc (.cells #[.int .i64 hs[j]] 2)) := (Below.refl _ _).alloc (Nat.le_refl _) _
    have OD := Lib.hid (ownBelow e2 d9)
    have X9 := Lib.hid ((d9.block _ zp).trans e1)
    have c9 : (W.alloc (.cells #[.int .i64 hs[j]] 2)).cell? ⟨w.heap.size, 0, none⟩ = some vv := cell_of_row _ _ 0 _ _ _ X9.out
    have c0 : W.cell? ⟨w.heap.size, 0, none⟩ = some vv := cell_of_row _ _ 0 _ _ _ e1
    have D9 := Lib.hid d9
    have E5 := Lib.hid e5
    have hvl := Lib.hid (fun k hk => (OD.out.lt k hk).1)
    dsimp only
    generalize hs[j] = x at SQ OD X9 c9 D9 ⊢
    generalize valsQ hs pre = xsf at SQ LQ OD ⊢
    have lq := LQ.out
    clear e1 e2 e5 d9
    gi_wp2_with (refine wpListIn_append_own _ rfl (.tmp 8) (.tmp 10) _ rfl W0.heap.size 2 i0 (.int .i64 0) 1 8 Try.underlying22 hi0 hz0 hz1 hz2 rfl (by decide) _ _ _ rfl OD.out ⟨W.heap.size, 0, none⟩ 1 1 [.int .i64 x] rfl rfl (cell_one_new _ _ _) (by intro u hu; simp at hu; subst hu; rfl) (by unfold maxLen; omega) (by omega) (by simp; have := HZ.out; omega) ?_)
    intro v4 w4 ho4 hg4 hn4
    have hneB : some w.heap.size ≠ vv.ownBlock := fun e => by have := hvl.out _ e.symm; have := HZ.out; omega
    have X4 := Lib.hid ((hg4.block _ (by simp; omega) hneB).trans X9.out)
    have hc4 : w4.ownsRow W0.heap.size 2 1 v4 (xsf.length + 1) ((xsf ++ [x]).map (Value.int .i64)) := by
      rw [List.map_append]
      exact ho4
    have hrow : ∀ (j : Nat) (o : Obj), vv.ownBlock = some j → (W.alloc (.cells #[.int .i64 x] 2)).heap[j]? = some o → o.isCells = true := fun j o hj ho => by
      obtain ⟨cs, h9⟩ := own_kindV OD.out j hj
      rw [h9] at ho
      cases ho
      rfl
    have KO4 := Lib.hid ((KeepsOthers.alloc W (.cells #[.int .i64 x] 2)).trans (KeepsOthers.of_grownBy hg4 hrow))
    have B4 := Lib.hid (show Below w.heap.size W w4 from (D9.out.mono (by omega)).grown hg4 (by simp; omega) (fun k hk => by have := hvl.out k hk; have := HZ.out; omega))
    obtain ⟨A4, n4, rfl⟩ := vlen_own1 hc4
    have c4 : w4.cell? ⟨w.heap.size, 0, none⟩ = some vv := cell_of_row _ _ 0 _ _ _ X4.out
    have f4 : w4.frozen? ⟨w.heap.size, 0, none⟩ = false := frozen_of_row w4 _ 0 _ _ X4.out
    have X5 := Lib.hid (show (w4.setCell ⟨w.heap.size, 0, none⟩ (.slice A4 (xsf.length + 1) n4)).heap[w.heap.size]? = some (.cells #[.slice A4 (xsf.length + 1) n4] 22 (0, 0)) from heap_setCell_same _ _ _ _ _ _ X4.out)
    have O5 := Lib.hid (ownsRow_setCell_below hc4 (a := ⟨w.heap.size, 0, none⟩) (by show w.heap.size < W0.heap.size; have := HZ.out; omega) (.slice A4 (xsf.length + 1) n4))
    have B5 := Lib.hid (B4.out.setCell (p := ⟨w.heap.size, 0, none⟩) (Nat.le_refl _) (.slice A4 (xsf.length + 1) n4))
    have KO5 := Lib.hid (KO4.out.trans (KeepsOthers.setCell w4 ⟨w.heap.size, 0, none⟩ (.slice A4 (xsf.length + 1) n4)))
    have z4 : W0.heap.size ≤ (w4.setCell ⟨w.heap.size, 0, none⟩ (.slice A4 (xsf.length + 1) n4)).heap.size := Nat.le_trans e6 B5.out.size
    clear ho4 hg4 hn4 hc4 hrow c9 c0
    gi_wp2
    exact ⟨KO5.out.from _, kpV_below B5.out, _, X5.out, by rw [SQ.out, List.length_append]; exact O5.out, E5.out.trans B5.out, z4⟩
  case done =>
    rintro D ys W hD hys ⟨vv, e1, e2, e5, e6⟩ hK
    have t0 : W.cell? ⟨w.heap.size, 0, none⟩ = some vv := cell_of_row W _ 0 _ _ _ e1
    rw [valsQ_all hys] at e2
    have OZ := Lib.hid e2
    have BZ := Lib.hid e5
    obtain ⟨Av, cv, rfl⟩ := vlen_own1 e2
    clear e1 e2 e5 hys
    gi_wp2
    refine ⟨by simp, .inl ⟨_, _, rfl, run_takeDeferred hK, ?_⟩⟩
    have g6 : Below w.heap.size w (W.putObj D (.deferred none)) := BZ.out.grown (grownBy_putObj' W D (.deferred none)) BZ.out.size (fun k e => by cases e; omega)
    have o6 := ownOther OZ.out (grownBy_putObj' W D (.deferred none)) (fun k hk e => by
      obtain ⟨cs, h3⟩ := own_kindV OZ.out k hk
      injection e with e
      subst e
      rw [h3] at hK
      cases hK)
    generalize W.putObj D (.deferred none) = W6 at g6 o6 ⊢
    refine ⟨.slice Av hs.length cv, ?_, ⟨_, rfl, ownsMono o6 hws, g6⟩⟩
    simp [results, Try.f108, go_sem]
  case stop =>
    rintro D c pre W hD hpre h hK
    exact h.elim

set_option maxHeartbeats 1000000 in
theorem collect_any (Bn : Nat) (A : Option Addr) (c : Nat) (hs : List Int) (w : World) (hc : w.heap[Bn]? = some (.cells #[.slice A hs.length c] 22 (0, 0))) (hi : IntsV w w.heap.size A hs) (hlen : hs.length ≤ 100) :
    Calls Try.prog 93 #[.func (.func 95) #[] #[.pointer (some ⟨Bn, 0, none⟩)]] w fun e w' => ∃ u, e = .returned u ∧ w'.ownsRow w.heap.size 2 1 u hs.length (hs.map (Value.int .i64)) ∧ Below w.heap.size w w' := by
  have AQ := Lib.hid (appendSeq_any Bn A c hs w hc hi hlen)
  clear hc hi
  go_enter Try.func93, Try.ntmps93
  go_wp2_with fail
  refine AQ.out.mono ?_
  rintro e w1 ⟨u, rfl, ho, hb⟩
  have OO := Lib.hid ho
  obtain ⟨Au, cu, rfl⟩ := vlen_own1 ho
  clear ho
  go_wp2
  go_ret
  exact ⟨_, rfl, OO.out, hb⟩
end Go.Proofs.Ytpamflkefgpdpaa
