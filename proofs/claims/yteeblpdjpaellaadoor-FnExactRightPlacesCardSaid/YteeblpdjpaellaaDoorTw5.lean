/- Books taken in turn, by the program: a contract. Condition: at most 60 books in each list, whose numbers lie within their kinds. -/
import Derived.Test.YteeblpdjpaellaaDoorTw4
import Derived.Test.YteeblpdjpaellaaDoorTit6
import Derived.Deep.RegionHeld3
namespace Go.Proofs.YteeblpdjpaellaaDoor
set_option linter.unusedSimpArgs false
set_option linter.unusedVariables false
set_option maxRecDepth 100000
open Go.RowKit Go.MapKept

/-- What holds of the map at every world of a step: all lists but that of k. -/
def GrH (w : World) (b base n : Nat) (g : Bk → Value) (f : Bk → List Int) (k : Bk) : Prop :=
  MpF w b n g ∧ b < base ∧ base ≤ w.heap.size ∧ (∀ x : Bk, x.Wf → k ≠ x → w.ownsRow base 2 1 (g x) (f x).length (IL (f x))) ∧ (∀ x y : Bk, x.Wf → y.Wf → k ≠ x → k ≠ y → x ≠ y → ∀ j, (g x).ownBlock = some j → (g y).ownBlock ≠ some j)
theorem GrI.hole {w : World} {b base n : Nat} {g : Bk → Value} {f : Bk → List Int} (h : GrI w b base n g f) (k : Bk) : GrH w b base n g f k :=
  ⟨h.1, h.2.1, h.2.2.1, fun x wx _ => h.2.2.2.1 x wx, fun x y wx wy _ _ hne => h.2.2.2.2 x y wx wy hne⟩
theorem GrH.below {w w' : World} {b base n : Nat} {g : Bk → Value} {f : Bk → List Int} {k : Bk} (h : GrH w b base n g f k) (hb : Below w.heap.size w w') : GrH w' b base n g f k := by
  obtain ⟨h1, h2, h3, h4, h5⟩ := h
  exact ⟨h1.below hb, h2, Nat.le_trans h3 hb.size, fun x wx hx => ownBelow (h4 x wx hx) hb, h5⟩
def NewAt (w : World) (blk : Nat) (x : Value) : Prop := (∀ j u, [x][j]? = some u → w.cell? ((⟨blk, 0, none⟩ : Addr).add j) = some u) ∧ blk < w.heap.size
theorem kept_more {w w' : World} {blk : Nat} {x : Value} (h : NewAt w blk x) (hq : Below w.heap.size w w') : NewAt w' blk x :=
  ⟨fun j u hu => by
    have h1 := h.1 j u hu
    rw [Addr.add_lit] at h1 ⊢
    exact (hq.cell (p := ⟨blk, 0 + j, none⟩) h.2).trans h1, Nat.lt_of_lt_of_le h.2 hq.size⟩
theorem new_kept {X w' : World} {x : Value} {t : TypeId} (hq : Below (X.alloc (.cells #[x] t)).heap.size (X.alloc (.cells #[x] t)) w') : NewAt w' X.heap.size x :=
  kept_more ⟨cell_one_new X x t, by simp⟩ hq
def PL (xs : List Bk) (k : Bk) (i : Nat) : List Int := (plc whl xs k i).map (fun (n : Nat) => (n : Int))
theorem PL_len (xs : List Bk) (k : Bk) (i : Nat) : (PL xs k i).length ≤ i := by unfold PL; rw [List.length_map]; exact plc_len _ _ _ _
theorem PL_step {xs : List Bk} {i : Nat} : updF (fun k => PL xs k i) (whl (xs.getD i default)) (PL xs (whl (xs.getD i default)) i ++ [(i : Int)]) = fun k => PL xs k (i + 1) := by
  funext y
  unfold updF PL
  rw [plc_succ]
  by_cases e : whl (xs.getD i default) = y
  · rw [if_pos e, if_pos e, ← e, List.map_append]; rfl
  · rw [if_neg e, if_neg e]
theorem own_low {w : World} {b b' n : Nat} {v : Value} {xs : List Value} (h : w.ownsRow b' 2 1 v n xs) (hb : b ≤ b') : w.ownsRow b 2 1 v n xs := by
  refine ⟨h.1, ?_⟩
  rcases h.2 with hn | ⟨g, cap, cur, hv, hbg, rest⟩
  · exact .inl hn
  · exact .inr ⟨g, cap, cur, hv, Nat.le_trans hb hbg, rest⟩
set_option maxHeartbeats 8000000 in
theorem takeInTurn_any (v0 v1 : Value) (xs ws : List Bk) (wf : ∀ b ∈ xs, b.Wf) (wfw : ∀ b ∈ ws, b.Wf) (w : World) (hs : SliceOf w v0 xs) (hs1 : SliceOf w v1 ws) (hx : xs.length ≤ 60) (hw : ws.length ≤ 60) :
    Calls Tryd.prog 29 #[v0, v1, .func (.func 30) #[] #[]] w fun e w' => ∃ u t, e = .returned (.tuple #[u, .bool t]) ∧ ((TkOk whl xs ws ws.length ∧ t = true ∧ w'.ownsRow w.heap.size 2 1 u (tkW xs ws ws.length).length ((tkW xs ws ws.length).map (Value.int .i64))) ∨ (¬ TkOk whl xs ws ws.length ∧ t = false)) ∧ Below w.heap.size w w' := by
  have hmm := @run_makeMap Tryd.prog
  have WF := Lib.hid wf
  have WW := Lib.hid wfw
  obtain ⟨i0, hi0, hz0, hz1, hz2⟩ := info_parts infoInt64
  obtain ⟨A, c, rfl, hat⟩ := hs
  have HS := Lib.hid hat
  obtain ⟨A1, c1, rfl, hat1⟩ := hs1
  have HW := Lib.hid hat1
  have M0 := Lib.hid (show GrI (w.alloc (.map #[] 0)) w.heap.size (w.heap.size + 1) 0 (fun _ => .slice none 0 0) (fun k => PL xs k 0) from by have := GrI.made w; rwa [show (w.alloc (.map #[] 0)).heap.size = w.heap.size + 1 by simp] at this)
  have B0 := Lib.hid (show Below w.heap.size w (w.alloc (.map #[] 0)) from (Below.refl _ _).alloc (Nat.le_refl _) _)
  clear hat hat1 wf wfw
  go_enter Tryd.func29, Tryd.ntmps29
  go_wp2
  go_loopw [18] (fun i_ wr => ∃ (i : Nat) (g : Bk → Value), i ≤ xs.length ∧ i_ = .int .i64 (i : Int) ∧ GrI wr w.heap.size (w.heap.size + 1) i g (fun k => PL xs k i) ∧ Below w.heap.size w wr) (fun i_ _ => xs.length - (intOf i_).toNat)
  case atStart => exact ⟨0, _, Nat.zero_le _, rfl, M0.out, B0.out⟩
  case round =>
    clear M0 B0 hmm
    obtain ⟨i, g, hi, rfl, hgr, hb⟩ := hrel
    have HG := Lib.hid hgr
    have HB := Lib.hid hb
    clear hgr hb
    by_cases hlt : i < xs.length
    · obtain ⟨ga, oa, rfl, hga, hat⟩ := HS.out (by omega)
      obtain ⟨p0, p1, p2, p3, p4, p5, p6, p7⟩ := booksAt_some (hat.below HB.out hga) hlt
      have WK := Lib.hid (whl_wf (WF.out _ (List.getElem_mem hlt)))
      have PS := Lib.hid (PL_step (xs := xs) (i := i))
      rw [getD_nth hlt] at PS
      have PLn := PL_len xs (whl xs[i]) i
      clear hat
      generalize xs[i] = xi at *
      have GX := Lib.hid (show Below wr.heap.size wr (wr.alloc (.cells #[.int .i16 xi.c, .int .u8 xi.m0, .int .u8 xi.m1, .int .u8 xi.m2, .int .i16 xi.v, .int .i16 xi.wi, .int .i16 xi.hi, .int .i16 xi.we] 53)) from (Below.refl _ _).alloc (Nat.le_refl _) _)
      have BX := Lib.hid (heap_alloc_new wr (.cells #[.int .i16 xi.c, .int .u8 xi.m0, .int .u8 xi.m1, .int .u8 xi.m2, .int .i16 xi.v, .int .i16 xi.wi, .int .i16 xi.hi, .int .i16 xi.we] 53))
      have LT := Lib.hid (fun W => whole_any xi W)
      generalize hk : whl xi = k at *
      clear hk
      go_upto_region 5 with (fail)
      generalize World.alloc wr _ = W1 at GX BX ⊢
      clear p0 p1 p2 p3 p4 p5 p6 p7
      have hxl : wr.heap.size < W1.heap.size := (Array.getElem?_eq_some_iff.1 BX.out).1
      have G1 := Lib.hid (HG.out.below GX.out)
      have B1 := Lib.hid (bnext HB.out GX.out)
      generalize hkk : bkV k = kv at LT
      have MK := Lib.hid (show ∀ X : World, Below w.heap.size w X → X.heap[wr.heap.size]? = some (.cells #[.int .i16 xi.c, .int .u8 xi.m0, .int .u8 xi.m1, .int .u8 xi.m2, .int .i16 xi.v, .int .i16 xi.wi, .int .i16 xi.hi, .int .i16 xi.we] 53 (0, 0)) → (fun (X : World) => Below w.heap.size w X ∧ X.heap[wr.heap.size]? = some (.cells #[.int .i16 xi.c, .int .u8 xi.m0, .int .u8 xi.m1, .int .u8 xi.m2, .int .i16 xi.v, .int .i16 xi.wi, .int .i16 xi.hi, .int .i16 xi.we] 53 (0, 0)) ∧ X.cell? ⟨wr.heap.size, 0, none⟩ = some (.int .i16 xi.c) ∧ X.cell? ⟨wr.heap.size, 1, none⟩ = some (.int .u8 xi.m0) ∧ X.cell? ⟨wr.heap.size, 2, none⟩ = some (.int .u8 xi.m1) ∧ X.cell? ⟨wr.heap.size, 3, none⟩ = some (.int .u8 xi.m2) ∧ X.cell? ⟨wr.heap.size, 4, none⟩ = some (.int .i16 xi.v) ∧ X.cell? ⟨wr.heap.size, 5, none⟩ = some (.int .i16 xi.wi) ∧ X.cell? ⟨wr.heap.size, 6, none⟩ = some (.int .i16 xi.hi) ∧ X.cell? ⟨wr.heap.size, 7, none⟩ = some (.int .i16 xi.we)) X from fun X h2 h3 =>
        ⟨h2, h3, cell_of_row X _ 0 _ _ _ h3, cell_of_row X _ 1 _ _ _ h3, cell_of_row X _ 2 _ _ _ h3, cell_of_row X _ 3 _ _ _ h3, cell_of_row X _ 4 _ _ _ h3, cell_of_row X _ 5 _ _ _ h3, cell_of_row X _ 6 _ _ _ h3, cell_of_row X _ 7 _ _ _ h3⟩)
      have SK := Lib.hid (show ∀ X Y : World, Below X.heap.size X Y → (fun (X : World) => Below w.heap.size w X ∧ X.heap[wr.heap.size]? = some (.cells #[.int .i16 xi.c, .int .u8 xi.m0, .int .u8 xi.m1, .int .u8 xi.m2, .int .i16 xi.v, .int .i16 xi.wi, .int .i16 xi.hi, .int .i16 xi.we] 53 (0, 0)) ∧ X.cell? ⟨wr.heap.size, 0, none⟩ = some (.int .i16 xi.c) ∧ X.cell? ⟨wr.heap.size, 1, none⟩ = some (.int .u8 xi.m0) ∧ X.cell? ⟨wr.heap.size, 2, none⟩ = some (.int .u8 xi.m1) ∧ X.cell? ⟨wr.heap.size, 3, none⟩ = some (.int .u8 xi.m2) ∧ X.cell? ⟨wr.heap.size, 4, none⟩ = some (.int .i16 xi.v) ∧ X.cell? ⟨wr.heap.size, 5, none⟩ = some (.int .i16 xi.wi) ∧ X.cell? ⟨wr.heap.size, 6, none⟩ = some (.int .i16 xi.hi) ∧ X.cell? ⟨wr.heap.size, 7, none⟩ = some (.int .i16 xi.we)) X → (fun (X : World) => Below w.heap.size w X ∧ X.heap[wr.heap.size]? = some (.cells #[.int .i16 xi.c, .int .u8 xi.m0, .int .u8 xi.m1, .int .u8 xi.m2, .int .i16 xi.v, .int .i16 xi.wi, .int .i16 xi.hi, .int .i16 xi.we] 53 (0, 0)) ∧ X.cell? ⟨wr.heap.size, 0, none⟩ = some (.int .i16 xi.c) ∧ X.cell? ⟨wr.heap.size, 1, none⟩ = some (.int .u8 xi.m0) ∧ X.cell? ⟨wr.heap.size, 2, none⟩ = some (.int .u8 xi.m1) ∧ X.cell? ⟨wr.heap.size, 3, none⟩ = some (.int .u8 xi.m2) ∧ X.cell? ⟨wr.heap.size, 4, none⟩ = some (.int .i16 xi.v) ∧ X.cell? ⟨wr.heap.size, 5, none⟩ = some (.int .i16 xi.wi) ∧ X.cell? ⟨wr.heap.size, 6, none⟩ = some (.int .i16 xi.hi) ∧ X.cell? ⟨wr.heap.size, 7, none⟩ = some (.int .i16 xi.we)) Y from fun X Y hb h => MK.out Y (bnext h.1 hb) ((hb.block _ (Array.getElem?_eq_some_iff.1 h.2.1).1).trans h.2.1))
      have P1 := Lib.hid (show Below W1.heap.size W1 W1.drew from (Below.refl _ _).drew)
      have SD := Lib.hid (MK.out W1.drew (bnext B1.out P1.out) BX.out)
      have BG := Lib.hid (fun j (hj : (g k).ownBlock = some j) => own_lt (HG.out.2.2.2.1 k WK.out) hj)
      have HLK := Lib.hid (show ∀ X, GrI X w.heap.size (w.heap.size + 1) i g (fun k => PL xs k i) → (Instr.lookup 91 (.map (some w.heap.size)) kv false).run Tryd.prog X = .ok (g k) X from fun X h => by rw [← hkk]; exact h.1.look k WK.out)
      have OWF := Lib.hid (show ∀ X : World, Below W1.heap.size W1 X → X.ownsRow (w.heap.size + 1) 2 1 (g k) (PL xs k i).length (IL (PL xs k i)) ∧ w.heap.size + 1 ≤ X.heap.size from fun X h => ⟨(G1.out.below h).2.2.2.1 k WK.out, (G1.out.below h).2.2.1⟩)
      have hlk := HLK.out _ (G1.out.below P1.out)
      have hlkA := fun o => HLK.out _ (G1.out.below (P1.out.alloc P1.out.size o))
      have hwl : w.heap.size < wr.heap.size := HG.out.1.lt
      have HFX := Lib.hid (show ∀ X : World, Below W1.heap.size W1 X → X.heap[wr.heap.size]? = some (.cells #[.int .i16 xi.c, .int .u8 xi.m0, .int .u8 xi.m1, .int .u8 xi.m2, .int .i16 xi.v, .int .i16 xi.wi, .int .i16 xi.hi, .int .i16 xi.we] 53 (0, 0)) ∧ wr.heap.size < X.heap.size from fun X h => ⟨(h.block _ hxl).trans BX.out, Nat.lt_of_lt_of_le hxl h.size⟩)
      go_region_held3 (fun (X : World) => Below w.heap.size w X ∧ X.heap[wr.heap.size]? = some (.cells #[.int .i16 xi.c, .int .u8 xi.m0, .int .u8 xi.m1, .int .u8 xi.m2, .int .i16 xi.v, .int .i16 xi.wi, .int .i16 xi.hi, .int .i16 xi.we] 53 (0, 0)) ∧ X.cell? ⟨wr.heap.size, 0, none⟩ = some (.int .i16 xi.c) ∧ X.cell? ⟨wr.heap.size, 1, none⟩ = some (.int .u8 xi.m0) ∧ X.cell? ⟨wr.heap.size, 2, none⟩ = some (.int .u8 xi.m1) ∧ X.cell? ⟨wr.heap.size, 3, none⟩ = some (.int .u8 xi.m2) ∧ X.cell? ⟨wr.heap.size, 4, none⟩ = some (.int .i16 xi.v) ∧ X.cell? ⟨wr.heap.size, 5, none⟩ = some (.int .i16 xi.wi) ∧ X.cell? ⟨wr.heap.size, 6, none⟩ = some (.int .i16 xi.hi) ∧ X.cell? ⟨wr.heap.size, 7, none⟩ = some (.int .i16 xi.we)) (first | assumption | exact SD.out | exact SZ9.out | exact SAp.out | (with_reducible exact SK.out _ _ hq (by assumption)) | exact SK.out _ _ ((Below.refl _ _).alloc (Nat.le_refl _) _) (by assumption)) (first
        | (go_at_call 30; refine (LT.out _).mono ?_; rintro e w' ⟨rfl, hq⟩
           first
           | (have CA2 := Lib.hid (CA.out.below hq); have BB2 := Lib.hid (bnext BB.out hq); have HF2 := Lib.hid ((hq.block _ HFL.out).trans HF9.out); obtain ⟨W9, hput, hI9, hg9⟩ := CA2.out.put WK.out; rw [hkk] at hput; have HI9 := Lib.hid hI9; have HB9 := Lib.hid (BB2.out.grown hg9 BB2.out.size (fun j hj => by injection hj with hj; omega)); have SZ9 := Lib.hid (MK.out W9 HB9.out ((hg9.block _ (Nat.lt_of_lt_of_le HFL.out hq.size) (fun e => by injection e with e; omega)).trans HF2.out)); clear hI9 hg9)
           | (have NW := Lib.hid (kept_more NW.out hq); have P1 := Lib.hid (bnext P1.out hq); have hlk := HLK.out _ (G1.out.below P1.out))
           | (have P1 := Lib.hid (show Below W1.heap.size W1 w' by with_reducible exact bnext P1.out hq); have hlk := HLK.out _ (G1.out.below P1.out); have hlkA := fun o => HLK.out _ (G1.out.below (P1.out.alloc P1.out.size o)))
           | (have NW := Lib.hid (new_kept hq); have P1 := Lib.hid (bnext (P1.out.alloc P1.out.size _) hq); have hlk := HLK.out _ (G1.out.below P1.out))
           | (have NW := Lib.hid (kept_more (show NewAt (W1.alloc (.cells #[.int .i64 (i : Int)] 2)).drew W1.heap.size (.int .i64 (i : Int)) from ⟨cell_one_new W1 _ _, by show W1.heap.size < (W1.alloc (.cells #[.int .i64 (i : Int)] 2)).heap.size; simp⟩) hq); have P1 := Lib.hid (bnext (show Below W1.heap.size W1 (W1.alloc (.cells #[.int .i64 (i : Int)] 2)).drew from ((Below.refl _ _).alloc (Nat.le_refl _) _).drew) hq); have hlk := HLK.out _ (G1.out.below P1.out)))
        | (refine step_append_at _ rfl (.tmp 31) (.tmp 33) _ rfl (w.heap.size + 1) 2 i0 (.int .i64 0) 1 8 Tryd.underlying24 hi0 hz0 hz1 hz2 rfl (by decide) (g k) (PL xs k i).length (IL (PL xs k i)) rfl (by first | (with_reducible exact (OWF.out _ P1.out).1) | exact (OWF.out _ (P1.out.alloc P1.out.size _)).1) _ 1 1 [.int .i64 (i : Int)] rfl rfl (by first | exact cell_one_new _ _ _ | exact NW.out.1) (by intro u hu; simp at hu; subst hu; rfl) (by unfold maxLen; omega) (by omega) (by first | (with_reducible exact (OWF.out _ P1.out).2) | exact (OWF.out _ (P1.out.alloc P1.out.size _)).2) ?_
           intro v9 w9 hown hgrow hat
           have hown := Lib.hid (show w9.ownsRow (w.heap.size + 1) 2 1 v9 (PL xs k i ++ [(i : Int)]).length (IL (PL xs k i ++ [(i : Int)])) by unfold IL at *; rw [List.length_append, List.map_append]; exact hown)
           first
           | (have CA := Lib.hid (show GrA w9 w.heap.size (w.heap.size + 1) i g (fun k => PL xs k i) k v9 (PL xs k i ++ [(i : Int)]) by with_reducible exact (G1.out.below P1.out).append WK.out hown.out hgrow hat); have BB := Lib.hid ((bnext B1.out P1.out).grown hgrow (bnext B1.out P1.out).size (fun j hj => by have := (BG.out j hj).1; omega)); have HFL := Lib.hid (Nat.lt_of_lt_of_le (HFX.out _ P1.out).2 hgrow.size); have HF9 := Lib.hid ((hgrow.block _ (HFX.out _ P1.out).2 (fun e => by have := (BG.out _ e.symm).2; omega)).trans (HFX.out _ P1.out).1))
           | (have P2 := Lib.hid (P1.out.alloc P1.out.size (.cells #[.int .i64 (i : Int)] 2)); have CA := Lib.hid ((G1.out.below P2.out).append WK.out hown.out hgrow hat); have BB := Lib.hid ((bnext B1.out P2.out).grown hgrow (bnext B1.out P2.out).size (fun j hj => by have := (BG.out j hj).1; omega)); have HFL := Lib.hid (Nat.lt_of_lt_of_le (HFX.out _ P2.out).2 hgrow.size); have HF9 := Lib.hid ((hgrow.block _ (HFX.out _ P2.out).2 (fun e => by have := (BG.out _ e.symm).2; omega)).trans (HFX.out _ P2.out).1))
           have SAp := Lib.hid (MK.out w9 BB.out HF9.out)
           obtain ⟨W9, hput, hI9, hg9⟩ := CA.out.put WK.out
           rw [hkk] at hput
           have HI9 := Lib.hid hI9
           have HB9 := Lib.hid (BB.out.grown hg9 BB.out.size (fun j hj => by injection hj with hj; omega))
           have SZ9 := Lib.hid (MK.out W9 HB9.out ((hg9.block _ HFL.out (fun e => by injection e with e; omega)).trans HF9.out))
           clear hI9 hg9))
      all_goals
        rw [PS.out] at HI9
        go_wp2
        go_roundw
        case rel => exact ⟨i + 1, _, by omega, by go_num, HI9.out, HB9.out⟩
        case measure => simp [intOf]; omega
    · obtain rfl : i = xs.length := by omega
      obtain ⟨wo, rfl⟩ : ∃ wo : World, wo = wr := ⟨_, rfl⟩
      have R0 := Lib.hid (show GrR wo w.heap.size wo.heap.size xs.length g (fun k => (PL xs k xs.length).drop (cntT whl ws k 0)) from GrR.of_GrI HG.out)
      have zB := HB.out.size
      have wlo : w.heap.size < wo.heap.size := HG.out.1.lt
      have U0 := Lib.hid (show wo.ownsRow wo.heap.size 2 1 (.slice none 0 0) (tkW xs ws 0).length ((tkW xs ws 0).map (Value.int .i64)) from ⟨rfl, .inl ⟨rfl, rfl⟩⟩)
      go_wp2
      go_loopw [11, 38] (fun u_ i_ wr => ∃ (u : Value) (j n : Nat) (g2 : Bk → Value), u = u_ ∧ j ≤ ws.length ∧ i_ = .int .i64 (j : Int) ∧ TkOk whl xs ws j ∧ GrR wr w.heap.size wo.heap.size n g2 (fun k => (PL xs k xs.length).drop (cntT whl ws k j)) ∧ wr.ownsRow wo.heap.size 2 1 u (tkW xs ws j).length ((tkW xs ws j).map (Value.int .i64)) ∧ Below w.heap.size w wr ∧ wo.heap.size ≤ wr.heap.size) (fun _ i_ _ => ws.length - (intOf i_).toNat)
      case atStart => exact ⟨_, 0, _, _, rfl, Nat.zero_le _, rfl, (fun i hi => absurd hi (Nat.not_lt_zero _)), R0.out, U0.out, HB.out, Nat.le_refl _⟩
      case round =>
        clear R0 U0 HG HB
        obtain ⟨u, j, n, g2, rfl, hj, rfl, htk, hgr, hown, hb, hz⟩ := hrel
        have TK := Lib.hid htk
        have HR := Lib.hid hgr
        have OU := Lib.hid hown
        have HB := Lib.hid hb
        have TL := tkW_len xs ws j
        clear htk hgr hown hb
        by_cases hlt : j < ws.length
        · obtain ⟨ga, oa, rfl, hga, hat⟩ := HW.out (by omega)
          obtain ⟨p0, p1, p2, p3, p4, p5, p6, p7⟩ := booksAt_some (hat.below HB.out hga) hlt
          have WK := Lib.hid (whl_wf (WW.out _ (List.getElem_mem hlt)))
          have GJ := Lib.hid (getD_nth hlt)
          have CS := Lib.hid (fun k => cnt_succ whl (ws := ws) k hlt)
          clear hat
          generalize ws[j] = bj at *
          have GX := Lib.hid (show Below wo.heap.size wr (wr.alloc (.cells #[.int .i16 bj.c, .int .u8 bj.m0, .int .u8 bj.m1, .int .u8 bj.m2, .int .i16 bj.v, .int .i16 bj.wi, .int .i16 bj.hi, .int .i16 bj.we] 53)) from (Below.refl _ _).alloc hz _)
          have GW := Lib.hid (show Below wr.heap.size wr (wr.alloc (.cells #[.int .i16 bj.c, .int .u8 bj.m0, .int .u8 bj.m1, .int .u8 bj.m2, .int .i16 bj.v, .int .i16 bj.wi, .int .i16 bj.hi, .int .i16 bj.we] 53)) from (Below.refl _ _).alloc (Nat.le_refl _) _)
          have BX := Lib.hid (heap_alloc_new wr (.cells #[.int .i16 bj.c, .int .u8 bj.m0, .int .u8 bj.m1, .int .u8 bj.m2, .int .i16 bj.v, .int .i16 bj.wi, .int .i16 bj.hi, .int .i16 bj.we] 53))
          have LT := Lib.hid (fun W => whole_any bj W)
          generalize hk : whl bj = k at *
          have HK := Lib.hid hk
          clear hk
          go_upto_region 11 with (fail)
          generalize World.alloc wr _ = W1 at GX GW BX ⊢
          clear p0 p1 p2 p3 p4 p5 p6 p7
          have hxl : wr.heap.size < W1.heap.size := (Array.getElem?_eq_some_iff.1 BX.out).1
          have B1 := Lib.hid (bnext HB.out GW.out)
          have R1 := Lib.hid (HR.out.below GX.out)
          have U1 := Lib.hid (ownBelow OU.out GW.out)
          generalize hkk : bkV k = kv at LT
          have b0 : W1.cell? ⟨wr.heap.size, 0, none⟩ = some (.int .i16 bj.c) := cell_of_row W1 _ 0 _ _ _ BX.out
          have b1 : W1.cell? ⟨wr.heap.size, 1, none⟩ = some (.int .u8 bj.m0) := cell_of_row W1 _ 1 _ _ _ BX.out
          have b2 : W1.cell? ⟨wr.heap.size, 2, none⟩ = some (.int .u8 bj.m1) := cell_of_row W1 _ 2 _ _ _ BX.out
          have b3 : W1.cell? ⟨wr.heap.size, 3, none⟩ = some (.int .u8 bj.m2) := cell_of_row W1 _ 3 _ _ _ BX.out
          have b4 : W1.cell? ⟨wr.heap.size, 4, none⟩ = some (.int .i16 bj.v) := cell_of_row W1 _ 4 _ _ _ BX.out
          have b5 : W1.cell? ⟨wr.heap.size, 5, none⟩ = some (.int .i16 bj.wi) := cell_of_row W1 _ 5 _ _ _ BX.out
          have b6 : W1.cell? ⟨wr.heap.size, 6, none⟩ = some (.int .i16 bj.hi) := cell_of_row W1 _ 6 _ _ _ BX.out
          have b7 : W1.cell? ⟨wr.heap.size, 7, none⟩ = some (.int .i16 bj.we) := cell_of_row W1 _ 7 _ _ _ BX.out
          go_wp2_with fail
          refine (LT.out _).mono ?_
          rintro e w2 ⟨rfl, h2⟩
          have zW : wo.heap.size ≤ W1.heap.size := Nat.le_trans hz GW.out.size
          have R2 := Lib.hid (R1.out.below (h2.mono zW))
          have U2 := Lib.hid (ownBelow U1.out h2)
          have B2 := Lib.hid (bnext B1.out h2)
          have X2 := Lib.hid ((h2.block _ hxl).trans BX.out)
          have R2z := Lib.hid h2.size
          have NO := Lib.hid (show (PL xs k xs.length).drop (cntT whl ws k j) = [] → ¬ TkOk whl xs ws ws.length from fun e0 h => by
            have h1 := h j hlt
            rw [GJ.out, HK.out] at h1
            rw [List.drop_eq_nil_iff] at e0
            unfold PL at e0
            rw [List.length_map] at e0
            omega)
          clear b0 b1 b2 b3 b4 b5 b6 b7 h2
          have hlk : (Instr.lookup 91 (.map (some w.heap.size)) kv false).run Tryd.prog w2 = .ok (g2 k) w2 := by rw [← hkk]; exact R2.out.1.look k WK.out
          rcases R2.out.2.2 k WK.out with ⟨e1, e0⟩ | ⟨gb, o, cc, e1, hle, hlo, hgB, hia⟩
          · rw [e1] at hlk
            have NN := Lib.hid (NO.out e0)
            clear e0
            go_wp2
            go_ret2
            exact ⟨_, _, rfl, .inr ⟨NN.out, rfl⟩, B2.out⟩
          · dsimp only at e1 hle hia
            by_cases h0 : (PL xs k xs.length).drop (cntT whl ws k j) = []
            · have NN := Lib.hid (NO.out h0)
              rw [h0] at e1
              rw [e1] at hlk
              go_wp2
              go_ret2
              exact ⟨_, _, rfl, .inr ⟨NN.out, rfl⟩, B2.out⟩
            · have hlen : 0 < ((PL xs k xs.length).drop (cntT whl ws k j)).length := List.length_pos_iff.2 h0
              have hcl : cntT whl ws k j < (PL xs k xs.length).length := by rw [List.length_drop] at hlen; omega
              have hcp : cntT whl ws k j < (plc whl xs k xs.length).length := by unfold PL at hcl; rwa [List.length_map] at hcl
              have T1 := Lib.hid (show TkOk whl xs ws (j + 1) from fun i hi => by
                by_cases e : i = j
                · rw [e, GJ.out, HK.out]; exact hcp
                · exact TK.out i (by omega))
              obtain ⟨z, hz9⟩ : ∃ z : Int, z = ((PL xs k xs.length).drop (cntT whl ws k j))[0] := ⟨_, rfl⟩
              have T2 := Lib.hid (show tkW xs ws (j + 1) = tkW xs ws j ++ [z] by
                rw [hz9]
                unfold tkW
                rw [tkTo, GJ.out, HK.out, List.map_append]
                congr 1
                rw [List.getElem_drop]
                unfold PL
                rw [List.getElem_map]
                simp [List.getD, List.getElem?_eq_getElem hcp])
              have FE := Lib.hid (show updF (fun k => (PL xs k xs.length).drop (cntT whl ws k j)) k (((PL xs k xs.length).drop (cntT whl ws k j)).drop 1) = fun k => (PL xs k xs.length).drop (cntT whl ws k (j + 1)) from by
                funext y
                unfold updF
                show (if k = y then _ else _) = _
                rw [CS.out y, GJ.out, HK.out]
                by_cases e : k = y
                · subst e
                  rw [if_pos rfl, if_pos rfl, List.drop_drop]
                · rw [if_neg e, if_neg e, Nat.add_zero])
              have SR := Lib.hid (SlI.rest hle hlo hgB hia hlen)
              have hia0 : w2.cell? ⟨gb, o, none⟩ = some (.int .i64 z) := by rw [hz9]; exact hia 0 hlen
              have s1 := fun W => run_restI gb o ((PL xs k xs.length).drop (cntT whl ws k j)).length cc hlen hle W
              rw [e1] at hlk
              clear hz9 hia
              generalize hll : (PL xs k xs.length).drop (cntT whl ws k j) = l at hlk hle hlen hia0 SR s1 T2 FE e1
              clear h0 hcl hcp NO
              have hlz : ¬ (l.length : Int) = 0 := by omega
              have hz2 := B2.out.size
              have zW2 : wo.heap.size ≤ w2.heap.size := Nat.le_trans zW (R2z.out)
              go_wp2_with (at_builtin; refine wpList_append_own _ rfl (.tmp 50) (.tmp 54) _ rfl wo.heap.size 2 i0 (.int .i64 0) 1 8 Tryd.underlying24 hi0 hz0 hz1 (by assumption) rfl (by decide) _ _ _ rfl (U2.out.alloc _) ⟨w2.heap.size, 0, none⟩ 1 1 [.int .i64 z] rfl rfl ?c1 ?c2 ?c3 ?c4 ?c5 ?_)
              case c1 => exact cell_one_new _ _ _
              case c2 => (intro u hu; simp at hu; subst hu; rfl)
              case c3 => (unfold maxLen; omega)
              case c4 => omega
              case c5 => (simp; omega)
              intro v' w4 hown' hgrow' _
              have OC := Lib.hid (show w4.ownsRow wo.heap.size 2 1 v' (tkW xs ws (j + 1)).length ((tkW xs ws (j + 1)).map (Value.int .i64)) by rw [T2.out, List.length_append, List.map_append, TL]; exact hown')
              have ub := Lib.hid (fun q (hq : u.ownBlock = some q) => OU.out.lt q hq)
              have B4 := Lib.hid ((B2.out.alloc hz2 _).grown hgrow' (by simp; omega) (fun q hq => by have := (ub.out q hq).1; omega))
              have O4 := Lib.hid (show Below wo.heap.size w2 w4 from ((Below.refl w2.heap.size w2).mono zW2 |>.alloc zW2 _).grown hgrow' (by simp; omega) (fun q hq => (ub.out q hq).1))
              have R4 := Lib.hid (R2.out.below O4.out)
              have S4 := Lib.hid (SR.out.below O4.out)
              have lx2 : wr.heap.size < w2.heap.size := (Array.getElem?_eq_some_iff.1 X2.out).1
              have X4 := Lib.hid ((hgrow'.block wr.heap.size (by simp; omega) (fun e => by have := (ub.out _ e.symm).2; omega)).trans ((Below.heap_alloc _ _ _ lx2).trans X2.out))
              have z4 := O4.out.size
              have lx4 : wr.heap.size < w4.heap.size := (Array.getElem?_eq_some_iff.1 X4.out).1
              clear hown' hgrow' hia0 hlk
              have MK := Lib.hid (show ∀ X : World, Below w.heap.size w X → X.heap[wr.heap.size]? = some (.cells #[.int .i16 bj.c, .int .u8 bj.m0, .int .u8 bj.m1, .int .u8 bj.m2, .int .i16 bj.v, .int .i16 bj.wi, .int .i16 bj.hi, .int .i16 bj.we] 53 (0, 0)) → (fun (X : World) => Below w.heap.size w X ∧ X.heap[wr.heap.size]? = some (.cells #[.int .i16 bj.c, .int .u8 bj.m0, .int .u8 bj.m1, .int .u8 bj.m2, .int .i16 bj.v, .int .i16 bj.wi, .int .i16 bj.hi, .int .i16 bj.we] 53 (0, 0)) ∧ X.cell? ⟨wr.heap.size, 0, none⟩ = some (.int .i16 bj.c) ∧ X.cell? ⟨wr.heap.size, 1, none⟩ = some (.int .u8 bj.m0) ∧ X.cell? ⟨wr.heap.size, 2, none⟩ = some (.int .u8 bj.m1) ∧ X.cell? ⟨wr.heap.size, 3, none⟩ = some (.int .u8 bj.m2) ∧ X.cell? ⟨wr.heap.size, 4, none⟩ = some (.int .i16 bj.v) ∧ X.cell? ⟨wr.heap.size, 5, none⟩ = some (.int .i16 bj.wi) ∧ X.cell? ⟨wr.heap.size, 6, none⟩ = some (.int .i16 bj.hi) ∧ X.cell? ⟨wr.heap.size, 7, none⟩ = some (.int .i16 bj.we)) X from fun X h2 h3 =>
                ⟨h2, h3, cell_of_row X _ 0 _ _ _ h3, cell_of_row X _ 1 _ _ _ h3, cell_of_row X _ 2 _ _ _ h3, cell_of_row X _ 3 _ _ _ h3, cell_of_row X _ 4 _ _ _ h3, cell_of_row X _ 5 _ _ _ h3, cell_of_row X _ 6 _ _ _ h3, cell_of_row X _ 7 _ _ _ h3⟩)
              have SK := Lib.hid (show ∀ X Y : World, Below X.heap.size X Y → (fun (X : World) => Below w.heap.size w X ∧ X.heap[wr.heap.size]? = some (.cells #[.int .i16 bj.c, .int .u8 bj.m0, .int .u8 bj.m1, .int .u8 bj.m2, .int .i16 bj.v, .int .i16 bj.wi, .int .i16 bj.hi, .int .i16 bj.we] 53 (0, 0)) ∧ X.cell? ⟨wr.heap.size, 0, none⟩ = some (.int .i16 bj.c) ∧ X.cell? ⟨wr.heap.size, 1, none⟩ = some (.int .u8 bj.m0) ∧ X.cell? ⟨wr.heap.size, 2, none⟩ = some (.int .u8 bj.m1) ∧ X.cell? ⟨wr.heap.size, 3, none⟩ = some (.int .u8 bj.m2) ∧ X.cell? ⟨wr.heap.size, 4, none⟩ = some (.int .i16 bj.v) ∧ X.cell? ⟨wr.heap.size, 5, none⟩ = some (.int .i16 bj.wi) ∧ X.cell? ⟨wr.heap.size, 6, none⟩ = some (.int .i16 bj.hi) ∧ X.cell? ⟨wr.heap.size, 7, none⟩ = some (.int .i16 bj.we)) X → (fun (X : World) => Below w.heap.size w X ∧ X.heap[wr.heap.size]? = some (.cells #[.int .i16 bj.c, .int .u8 bj.m0, .int .u8 bj.m1, .int .u8 bj.m2, .int .i16 bj.v, .int .i16 bj.wi, .int .i16 bj.hi, .int .i16 bj.we] 53 (0, 0)) ∧ X.cell? ⟨wr.heap.size, 0, none⟩ = some (.int .i16 bj.c) ∧ X.cell? ⟨wr.heap.size, 1, none⟩ = some (.int .u8 bj.m0) ∧ X.cell? ⟨wr.heap.size, 2, none⟩ = some (.int .u8 bj.m1) ∧ X.cell? ⟨wr.heap.size, 3, none⟩ = some (.int .u8 bj.m2) ∧ X.cell? ⟨wr.heap.size, 4, none⟩ = some (.int .i16 bj.v) ∧ X.cell? ⟨wr.heap.size, 5, none⟩ = some (.int .i16 bj.wi) ∧ X.cell? ⟨wr.heap.size, 6, none⟩ = some (.int .i16 bj.hi) ∧ X.cell? ⟨wr.heap.size, 7, none⟩ = some (.int .i16 bj.we)) Y from fun X Y hb h => MK.out Y (bnext h.1 hb) ((hb.block _ (Array.getElem?_eq_some_iff.1 h.2.1).1).trans h.2.1))
              have SD := Lib.hid (MK.out w4.drew B4.out.drew X4.out)
              have hwz : w.heap.size < wr.heap.size := by omega
              go_wp2
              go_region_held3 (fun (X : World) => Below w.heap.size w X ∧ X.heap[wr.heap.size]? = some (.cells #[.int .i16 bj.c, .int .u8 bj.m0, .int .u8 bj.m1, .int .u8 bj.m2, .int .i16 bj.v, .int .i16 bj.wi, .int .i16 bj.hi, .int .i16 bj.we] 53 (0, 0)) ∧ X.cell? ⟨wr.heap.size, 0, none⟩ = some (.int .i16 bj.c) ∧ X.cell? ⟨wr.heap.size, 1, none⟩ = some (.int .u8 bj.m0) ∧ X.cell? ⟨wr.heap.size, 2, none⟩ = some (.int .u8 bj.m1) ∧ X.cell? ⟨wr.heap.size, 3, none⟩ = some (.int .u8 bj.m2) ∧ X.cell? ⟨wr.heap.size, 4, none⟩ = some (.int .i16 bj.v) ∧ X.cell? ⟨wr.heap.size, 5, none⟩ = some (.int .i16 bj.wi) ∧ X.cell? ⟨wr.heap.size, 6, none⟩ = some (.int .i16 bj.hi) ∧ X.cell? ⟨wr.heap.size, 7, none⟩ = some (.int .i16 bj.we)) (first | assumption | exact SD.out | exact SZ9.out | (with_reducible exact SK.out _ _ hq (by assumption))) (first
                | (go_at_call 30; refine (LT.out _).mono ?_; rintro e w' ⟨rfl, hq⟩
                   have R5 := Lib.hid (R4.out.below (Below.trans (Below.drew (Below.refl wo.heap.size w4)) (hq.mono (show wo.heap.size ≤ w4.drew.heap.size from Nat.le_trans zW2 z4))))
                   have S5 := Lib.hid (S4.out.below (Below.trans (Below.drew (Below.refl wo.heap.size w4)) (hq.mono (show wo.heap.size ≤ w4.drew.heap.size from Nat.le_trans zW2 z4))))
                   have zq := Lib.hid (show w4.heap.size ≤ w'.heap.size from hq.size)
                   have OC5 := Lib.hid (ownBelow (show w4.drew.ownsRow wo.heap.size 2 1 v' (tkW xs ws (j + 1)).length ((tkW xs ws (j + 1)).map (Value.int .i64)) from OC.out) hq)
                   have B5 := Lib.hid (bnext B4.out.drew hq)
                   have X5 := Lib.hid ((hq.block _ (show wr.heap.size < w4.drew.heap.size from lx4)).trans (show w4.drew.heap[wr.heap.size]? = _ from X4.out))
                   obtain ⟨W9, hput, hR9, hg9⟩ := R5.out.put (by have := zq.out; omega) WK.out S5.out
                   rw [hkk] at hput
                   have HR9 := Lib.hid hR9
                   have HB9 := Lib.hid (B5.out.grown hg9 B5.out.size (fun q hq => by injection hq with hq; omega))
                   have HO9 := Lib.hid (own_other OC5.out hg9 (fun q hq e => by have := (own_lt OC5.out hq).1; injection e with e; omega))
                   have HZ9 := Lib.hid (Nat.le_trans zq.out hg9.size)
                   have SZ9 := Lib.hid (MK.out W9 HB9.out ((hg9.block _ (Nat.lt_of_lt_of_le lx4 zq.out) (fun e => by injection e with e; omega)).trans X5.out))
                   clear hR9 hg9))
              all_goals
                rw [FE.out] at HR9
                go_wp2
                go_roundw
                case rel => exact ⟨_, j + 1, _, _, rfl, by omega, by go_num, T1.out, HR9.out, HO9.out, HB9.out, by have := HZ9.out; omega⟩
                case measure => simp [intOf]; omega
        · obtain rfl : j = ws.length := by omega
          go_wp2
          go_ret2
          exact ⟨_, _, rfl, .inl ⟨TK.out, rfl, own_low OU.out zB⟩, HB.out⟩
end Go.Proofs.YteeblpdjpaellaaDoor
