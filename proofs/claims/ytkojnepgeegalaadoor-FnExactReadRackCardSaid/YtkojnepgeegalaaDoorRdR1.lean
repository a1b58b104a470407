/- ReadRack, by the program: a contract. Condition: the error variables hold different errors of errors.New's make; a text no longer than told. -/
import Derived.Test.YtkojnepgeegalaaDoorRrA
import Derived.Test.YtkojnepgeegalaaDoorRdY
import Derived.Test.YtkojnepgeegalaaDoorCd2
import Derived.Test.YtkojnepgeegalaaDoorRdA
import Derived.Deep.AppendLies
import Derived.Deep.RegionWith
import Derived.Deep.RegionHeldLaw
import Derived.Deep.RegionLaw
namespace Go.Proofs.YtkojnepgeegalaaDoor
set_option linter.unusedSimpArgs false
set_option linter.unusedVariables false
set_option maxRecDepth 100000
open Go.RowKit

theorem rkSl {w : World} {base size : Nat} {e : TypeId} {v : Value} {n : Nat} {l : List Value} (h : w.ownsRow base e size v n l) : ∃ A c, v = .slice A n c := by
  rcases h.2 with ⟨h, h0⟩ | ⟨g, cap, cur, h, _⟩
  · exact ⟨none, 0, by rw [h, h0]⟩
  · exact ⟨_, cap, h⟩
/-- A rack in a block of its own. -/
def KR (W : World) (g : Nat) (n : Int) (hv : Value) : Prop := W.heap[g]? = some (.cells #[.int .i16 n, hv] 60 (0, 0))
section
variable {W W' : World} {g k : Nat} {n : Int} {hv : Value}
theorem KR.lt (h : KR W g n hv) : g < W.heap.size := (Array.getElem?_eq_some_iff.1 h).1
theorem KR.gr (h : KR W g n hv) (hg : Gr k W W') (hne : g ≠ k) : KR W' g n hv := (hg.block g h.lt (fun e => hne (by injection e))).trans h
theorem KR.kept {row : Option Nat} (h : KR W g n hv) (hg : W.grownBy W' row) (hne : some g ≠ row) : KR W' g n hv := (hg.block g h.lt hne).trans h
theorem KR.fz (h : KR W g n hv) (i : Nat) : W.frozen? ⟨g, i, none⟩ = false := frozen_of_row W g i _ _ h
theorem KR.c0 (h : KR W g n hv) : W.cell? ⟨g, 0, none⟩ = some (.int .i16 n) := cell_of_row W g 0 _ _ _ h
theorem KR.c1 (h : KR W g n hv) : W.cell? ⟨g, 1, none⟩ = some hv := cell_of_row W g 1 _ _ _ h
theorem KR.s1 (h : KR W g n hv) (z : Value) : KR (W.setCell ⟨g, 1, none⟩ z) g n z := by
  unfold KR at *
  rw [heap_setCell_same _ _ _ _ _ _ h]
  rfl
theorem KR.all (h : KR W g n hv) (x : Int) (z : Value) : KR ((W.setCell ⟨g, 0, none⟩ (.int .i16 x)).setCell ⟨g, 1, none⟩ z) g x z := by
  unfold KR at *
  have h1 := heap_setCell_same _ _ 0 _ _ (.int .i16 x) h
  have h2 := heap_setCell_same _ _ 1 _ _ z h1
  simpa using h2
end
theorem grR {W : World} (g : Nat) (x : Int) (z : Value) : Gr g W ((W.setCell ⟨g, 0, none⟩ (.int .i16 x)).setCell ⟨g, 1, none⟩ z) := ((Gr.refl g W).set 0 _).set 1 _
theorem cell9r (w : World) (a b c d e f g h i : Value) (t : TypeId) : ∀ (j : Nat) (u : Value), [a, b, c, d, e, f, g, h, i][j]? = some u → (w.alloc (.cells #[a, b, c, d, e, f, g, h, i] t)).cell? (Addr.add ⟨w.heap.size, 0, none⟩ j) = some u := by
  intro j u hu
  rw [Addr.add_lit, Nat.zero_add, cell_of_row _ _ j _ _ _ (heap_alloc_new w _)]
  match j, hu with
  | 0, hu => simpa using hu
  | 1, hu => simpa using hu
  | 2, hu => simpa using hu
  | 3, hu => simpa using hu
  | 4, hu => simpa using hu
  | 5, hu => simpa using hu
  | 6, hu => simpa using hu
  | 7, hu => simpa using hu
  | 8, hu => simpa using hu
  | n + 9, hu => simp at hu
theorem one9r (x : Pl) : ∀ u ∈ [Value.int .i16 x.p, .int .i16 x.b.c, .int .u8 x.b.m0, .int .u8 x.b.m1, .int .u8 x.b.m2, .int .i16 x.b.v, .int .i16 x.b.wi, .int .i16 x.b.hi, .int .i16 x.b.we], u.oneCell' = true := by
  intro u hu
  simp at hu
  rcases hu with rfl | rfl | rfl | rfl | rfl | rfl | rfl | rfl | rfl <;> rfl
/-- Where ReadRack stands: the result's box, the reader, the rack's box, its books. -/
structure RSt (w W : World) (T : ByteArray) (s i y : Addr) (gb q : Nat) (f : Bool) (n : Int) (ps : List Pl) (hv : Value) : Prop where
  rb : KR W w.heap.size 0 (.slice none 0 0)
  rd : Rd W (w.heap.size + 1) T q f y
  bx : KR W gb n hv
  hg : w.heap.size + 1 < gb
  es : Es2 W s y
  er : Er2 W s i
  bl : Below w.heap.size w W
  ow : W.ownsRow (gb + 1) 99 9 hv ps.length (flN Pl.cells ps)
section
variable {w W W' : World} {T : ByteArray} {s i y : Addr} {gb q q' : Nat} {f f' : Bool} {n : Int} {ps : List Pl} {hv : Value}
theorem RSt.nx (he : Es2 w s y) (hr : Er2 w s i) (h : RSt w W T s i y gb q f n ps hv) (hg : Gr (w.heap.size + 1) W W') (r : Rd W' (w.heap.size + 1) T q' f' y) : RSt w W' T s i y gb q' f' n ps hv := by
  have b2 := h.bl.grown hg h.bl.size (fun k hk => by injection hk with hk; omega)
  have h3 := h.hg
  exact ⟨h.rb.gr hg (by omega), r, h.bx.gr hg (by omega), h3, he.below b2, hr.below b2, b2, ownOther h.ow hg (fun k hk e => by have := (h.ow.lt k hk).1; injection e with e; omega)⟩
theorem RSt.bx' (he : Es2 w s y) (hr : Er2 w s i) (h : RSt w W T s i y gb q f n ps hv) (hb : Below W.heap.size W W') : RSt w W' T s i y gb q f n ps hv := h.nx he hr (Gr.of hb) (h.rd.below hb)
theorem RSt.ap (he : Es2 w s y) (hr : Er2 w s i) (h : RSt w W T s i y gb q f n ps hv) (hg : W.grownBy W' hv.ownBlock) {ps' : List Pl} {hv' : Value} (ho : W'.ownsRow (gb + 1) 99 9 hv' ps'.length (flN Pl.cells ps')) : RSt w (W'.setCell ⟨gb, 1, none⟩ hv') T s i y gb q f n ps' hv' := by
  have h3 := h.hg
  have b2 := h.bl.grown hg h.bl.size (fun k hk => by have := (h.ow.lt k hk).1; omega)
  have g3 := (Gr.refl gb W').set 1 hv'
  have b3 := b2.grown g3 b2.size (fun k hk => by injection hk with hk; omega)
  have r0 := h.rb.kept hg (fun e => by have := (h.ow.lt _ e.symm).1; omega)
  have x0 := h.bx.kept hg (fun e => by have := (h.ow.lt _ e.symm).1; omega)
  have d0 := h.rd.kept hg (fun e => by have := (h.ow.lt _ e.symm).1; omega)
  exact ⟨r0.gr g3 (by omega), d0.gr g3 (by omega), x0.s1 hv', h3, he.below b3, hr.below b3, b3, ownOther ho g3 (fun k hk e => by have := (ho.lt k hk).1; injection e with e; omega)⟩
end
/-- What ReadRack leaves. -/
def ReadsRk (r : Rk) (k : Int) (w : World) (e : Ending) (w' : World) : Prop := ∃ u, e = .returned (.tuple #[.agg #[.int .i16 r.n, u], .int .i64 k]) ∧ w'.ownsRow w.heap.size 99 9 u r.ps.length (flN Pl.cells r.ps) ∧ Below w.heap.size w w'
theorem readsRk_mk {r : Rk} {k : Int} {w w' : World} {e : Ending} (u : Value) (h1 : e = .returned (.tuple #[.agg #[.int .i16 r.n, u], .int .i64 k])) (h2 : w'.ownsRow w.heap.size 99 9 u r.ps.length (flN Pl.cells r.ps)) (h3 : Below w.heap.size w w') : ReadsRk r k w e w' := ⟨u, h1, h2, h3⟩
def boxLen (g : Nat) (W : World) : Nat := match W.cell? ⟨g, 1, none⟩ with
  | some v => lenV v
  | none => 0
theorem boxLen_of {g : Nat} {W : World} {n : Int} {A : Option Addr} {k c : Nat} (h : KR W g n (.slice A k c)) : boxLen g W = k := by
  unfold boxLen
  rw [h.c1]
  rfl
theorem skipM_of {T : ByteArray} {q q1 q2 : Nat} {f f1 f2 : Bool} {n : Int} {c : UInt8} (hc : isDig c = false) (hn : NumR T q f 9999 n q1 f1) (hs : SkipS T q1 f1 c q2 f2) : TokS c T q f n q2 f2 := tokS_of hc hn hs
set_option maxHeartbeats 16000000 in
theorem readRack_any (T : ByteArray) (hT : T.size ≤ 1048576) (w : World) (s i y : Addr) (he : Es2 w s y) (hr : Er2 w s i) :
    Calls Tryd.prog 37 #[.string T] w (ReadsRk (rrV T.data.toList) (rrK T.data.toList) w) := by
  have hl0 := World.block_lt_of_cell? _ _ he.cy
  have hne : w.heap.size + 1 ≠ 0 := fun e => by
    have h2 : (0 : Nat) < w.heap.size := hl0
    omega
  obtain ⟨i0, hi0, hz0, hz1, hz2⟩ := info_parts infoPlaced
  have HE := Lib.hid he
  have HR := Lib.hid hr
  have R0 := heap_alloc2_old w (.cells #[.int .i16 0, (.slice none 0 0)] 60) (.cells #[.string T, .int .i64 0, .nilIface] 76)
  have D0 : Rd ((w.alloc (.cells #[.int .i16 0, (.slice none 0 0)] 60)).alloc (.cells #[.string T, .int .i64 0, .nilIface] 76)) (w.heap.size + 1) T 0 false y := ⟨heap_alloc2_new w (.cells #[.int .i16 0, (.slice none 0 0)] 60) (.cells #[.string T, .int .i64 0, .nilIface] 76), Nat.zero_le _⟩
  have B0 : Below w.heap.size w ((w.alloc (.cells #[.int .i16 0, (.slice none 0 0)] 60)).alloc (.cells #[.string T, .int .i64 0, .nilIface] 76)) := ((Below.refl w.heap.size w).alloc (Nat.le_refl _) (.cells #[.int .i16 0, (.slice none 0 0)] 60)).alloc (by simp) (.cells #[.string T, .int .i64 0, .nilIface] 76)
  have BB0 := Lib.hid B0
  have RR0 := Lib.hid R0
  have DD0 := Lib.hid D0
  clear he hr R0 D0 B0
  go_enter Tryd.func37, Tryd.ntmps37
  go_upto_region 2 with (fail)
  generalize World.alloc (World.alloc _ _) _ = W0 at BB0 RR0 DD0 ⊢
  go_wp2_with fail
  refine (short_any (w.heap.size + 1) hne T hT 0 false y W0 DD0.out (HE.out.below BB0.out).cy).mono ?_
  rintro e w1 ⟨n, q0, f0, rfl, hn, hnb, r1, g1⟩
  have N1 := Lib.hid hn
  have NB := Lib.hid hnb
  have B1 : Below w.heap.size w w1 := BB0.out.grown g1 BB0.out.size (fun k hk => by injection hk with hk; omega)
  have z1 := DD0.out.lt
  have z1b := g1.size
  have K1 : KR w1 w.heap.size 0 (.slice none 0 0) := KR.gr (g := w.heap.size) RR0.out g1 (by omega)
  have A1 := (Below.refl w1.heap.size w1).alloc (Nat.le_refl _) (.cells #[.int .i16 n, (.slice none 0 0)] 60)
  have X1 := Lib.hid (show RSt w (w1.alloc (.cells #[.int .i16 n, (.slice none 0 0)] 60)) T s i y w1.heap.size q0 f0 n [] (.slice none 0 0) from
    ⟨K1.gr (k := w.heap.size + 1) (Gr.of A1) (by omega), r1.below A1, heap_alloc_new w1 _, by omega, HE.out.below (B1.alloc B1.size _), HR.out.below (B1.alloc B1.size _), B1.alloc B1.size _, ⟨rfl, .inl ⟨rfl, rfl⟩⟩⟩)
  have BS := Lib.hid B1.size
  clear hn hnb r1 g1 B1 K1 A1 z1 z1b
  obtain ⟨gb, hgb⟩ : ∃ gb, gb = w1.heap.size := ⟨_, rfl⟩
  go_upto_region 3 with (fail)
  generalize World.alloc _ _ = W1 at X1 ⊢
  rw [← hgb] at X1 ⊢
  clear BB0 RR0 DD0 hgb BS
  go_wp2_with fail
  refine (skip_any (w.heap.size + 1) hne T hT q0 f0 y 10 10 rfl W1 X1.out.rd X1.out.es.cy).mono ?_
  rintro e w2 ⟨q1, f1, rfl, hk, r2, g2⟩
  have P1 := Lib.hid (preR_head (tokS_of (by decide) N1.out hk))
  have X2 := Lib.hid (X1.out.nx HE.out HR.out g2 r2)
  clear hk r2 g2 N1 X1
  go_wp2
  go_loopw [6] (fun _ wr => ∃ (ps : List Pl) (q : Nat) (f : Bool) (hv : Value), ps.length ≤ 61 ∧ PreR T.data.toList n ps T q f ∧ (⟨n, ps⟩ : Rk).Wf ∧ RSt w wr T s i y gb q f n ps hv) (fun _ wr => 61 - boxLen gb wr)
  case atStart => exact ⟨[], q1, f1, _, by simp, P1.out, ⟨by have := NB.out; dsimp only; omega, fun _ h => by simp at h⟩, X2.out⟩
  case round =>
    obtain ⟨ps, q, f, hv, hk, hp, hwf, hx⟩ := hrel
    have PM := Lib.hid hp
    have WF := Lib.hid hwf
    have XR := Lib.hid hx
    obtain ⟨A5, cap5, rfl⟩ := rkSl hx.ow
    clear hp hx hwf X2 P1
    cases f
    case true =>
      have c2 : wr.cell? ⟨w.heap.size + 1, 2, none⟩ = some (.iface 166 (.pointer (some y))) := XR.out.rd.c2
      have EN := Lib.hid (fun f2 h2 => preR_end (f2 := f2) PM.out (.inl rfl) h2)
      have b0 := XR.out.bx.c0
      have b1 := XR.out.bx.c1
      have VC := Lib.hid (validRack_any ⟨n, ps⟩ (.slice A5 ps.length cap5) WF.out wr s i XR.out.er (ResN.of Pl.nine XR.out.ow rfl).slice (by dsimp only; omega))
      go_wp2_with fail
      refine VC.out.mono ?_
      rintro e w6 ⟨rfl, h6⟩
      have X6 := Lib.hid (XR.out.bx' HE.out HR.out h6)
      clear h6 b0 b1 VC
      cases hvr : rkB ⟨n, ps⟩
      · have NO := Lib.hid (rr_no (show ∀ r, ¬ RcP T.data.toList r from by
          rcases EN.out true (by rw [hvr]; simp) with ⟨h, _⟩ | ⟨_, h⟩
          · cases h
          · exact h))
        clear hvr EN
        go_wp2_with fail
        refine (fail_any (w.heap.size + 1) T q true y w6 X6.out.rd X6.out.es.cy).mono ?_
        rintro e w7 ⟨rfl, r7, g7⟩
        have X7 := Lib.hid (X6.out.nx HE.out HR.out g7 r7)
        clear r7 g7
        have k2 : w7.cell? ⟨w.heap.size + 1, 2, none⟩ = some (.iface 166 (.pointer (some y))) := X7.out.rd.c2
        go_wp2_with fail
        refine (codeOf_syn w7 s y X7.out.es).mono ?_
        rintro e w' ⟨rfl, rfl⟩
        clear k2
        have r0 := X7.out.rb.c0
        have r1 := X7.out.rb.c1
        have fz := X7.out.rb.fz
        have PR := Lib.hid (X7.out.rb.all 0 (.slice none 0 0))
        have GR := Lib.hid (X7.out.bl.grown (grR w.heap.size 0 (.slice none 0 0)) X7.out.bl.size (fun k hk => by injection hk with hk; omega))
        have OR := Lib.hid (show ((w'.setCell ⟨w.heap.size, 0, none⟩ (.int .i16 0)).setCell ⟨w.heap.size, 1, none⟩ (.slice none 0 0)).ownsRow w.heap.size 99 9 (.slice none 0 0) (rrV T.data.toList).ps.length (flN Pl.cells (rrV T.data.toList).ps) from by rw [NO.out.1]; exact ⟨rfl, .inl ⟨rfl, rfl⟩⟩)
        go_wp2
        have q0' := PR.out.c0
        have q1' := PR.out.c1
        exact bodyPost_ret (v := .tuple #[.agg #[.int .i16 0, (.slice none 0 0)], .int .i64 5]) (by simp [results, Tryd.results37, go_sem, q0', q1']) rfl (readsRk_mk (.slice none 0 0) (by rw [NO.out.1, NO.out.2]; rfl) OR.out GR.out)
      · have NO := Lib.hid (rr_no (show ∀ r, ¬ RcP T.data.toList r from by
          rcases EN.out true (by rw [hvr]; simp) with ⟨h, _⟩ | ⟨_, h⟩
          · cases h
          · exact h))
        clear hvr EN
        obtain ⟨w7, h7⟩ : ∃ w7, w7 = w6 := ⟨_, rfl⟩
        subst h7
        have X7 := X6
        have k2 : w7.cell? ⟨w.heap.size + 1, 2, none⟩ = some (.iface 166 (.pointer (some y))) := X7.out.rd.c2
        go_wp2_with fail
        refine (codeOf_syn w7 s y X7.out.es).mono ?_
        rintro e w' ⟨rfl, rfl⟩
        clear k2
        have r0 := X7.out.rb.c0
        have r1 := X7.out.rb.c1
        have fz := X7.out.rb.fz
        have PR := Lib.hid (X7.out.rb.all 0 (.slice none 0 0))
        have GR := Lib.hid (X7.out.bl.grown (grR w.heap.size 0 (.slice none 0 0)) X7.out.bl.size (fun k hk => by injection hk with hk; omega))
        have OR := Lib.hid (show ((w'.setCell ⟨w.heap.size, 0, none⟩ (.int .i16 0)).setCell ⟨w.heap.size, 1, none⟩ (.slice none 0 0)).ownsRow w.heap.size 99 9 (.slice none 0 0) (rrV T.data.toList).ps.length (flN Pl.cells (rrV T.data.toList).ps) from by rw [NO.out.1]; exact ⟨rfl, .inl ⟨rfl, rfl⟩⟩)
        go_wp2
        have q0' := PR.out.c0
        have q1' := PR.out.c1
        exact bodyPost_ret (v := .tuple #[.agg #[.int .i16 0, (.slice none 0 0)], .int .i64 5]) (by simp [results, Tryd.results37, go_sem, q0', q1']) rfl (readsRk_mk (.slice none 0 0) (by rw [NO.out.1, NO.out.2]; rfl) OR.out GR.out)
    have c2 : wr.cell? ⟨w.heap.size + 1, 2, none⟩ = some .nilIface := XR.out.rd.c2
    have ne := fun W => nilEq W
    have AE := Lib.hid (atEnd_any (w.heap.size + 1) T q false y wr XR.out.rd)
    by_cases hq : q = T.size
    · have EN := Lib.hid (fun f2 h2 => preR_end (f2 := f2) PM.out (.inr (.inl hq)) h2)
      rw [decide_eq_true hq] at AE
      clear hq
      go_wp2_with fail
      refine AE.out.mono ?_
      rintro e w4 ⟨rfl, h4⟩
      have X4 := Lib.hid (XR.out.bx' HE.out HR.out h4)
      clear h4 c2
      have b0 := X4.out.bx.c0
      have b1 := X4.out.bx.c1
      have VC := Lib.hid (validRack_any ⟨n, ps⟩ (.slice A5 ps.length cap5) WF.out w4 s i X4.out.er (ResN.of Pl.nine X4.out.ow rfl).slice (by dsimp only; omega))
      go_wp2_with fail
      refine VC.out.mono ?_
      rintro e w6 ⟨rfl, h6⟩
      have X6 := Lib.hid (X4.out.bx' HE.out HR.out h6)
      clear h6 b0 b1 VC
      cases hvr : rkB ⟨n, ps⟩
      · have NO := Lib.hid (rr_no (show ∀ r, ¬ RcP T.data.toList r from by
          rcases EN.out true (by rw [hvr]; simp) with ⟨h, _⟩ | ⟨_, h⟩
          · cases h
          · exact h))
        clear hvr EN
        go_wp2_with fail
        refine (fail_any (w.heap.size + 1) T q false y w6 X6.out.rd X6.out.es.cy).mono ?_
        rintro e w7 ⟨rfl, r7, g7⟩
        have X7 := Lib.hid (X6.out.nx HE.out HR.out g7 r7)
        clear r7 g7
        have k2 : w7.cell? ⟨w.heap.size + 1, 2, none⟩ = some (.iface 166 (.pointer (some y))) := X7.out.rd.c2
        go_wp2_with fail
        refine (codeOf_syn w7 s y X7.out.es).mono ?_
        rintro e w' ⟨rfl, rfl⟩
        clear k2
        have r0 := X7.out.rb.c0
        have r1 := X7.out.rb.c1
        have fz := X7.out.rb.fz
        have PR := Lib.hid (X7.out.rb.all 0 (.slice none 0 0))
        have GR := Lib.hid (X7.out.bl.grown (grR w.heap.size 0 (.slice none 0 0)) X7.out.bl.size (fun k hk => by injection hk with hk; omega))
        have OR := Lib.hid (show ((w'.setCell ⟨w.heap.size, 0, none⟩ (.int .i16 0)).setCell ⟨w.heap.size, 1, none⟩ (.slice none 0 0)).ownsRow w.heap.size 99 9 (.slice none 0 0) (rrV T.data.toList).ps.length (flN Pl.cells (rrV T.data.toList).ps) from by rw [NO.out.1]; exact ⟨rfl, .inl ⟨rfl, rfl⟩⟩)
        go_wp2
        have q0' := PR.out.c0
        have q1' := PR.out.c1
        exact bodyPost_ret (v := .tuple #[.agg #[.int .i16 0, (.slice none 0 0)], .int .i64 5]) (by simp [results, Tryd.results37, go_sem, q0', q1']) rfl (readsRk_mk (.slice none 0 0) (by rw [NO.out.1, NO.out.2]; rfl) OR.out GR.out)
      · have YE := Lib.hid (rr_yes (show RcP T.data.toList ⟨n, ps⟩ from by
          rcases EN.out false (by rw [hvr]; simp) with ⟨_, h⟩ | ⟨h, _⟩
          · exact h
          · cases h))
        clear hvr EN
        have k2 : w6.cell? ⟨w.heap.size + 1, 2, none⟩ = some .nilIface := X6.out.rd.c2
        have nn := fun W => nilNeq W
        have c0 := X6.out.bx.c0
        have c1 := X6.out.bx.c1
        have r0 := X6.out.rb.c0
        have r1 := X6.out.rb.c1
        have fz := X6.out.rb.fz
        have PR := Lib.hid (X6.out.rb.all n (.slice A5 ps.length cap5))
        have GR := Lib.hid (X6.out.bl.grown (grR w.heap.size n (.slice A5 ps.length cap5)) X6.out.bl.size (fun k hk => by injection hk with hk; omega))
        have OR := Lib.hid (show ((w6.setCell ⟨w.heap.size, 0, none⟩ (.int .i16 n)).setCell ⟨w.heap.size, 1, none⟩ (.slice A5 ps.length cap5)).ownsRow w.heap.size 99 9 (.slice A5 ps.length cap5) (rrV T.data.toList).ps.length (flN Pl.cells (rrV T.data.toList).ps) from by rw [YE.out.1]; exact ownMono (ownOther X6.out.ow (grR w.heap.size n (.slice A5 ps.length cap5)) (fun k hk e => by have := (X6.out.ow.lt k hk).1; have := X6.out.hg; injection e with e; omega)) (by have := X6.out.hg; omega))
        go_wp2
        have q0' := PR.out.c0
        have q1' := PR.out.c1
        exact bodyPost_ret (v := .tuple #[.agg #[.int .i16 n, (.slice A5 ps.length cap5)], .int .i64 0]) (by simp [results, Tryd.results37, go_sem, q0', q1']) rfl (readsRk_mk (.slice A5 ps.length cap5) (by rw [YE.out.1, YE.out.2]) OR.out GR.out)
    · have QN := Lib.hid (show restT T q ≠ [] from fun e => by
        have := congrArg List.length e
        rw [restT_len, List.length_nil] at this
        have := XR.out.rd.le
        omega)
      rw [decide_eq_false hq] at AE
      clear hq
      by_cases hl : 60 < ps.length
      · have EN := Lib.hid (fun f2 h2 => preR_end (f2 := f2) PM.out (.inr (.inr hl)) h2)
        have d2 : decide (ps.length ≤ 60) = false := decide_eq_false (by omega)
        have d3 : decide ((ps.length : Int) ≤ 60) = false := decide_eq_false (by omega)
        go_wp2_with fail
        refine AE.out.mono ?_
        rintro e w4 ⟨rfl, h4⟩
        have X4 := Lib.hid (XR.out.bx' HE.out HR.out h4)
        clear h4 c2
        have b0 := X4.out.bx.c0
        have b1 := X4.out.bx.c1
        have VC := Lib.hid (validRack_any ⟨n, ps⟩ (.slice A5 ps.length cap5) WF.out w4 s i X4.out.er (ResN.of Pl.nine X4.out.ow rfl).slice (by dsimp only; omega))
        go_wp2_with fail
        refine VC.out.mono ?_
        rintro e w6 ⟨rfl, h6⟩
        have X6 := Lib.hid (X4.out.bx' HE.out HR.out h6)
        clear h6 b0 b1 VC
        cases hvr : rkB ⟨n, ps⟩
        · have NO := Lib.hid (rr_no (show ∀ r, ¬ RcP T.data.toList r from by
            rcases EN.out true (by rw [hvr]; simp) with ⟨h, _⟩ | ⟨_, h⟩
            · cases h
            · exact h))
          clear hvr EN
          go_wp2_with fail
          refine (fail_any (w.heap.size + 1) T q false y w6 X6.out.rd X6.out.es.cy).mono ?_
          rintro e w7 ⟨rfl, r7, g7⟩
          have X7 := Lib.hid (X6.out.nx HE.out HR.out g7 r7)
          clear r7 g7
          have k2 : w7.cell? ⟨w.heap.size + 1, 2, none⟩ = some (.iface 166 (.pointer (some y))) := X7.out.rd.c2
          go_wp2_with fail
          refine (codeOf_syn w7 s y X7.out.es).mono ?_
          rintro e w' ⟨rfl, rfl⟩
          clear k2
          have r0 := X7.out.rb.c0
          have r1 := X7.out.rb.c1
          have fz := X7.out.rb.fz
          have PR := Lib.hid (X7.out.rb.all 0 (.slice none 0 0))
          have GR := Lib.hid (X7.out.bl.grown (grR w.heap.size 0 (.slice none 0 0)) X7.out.bl.size (fun k hk => by injection hk with hk; omega))
          have OR := Lib.hid (show ((w'.setCell ⟨w.heap.size, 0, none⟩ (.int .i16 0)).setCell ⟨w.heap.size, 1, none⟩ (.slice none 0 0)).ownsRow w.heap.size 99 9 (.slice none 0 0) (rrV T.data.toList).ps.length (flN Pl.cells (rrV T.data.toList).ps) from by rw [NO.out.1]; exact ⟨rfl, .inl ⟨rfl, rfl⟩⟩)
          go_wp2
          have q0' := PR.out.c0
          have q1' := PR.out.c1
          exact bodyPost_ret (v := .tuple #[.agg #[.int .i16 0, (.slice none 0 0)], .int .i64 5]) (by simp [results, Tryd.results37, go_sem, q0', q1']) rfl (readsRk_mk (.slice none 0 0) (by rw [NO.out.1, NO.out.2]; rfl) OR.out GR.out)
        · have YE := Lib.hid (rr_yes (show RcP T.data.toList ⟨n, ps⟩ from by
            rcases EN.out false (by rw [hvr]; simp) with ⟨_, h⟩ | ⟨h, _⟩
            · exact h
            · cases h))
          clear hvr EN
          have k2 : w6.cell? ⟨w.heap.size + 1, 2, none⟩ = some .nilIface := X6.out.rd.c2
          have nn := fun W => nilNeq W
          have c0 := X6.out.bx.c0
          have c1 := X6.out.bx.c1
          have r0 := X6.out.rb.c0
          have r1 := X6.out.rb.c1
          have fz := X6.out.rb.fz
          have PR := Lib.hid (X6.out.rb.all n (.slice A5 ps.length cap5))
          have GR := Lib.hid (X6.out.bl.grown (grR w.heap.size n (.slice A5 ps.length cap5)) X6.out.bl.size (fun k hk => by injection hk with hk; omega))
          have OR := Lib.hid (show ((w6.setCell ⟨w.heap.size, 0, none⟩ (.int .i16 n)).setCell ⟨w.heap.size, 1, none⟩ (.slice A5 ps.length cap5)).ownsRow w.heap.size 99 9 (.slice A5 ps.length cap5) (rrV T.data.toList).ps.length (flN Pl.cells (rrV T.data.toList).ps) from by rw [YE.out.1]; exact ownMono (ownOther X6.out.ow (grR w.heap.size n (.slice A5 ps.length cap5)) (fun k hk e => by have := (X6.out.ow.lt k hk).1; have := X6.out.hg; injection e with e; omega)) (by have := X6.out.hg; omega))
          go_wp2
          have q0' := PR.out.c0
          have q1' := PR.out.c1
          exact bodyPost_ret (v := .tuple #[.agg #[.int .i16 n, (.slice A5 ps.length cap5)], .int .i64 0]) (by simp [results, Tryd.results37, go_sem, q0', q1']) rfl (readsRk_mk (.slice A5 ps.length cap5) (by rw [YE.out.1, YE.out.2]) OR.out GR.out)
      · have d2 : decide (ps.length ≤ 60) = true := decide_eq_true (by omega)
        have d3 : decide ((ps.length : Int) ≤ 60) = true := decide_eq_true (by omega)
        have hk2 : ps.length ≤ 60 := by omega
        clear hl
        have ML := Lib.hid (boxLen_of XR.out.bx)
        go_wp2_with fail
        refine AE.out.mono ?_
        rintro e w2 ⟨rfl, h2⟩
        have X2 := Lib.hid (XR.out.bx' HE.out HR.out h2)
        have b1 := X2.out.bx.c1
        clear h2 c2
        go_wp2_with fail
        refine (short_any (w.heap.size + 1) hne T hT q false y w2 X2.out.rd X2.out.es.cy).mono ?_
        rintro e w3 ⟨a, q3, f3, rfl, hn3, hb3, r3, g3⟩
        have N3 := Lib.hid hn3
        have NA := Lib.hid hb3
        have X3 := Lib.hid (X2.out.nx HE.out HR.out g3 r3)
        clear hn3 hb3 r3 g3 b1
        go_wp2_with fail
        refine (skip_any (w.heap.size + 1) hne T hT q3 f3 y 32 32 rfl w3 X3.out.rd X3.out.es.cy).mono ?_
        rintro e w4 ⟨q4, f4, rfl, hs4, r4, g4⟩
        have T4 := Lib.hid (tokS_of (by decide) N3.out hs4)
        have X4 := Lib.hid (X3.out.nx HE.out HR.out g4 r4)
        clear hs4 r4 g4 N3 X3 X2 AE
        have XD := Lib.hid (X4.out.bx' HE.out HR.out ((Below.refl w4.heap.size w4).drew))
        have t1 : w4.drew.cell? ⟨gb, 1, none⟩ = some (.slice A5 ps.length cap5) := XD.out.bx.c1
        have BK := Lib.hid (book_any (w.heap.size + 1) hne T hT q4 f4 y w4.drew XD.out.rd XD.out.es.cy)
        go_wp2
        go_region_law (first
          | (refine step_append_lies _ (by rfl) (.tmp 28) (.tmp 32) _ (by rfl) (gb + 1) 99 i0 (.agg #[.int .i16 0, .int .i16 0, .int .u8 0, .int .u8 0, .int .u8 0, .int .i16 0, .int .i16 0, .int .i16 0, .int .i16 0]) 9 16 Tryd.underlying58 hi0 hz0 hz1 hz2 rfl (by decide) (.slice A5 ps.length cap5) _ _ (by rfl) X9a.out.ow ⟨w9.heap.size, 0, none⟩ 1 1 [.int .i16 a, .int .i16 b.c, .int .u8 b.m0, .int .u8 b.m1, .int .u8 b.m2, .int .i16 b.v, .int .i16 b.wi, .int .i16 b.hi, .int .i16 b.we] (by rfl) rfl (cell9r _ _ _ _ _ _ _ _ _ _ _) (one9r ⟨a, b⟩) (by decide) (by unfold maxLen; omega) (by omega) (by have := SZ9.out; simp; omega) _ rfl ?_
             intro g4 cap w6 ho4 hg4 ha4 hl4
             have X6 := Lib.hid (X9a.out.ap HE.out HR.out hg4 (ps' := ps ++ [⟨a, b⟩]) (hv' := .slice (some ⟨g4, 0, none⟩) (ps.length + 1) cap) (by rw [flN_snoc, List.length_append]; exact ho4))
             have x4 : w6.cell? ⟨gb, 1, none⟩ = some (.slice A5 ps.length cap5) := (X9a.out.bx.kept hg4 (fun e => by have := (X9a.out.ow.lt _ e.symm).1; omega)).c1
             have f4 := (X9a.out.bx.kept hg4 (fun e => by have := (X9a.out.ow.lt _ e.symm).1; omega)).fz
             clear ho4 hg4 ha4 hl4)
          | (go_simp
             go_at_call 44
             refine BK.out.mono ?_
             rintro e w9 ⟨b, q9, f9, rfl, hb9, hw9, r9, g9⟩
             have H9 := Lib.hid hb9
             have W9 := Lib.hid hw9
             have X9 := Lib.hid (XD.out.nx HE.out HR.out g9 r9)
             have x9 : w9.cell? ⟨gb, 1, none⟩ = some (.slice A5 ps.length cap5) := X9.out.bx.c1
             have SZ9 := Lib.hid X9.out.bx.lt
             have X9a := Lib.hid (X9.out.bx' HE.out HR.out ((Below.refl w9.heap.size w9).alloc (Nat.le_refl _) (.cells #[.int .i16 a, .int .i16 b.c, .int .u8 b.m0, .int .u8 b.m1, .int .u8 b.m2, .int .i16 b.v, .int .i16 b.wi, .int .i16 b.hi, .int .i16 b.we] 99)))
             have x9a : (w9.alloc (.cells #[.int .i16 a, .int .i16 b.c, .int .u8 b.m0, .int .u8 b.m1, .int .u8 b.m2, .int .i16 b.v, .int .i16 b.wi, .int .i16 b.hi, .int .i16 b.we] 99)).cell? ⟨gb, 1, none⟩ = some (.slice A5 ps.length cap5) := X9a.out.bx.c1
             clear hb9 hw9 r9 g9))
        all_goals
          generalize World.setCell _ _ _ = W7 at X6 ⊢
          have PB := Lib.hid (plS_of T4.out H9.out)
          clear x4 f4 x9 x9a t1 X9 X9a BK XD
          go_wp2_with fail
          refine (skip_any (w.heap.size + 1) hne T hT q9 f9 y 10 10 rfl W7 X6.out.rd X6.out.es.cy).mono ?_
          rintro e w8 ⟨q8, f8, rfl, hs8, r8, g8⟩
          have P8 := Lib.hid (preR_step PM.out QN.out PB.out hs8)
          have X8 := Lib.hid (X6.out.nx HE.out HR.out g8 r8)
          clear hs8 r8 g8
          have M8 := boxLen_of X8.out.bx
          have M0 := ML.out
          go_wp2
          refine ⟨⟨ps ++ [⟨a, b⟩], q8, f8, _, by simp; omega, P8.out, ⟨WF.out.n, fun x hx => ?_⟩, X8.out⟩, by rw [M8, M0]; omega⟩
          rcases List.mem_append.1 hx with h | h
          · exact WF.out.ps x h
          · rw [List.mem_singleton] at h
            rw [h]
            exact ⟨by have := NA.out; dsimp only; omega, W9.out⟩
end Go.Proofs.YtkojnepgeegalaaDoor
