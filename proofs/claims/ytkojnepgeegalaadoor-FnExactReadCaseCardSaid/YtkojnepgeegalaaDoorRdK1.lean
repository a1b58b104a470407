/- ReadCase, by the program: a contract. Condition: the two error variables hold two different errors of errors.New's make; a text no longer than told. -/
import Derived.Test.YtkojnepgeegalaaDoorRdK0
namespace Go.Proofs.YtkojnepgeegalaaDoor
set_option linter.unusedSimpArgs false
set_option linter.unusedVariables false
set_option maxRecDepth 100000
open Go.RowKit

/-- A case in a block of its own. -/
def KB (W : World) (g : Nat) (a b : Int) (hv : Value) : Prop := W.heap[g]? = some (.cells #[.int .i16 a, .int .i32 b, hv] 53 (0, 0))
section
variable {W W' : World} {g k : Nat} {a b : Int} {hv : Value}
theorem KB.lt (h : KB W g a b hv) : g < W.heap.size := (Array.getElem?_eq_some_iff.1 h).1
theorem KB.gr (h : KB W g a b hv) (hg : Gr k W W') (hne : g ≠ k) : KB W' g a b hv := (hg.block g h.lt (fun e => hne (by injection e))).trans h
theorem KB.kept {row : Option Nat} (h : KB W g a b hv) (hg : W.grownBy W' row) (hne : some g ≠ row) : KB W' g a b hv := (hg.block g h.lt hne).trans h
theorem KB.below (h : KB W g a b hv) (hb : Below W.heap.size W W') : KB W' g a b hv := (hb.block g h.lt).trans h
theorem KB.fz (h : KB W g a b hv) (i : Nat) : W.frozen? ⟨g, i, none⟩ = false := frozen_of_row W g i _ _ h
theorem KB.c0 (h : KB W g a b hv) : W.cell? ⟨g, 0, none⟩ = some (.int .i16 a) := cell_of_row W g 0 _ _ _ h
theorem KB.c1 (h : KB W g a b hv) : W.cell? ⟨g, 1, none⟩ = some (.int .i32 b) := cell_of_row W g 1 _ _ _ h
theorem KB.c2 (h : KB W g a b hv) : W.cell? ⟨g, 2, none⟩ = some hv := cell_of_row W g 2 _ _ _ h
theorem KB.s0 (h : KB W g a b hv) (z : Int) : KB (W.setCell ⟨g, 0, none⟩ (.int .i16 z)) g z b hv := by
  unfold KB at *
  rw [heap_setCell_same _ _ _ _ _ _ h]
  rfl
theorem KB.s1 (h : KB W g a b hv) (z : Int) : KB (W.setCell ⟨g, 1, none⟩ (.int .i32 z)) g a z hv := by
  unfold KB at *
  rw [heap_setCell_same _ _ _ _ _ _ h]
  rfl
theorem KB.s2 (h : KB W g a b hv) (z : Value) : KB (W.setCell ⟨g, 2, none⟩ z) g a b z := by
  unfold KB at *
  rw [heap_setCell_same _ _ _ _ _ _ h]
  rfl
theorem KB.all (h : KB W g a b hv) (x y : Int) (z : Value) : KB (((W.setCell ⟨g, 0, none⟩ (.int .i16 x)).setCell ⟨g, 1, none⟩ (.int .i32 y)).setCell ⟨g, 2, none⟩ z) g x y z := by
  unfold KB at *
  have h1 := heap_setCell_same _ _ 0 _ _ (.int .i16 x) h
  have h2 := heap_setCell_same _ _ 1 _ _ (.int .i32 y) h1
  have h3 := heap_setCell_same _ _ 2 _ _ z h2
  simpa using h3
end
theorem grK {W : World} (g : Nat) (x y : Int) (z : Value) : Gr g W (((W.setCell ⟨g, 0, none⟩ (.int .i16 x)).setCell ⟨g, 1, none⟩ (.int .i32 y)).setCell ⟨g, 2, none⟩ z) := (((Gr.refl g W).set 0 _).set 1 _).set 2 _
/-- Where ReadCase stands: the result's box, the reader, the case's box. -/
structure CRt (w W : World) (T : ByteArray) (s y : Addr) (q : Nat) (f : Bool) (a b : Int) (hv : Value) : Prop where
  rb : KB W w.heap.size 0 0 (.slice none 0 0)
  rd : Rd W (w.heap.size + 1) T q f y
  bx : KB W (w.heap.size + 2) a b hv
  es : Es2 W s y
  bl : Below w.heap.size w W
section
variable {w W W' : World} {T : ByteArray} {s y : Addr} {q q' : Nat} {f f' : Bool} {a b : Int} {hv : Value}
theorem CRt.nx (he : Es2 w s y) (h : CRt w W T s y q f a b hv) (hg : Gr (w.heap.size + 1) W W') (r : Rd W' (w.heap.size + 1) T q' f' y) : CRt w W' T s y q' f' a b hv := by
  have b2 := h.bl.grown hg h.bl.size (fun k hk => by injection hk with hk; omega)
  exact ⟨h.rb.gr hg (by omega), r, h.bx.gr hg (by omega), he.below b2, b2⟩
theorem CRt.bx' (he : Es2 w s y) (h : CRt w W T s y q f a b hv) (hb : Below W.heap.size W W') : CRt w W' T s y q f a b hv := h.nx he (Gr.of hb) (h.rd.below hb)
theorem CRt.wx (he : Es2 w s y) (h : CRt w W T s y q f a b hv) (hg : Gr (w.heap.size + 2) W W') {a' b' : Int} {hv' : Value} (hx : KB W' (w.heap.size + 2) a' b' hv') : CRt w W' T s y q f a' b' hv' := by
  have b2 := h.bl.grown hg h.bl.size (fun k hk => by injection hk with hk; omega)
  exact ⟨h.rb.gr hg (by omega), h.rd.gr hg (by omega), hx, he.below b2, b2⟩
theorem crt_start (w : World) (T : ByteArray) (s y : Addr) (he : Es2 w s y) : CRt w (((w.alloc (.cells #[.int .i16 0, .int .i32 0, (.slice none 0 0)] 53)).alloc (.cells #[.string T, .int .i64 0, .nilIface] 76)).alloc (.cells #[.int .i16 0, .int .i32 0, (.slice none 0 0)] 53)) T s y 0 false 0 0 (.slice none 0 0) := by
  have b0 := (((Below.refl w.heap.size w).alloc (Nat.le_refl _) (.cells #[.int .i16 0, .int .i32 0, (.slice none 0 0)] 53)).alloc (by simp) (.cells #[.string T, .int .i64 0, .nilIface] 76)).alloc (by simp; omega) (.cells #[.int .i16 0, .int .i32 0, (.slice none 0 0)] 53)
  have h1 := heap_alloc2_old w (.cells #[.int .i16 0, .int .i32 0, (.slice none 0 0)] 53) (.cells #[.string T, .int .i64 0, .nilIface] 76)
  have h2 := heap_alloc2_new w (.cells #[.int .i16 0, .int .i32 0, (.slice none 0 0)] 53) (.cells #[.string T, .int .i64 0, .nilIface] 76)
  have b3 := (Below.refl _ ((w.alloc (.cells #[.int .i16 0, .int .i32 0, (.slice none 0 0)] 53)).alloc (.cells #[.string T, .int .i64 0, .nilIface] 76))).alloc (Nat.le_refl _) (.cells #[.int .i16 0, .int .i32 0, (.slice none 0 0)] 53)
  have h3 := heap_alloc_new ((w.alloc (.cells #[.int .i16 0, .int .i32 0, (.slice none 0 0)] 53)).alloc (.cells #[.string T, .int .i64 0, .nilIface] 76)) (.cells #[.int .i16 0, .int .i32 0, (.slice none 0 0)] 53)
  refine ⟨(b3.block _ (Array.getElem?_eq_some_iff.1 h1).1).trans h1, ⟨(b3.block _ (Array.getElem?_eq_some_iff.1 h2).1).trans h2, Nat.zero_le _⟩, ?_, he.below b0, b0⟩
  simpa [KB] using h3
end
theorem cs_wf {a b : Int} {zs : List Int} (h1 : 0 ≤ a ∧ a ≤ 2000) (h2 : 0 ≤ b ∧ b ≤ 200000) (h3 : AllIn 2000 zs) : (⟨a, b, zs⟩ : Cs).Wf := by
  refine ⟨by dsimp only; omega, by dsimp only; omega, fun h hh => ?_⟩
  have := h3 h hh
  omega
/-- What ReadCase leaves. -/
def ReadsCs (c : Cs) (k : Int) (w : World) (e : Ending) (w' : World) : Prop := ∃ u, e = .returned (.tuple #[.agg #[.int .i16 c.wi, .int .i32 c.lo, u], .int .i64 k]) ∧ w'.ownsRow w.heap.size 22 1 u c.hs.length (c.hs.map (Value.int .i16)) ∧ Below w.heap.size w w'
theorem readsCs_mk {c : Cs} {k : Int} {w w' : World} {e : Ending} (u : Value) (h1 : e = .returned (.tuple #[.agg #[.int .i16 c.wi, .int .i32 c.lo, u], .int .i64 k])) (h2 : w'.ownsRow w.heap.size 22 1 u c.hs.length (c.hs.map (Value.int .i16))) (h3 : Below w.heap.size w w') : ReadsCs c k w e w' := ⟨u, h1, h2, h3⟩
set_option maxHeartbeats 8000000 in
theorem readCase_any (T : ByteArray) (hT : T.size ≤ 1048576) (w : World) (s y : Addr) (he : Es2 w s y) :
    Calls Tryd.prog 32 #[.string T] w (ReadsCs (rcV T.data.toList) (rcK T.data.toList) w) := by
  have hl0 := World.block_lt_of_cell? _ _ he.cy
  have hne : w.heap.size + 1 ≠ 0 := fun e => by
    have h2 : (0 : Nat) < w.heap.size := hl0
    omega
  have X0 := Lib.hid (crt_start w T s y he)
  have HE := Lib.hid he
  clear he
  go_enter Tryd.func32, Tryd.ntmps32
  go_upto_region 3 with (fail)
  generalize World.alloc _ _ = W0 at X0 ⊢
  go_wp2_with fail
  refine (number_any (w.heap.size + 1) hne T hT 0 false y 2000 (by omega) W0 X0.out.rd X0.out.es.cy).mono ?_
  rintro e w1 ⟨a, q0, f0, rfl, hn, r1, g1⟩
  have na := num_in (by omega) hn
  have N1 := Lib.hid hn
  have X1 := Lib.hid (X0.out.nx HE.out g1 r1)
  have c0 := X1.out.bx.c0
  have fz := X1.out.bx.fz 0
  have hw : IntKind.i16.wrap a = a := IntWalk.i16_in _ (by omega)
  have Y1 := Lib.hid (X1.out.wx HE.out ((Gr.refl (w.heap.size + 2) w1).set 0 (.int .i16 a)) (X1.out.bx.s0 a))
  clear hn r1 g1
  go_upto_region 4 with (fail)
  generalize World.setCell _ _ _ = W1 at Y1 ⊢
  clear c0 fz hw
  go_wp2_with fail
  refine (skip_any (w.heap.size + 1) hne T hT q0 f0 y 32 32 rfl W1 Y1.out.rd Y1.out.es.cy).mono ?_
  rintro e w2 ⟨q1, f1, rfl, hk, r2, g2⟩
  have K1 := Lib.hid (tokM_of N1.out hk)
  have X2 := Lib.hid (Y1.out.nx HE.out g2 r2)
  clear hk r2 g2
  go_wp2_with fail
  refine (number_any (w.heap.size + 1) hne T hT q1 f1 y 200000 (by omega) w2 X2.out.rd X2.out.es.cy).mono ?_
  rintro e w3 ⟨b, q2, f2, rfl, hn, r3, g3⟩
  have nb := num_in (by omega) hn
  have N3 := Lib.hid hn
  have X3 := Lib.hid (X2.out.nx HE.out g3 r3)
  have c1 := X3.out.bx.c1
  have fz := X3.out.bx.fz 1
  have hw : IntKind.i32.wrap b = b := IntWalk.i32_in _ (by omega)
  have Y3 := Lib.hid (X3.out.wx HE.out ((Gr.refl (w.heap.size + 2) w3).set 1 (.int .i32 b)) (X3.out.bx.s1 b))
  clear hn r3 g3
  go_upto_region 6 with (fail)
  generalize World.setCell _ _ _ = W3 at Y3 ⊢
  clear c1 fz hw
  go_wp2_with fail
  refine (skip_any (w.heap.size + 1) hne T hT q2 f2 y 32 32 rfl W3 Y3.out.rd Y3.out.es.cy).mono ?_
  rintro e w4 ⟨q3, f3, rfl, hk, r4, g4⟩
  have K3 := Lib.hid (tokM_of N3.out hk)
  have X4 := Lib.hid (Y3.out.nx HE.out g4 r4)
  have z4 : w.heap.size + 2 < w4.heap.size := X4.out.bx.lt
  clear hk r4 g4
  go_wp2_with fail
  refine (lastNumbers16 (w.heap.size + 1) hne T hT q3 y 32 (by decide) 1000 (by omega) f3 w4 X4.out.rd X4.out.es.cy).mono ?_
  rintro e w5 ⟨u, zs, q4, f4, rfl, hls, hal, h12, ho, r5, g5⟩
  obtain ⟨Au, cu, rfl⟩ := own_sl ho
  have LS := Lib.hid hls
  have HAL := Lib.hid hal
  have X5 := Lib.hid (X4.out.nx HE.out g5 r5)
  have O5 := Lib.hid ho
  obtain ⟨cs, hcs⟩ : ∃ cs : Cs, cs = ⟨a, b, zs⟩ := ⟨_, rfl⟩
  have CE := Lib.hid (show ∀ f : Bool, f = (f4 || !caseB cs) → (f = false ∧ CsP T.data.toList cs) ∨ (f = true ∧ ∀ c', ¬ CsP T.data.toList c') from by rw [hcs]; exact fun f h => case_end K1.out K3.out hls h)
  have HC := Lib.hid hcs
  have c2 := X5.out.bx.c2
  have fz := X5.out.bx.fz 2
  have Y5 := Lib.hid (X5.out.wx HE.out ((Gr.refl (w.heap.size + 2) w5).set 2 (.slice Au zs.length cu)) (X5.out.bx.s2 (.slice Au zs.length cu)))
  have OWN5 := Lib.hid (ownOther ho ((Gr.refl (w.heap.size + 2) w5).set 2 (.slice Au zs.length cu)) (fun k hk e => by have := (ho.lt k hk).1; injection e with e; omega))
  clear hls hal ho r5 g5 hcs
  go_upto_region 8 with (fail)
  generalize World.setCell _ _ _ = W5 at Y5 OWN5 ⊢
  clear c2 fz
  have c0 := Y5.out.bx.c0
  have c1 := Y5.out.bx.c1
  have c2 := Y5.out.bx.c2
  have VC := Lib.hid (show Calls Tryd.prog 57 #[.agg #[.int .i16 a, .int .i32 b, (.slice Au zs.length cu)]] W5 fun e w' => e = .returned (.bool (caseB cs)) ∧ Below W5.heap.size W5 w' from by
    have h := validCase_any cs (.slice Au zs.length cu) W5 (by rw [HC.out]; exact ownInts OWN5.out) (by rw [HC.out]; show zs.length ≤ maxLen; unfold maxLen; omega)
    rw [HC.out] at h ⊢
    exact h)
  go_wp2_with fail
  refine VC.out.mono ?_
  rintro e w6 ⟨rfl, h6⟩
  have X6 := Lib.hid (Y5.out.bx' HE.out h6)
  have O6 := Lib.hid (ownBelow OWN5.out h6)
  clear h6 c0 c1 c2 VC
  cases hv : caseB cs
  · rw [hv] at CE
    have EN := Lib.hid (CE.out true (by simp))
    clear hv
    go_wp2_with fail
    refine (fail_any (w.heap.size + 1) T q4 f4 y w6 X6.out.rd X6.out.es.cy).mono ?_
    rintro e w7 ⟨rfl, r7, g7⟩
    have X7 := Lib.hid (X6.out.nx HE.out g7 r7)
    clear r7 g7
    have hno : ∀ c', ¬ CsP T.data.toList c' := by
      rcases EN.out with ⟨h, _⟩ | ⟨_, h⟩
      · cases h
      · exact h
    have NO := Lib.hid (rc_no hno)
    have k2 : w7.cell? ⟨w.heap.size + 1, 2, none⟩ = some (.iface 166 (.pointer (some y))) := X7.out.rd.c2
    clear hno
    go_wp2_with fail
    refine (codeOf_syn w7 s y X7.out.es).mono ?_
    rintro e w' ⟨rfl, rfl⟩
    clear k2
    have r0 := X7.out.rb.c0
    have r1 := X7.out.rb.c1
    have r2 := X7.out.rb.c2
    have fz := X7.out.rb.fz
    have PR := Lib.hid (X7.out.rb.all 0 0 (.slice none 0 0))
    have GR := Lib.hid (X7.out.bl.grown (grK w.heap.size 0 0 (.slice none 0 0)) X7.out.bl.size (fun k hk => by injection hk with hk; omega))
    have OR := Lib.hid (show (((w'.setCell ⟨w.heap.size, 0, none⟩ (.int .i16 0)).setCell ⟨w.heap.size, 1, none⟩ (.int .i32 0)).setCell ⟨w.heap.size, 2, none⟩ (.slice none 0 0)).ownsRow w.heap.size 22 1 (.slice none 0 0) (rcV T.data.toList).hs.length ((rcV T.data.toList).hs.map (Value.int .i16)) from by rw [NO.out.1]; exact ⟨rfl, .inl ⟨rfl, rfl⟩⟩)
    go_wp2
    have q0' := PR.out.c0
    have q1' := PR.out.c1
    have q2' := PR.out.c2
    exact bodyPost_ret (v := .tuple #[.agg #[.int .i16 0, .int .i32 0, (.slice none 0 0)], .int .i64 5]) (by simp [results, Tryd.results32, go_sem, q0', q1', q2']) rfl (readsCs_mk (.slice none 0 0) (by rw [NO.out.1, NO.out.2]; rfl) OR.out GR.out)
  · rw [hv] at CE
    have EN := Lib.hid (CE.out f4 (by simp))
    clear hv
    rcases EN.out with ⟨rfl, hp⟩ | ⟨rfl, hno⟩
    · have YE := Lib.hid (rc_yes hp)
      have k2 : w6.cell? ⟨w.heap.size + 1, 2, none⟩ = some .nilIface := X6.out.rd.c2
      have nn := fun W => nilNeq W
      clear hp
      have c0 := X6.out.bx.c0
      have c1 := X6.out.bx.c1
      have c2 := X6.out.bx.c2
      have r0 := X6.out.rb.c0
      have r1 := X6.out.rb.c1
      have r2 := X6.out.rb.c2
      have fz := X6.out.rb.fz
      have PR := Lib.hid (X6.out.rb.all a b (.slice Au zs.length cu))
      have GR := Lib.hid (X6.out.bl.grown (grK w.heap.size a b (.slice Au zs.length cu)) X6.out.bl.size (fun k hk => by injection hk with hk; omega))
      have OR := Lib.hid (show (((w6.setCell ⟨w.heap.size, 0, none⟩ (.int .i16 a)).setCell ⟨w.heap.size, 1, none⟩ (.int .i32 b)).setCell ⟨w.heap.size, 2, none⟩ (.slice Au zs.length cu)).ownsRow w.heap.size 22 1 (.slice Au zs.length cu) (rcV T.data.toList).hs.length ((rcV T.data.toList).hs.map (Value.int .i16)) from by rw [YE.out.1, HC.out]; exact ownMono (ownOther O6.out (grK w.heap.size a b (.slice Au zs.length cu)) (fun k hk e => by have := (O6.out.lt k hk).1; injection e with e; omega)) (by omega))
      go_wp2
      have q0' := PR.out.c0
      have q1' := PR.out.c1
      have q2' := PR.out.c2
      exact bodyPost_ret (v := .tuple #[.agg #[.int .i16 a, .int .i32 b, (.slice Au zs.length cu)], .int .i64 0]) (by simp [results, Tryd.results32, go_sem, q0', q1', q2']) rfl (readsCs_mk (.slice Au zs.length cu) (by rw [YE.out.1, YE.out.2, HC.out]) OR.out GR.out)
    · have NO := Lib.hid (rc_no hno)
      have k2 : w6.cell? ⟨w.heap.size + 1, 2, none⟩ = some (.iface 166 (.pointer (some y))) := X6.out.rd.c2
      clear hno
      go_wp2_with fail
      refine (codeOf_syn w6 s y X6.out.es).mono ?_
      rintro e w' ⟨rfl, rfl⟩
      clear k2
      have r0 := X6.out.rb.c0
      have r1 := X6.out.rb.c1
      have r2 := X6.out.rb.c2
      have fz := X6.out.rb.fz
      have PR := Lib.hid (X6.out.rb.all 0 0 (.slice none 0 0))
      have GR := Lib.hid (X6.out.bl.grown (grK w.heap.size 0 0 (.slice none 0 0)) X6.out.bl.size (fun k hk => by injection hk with hk; omega))
      have OR := Lib.hid (show (((w'.setCell ⟨w.heap.size, 0, none⟩ (.int .i16 0)).setCell ⟨w.heap.size, 1, none⟩ (.int .i32 0)).setCell ⟨w.heap.size, 2, none⟩ (.slice none 0 0)).ownsRow w.heap.size 22 1 (.slice none 0 0) (rcV T.data.toList).hs.length ((rcV T.data.toList).hs.map (Value.int .i16)) from by rw [NO.out.1]; exact ⟨rfl, .inl ⟨rfl, rfl⟩⟩)
      go_wp2
      have q0' := PR.out.c0
      have q1' := PR.out.c1
      have q2' := PR.out.c2
      exact bodyPost_ret (v := .tuple #[.agg #[.int .i16 0, .int .i32 0, (.slice none 0 0)], .int .i64 5]) (by simp [results, Tryd.results32, go_sem, q0', q1', q2']) rfl (readsCs_mk (.slice none 0 0) (by rw [NO.out.1, NO.out.2]; rfl) OR.out GR.out)
end Go.Proofs.YtkojnepgeegalaaDoor
