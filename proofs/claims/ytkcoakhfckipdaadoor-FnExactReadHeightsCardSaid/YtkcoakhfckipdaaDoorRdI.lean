/- ReadHeights, by the program: a contract. Condition: the two error variables hold two different errors of errors.New's make; a text no longer than told. -/
import Derived.Test.YtkcoakhfckipdaaDoorRdH
namespace Go.Proofs.YtkcoakhfckipdaaDoor
set_option linter.unusedSimpArgs false
set_option linter.unusedVariables false
set_option maxRecDepth 100000
open Go.RowKit

theorem PB.gr {W W' : World} {k g : Nat} {a b c : Int} (h : PB W k a b c) (hg : Gr g W W') (hne : k ≠ g) : PB W' k a b c := by
  unfold PB at *
  exact (hg.block k (Array.getElem?_eq_some_iff.1 h).1 (fun e => hne (by injection e))).trans h
theorem Rd.gr {W W' : World} {k g : Nat} {T : ByteArray} {p : Nat} {f : Bool} {y : Addr} (h : Rd W g T p f y) (hg : Gr k W W') (hne : g ≠ k) : Rd W' g T p f y :=
  h.kept hg (fun e => hne (by injection e))
/-- Where a reader of pegs stands: the result's box, the reader, the pegs' box. -/
structure RSt (w W : World) (T : ByteArray) (s y : Addr) (q : Nat) (f : Bool) (a b c : Int) : Prop where
  rb : PB W w.heap.size 0 0 0
  rd : Rd W (w.heap.size + 1) T q f y
  px : PB W (w.heap.size + 2) a b c
  es : Es2 W s y
  bl : Below w.heap.size w W
section
variable {w W W' : World} {T : ByteArray} {s y : Addr} {q q' : Nat} {f f' : Bool} {a b c : Int}
theorem es_of (he : Es2 w s y) (h : Below w.heap.size w W) : Es2 W s y := he.below h
theorem RSt.gr (he : Es2 w s y) (h : RSt w W T s y q f a b c) (hg : Gr (w.heap.size + 1) W W') (r : Rd W' (w.heap.size + 1) T q' f' y) : RSt w W' T s y q' f' a b c := by
  have b2 := h.bl.grown hg h.bl.size (fun k hk => by injection hk with hk; omega)
  exact ⟨h.rb.gr hg (by omega), r, h.px.gr hg (by omega), he.below b2, b2⟩
theorem RSt.nxt (he : Es2 w s y) (h : RSt w W T s y q f a b c) (hg : Below W.heap.size W W') : RSt w W' T s y q f a b c := h.gr he (Gr.of hg) (h.rd.below hg)
theorem RSt.s0 (he : Es2 w s y) (h : RSt w W T s y q f a b c) (z : Int) : RSt w (W.setCell ⟨w.heap.size + 2, 0, none⟩ (.int .i16 z)) T s y q f z b c := by
  have b2 := h.bl.setCell (p := ⟨w.heap.size + 2, 0, none⟩) (by simp) (.int .i16 z)
  exact ⟨h.rb.far (by omega) _ _, h.rd.gr ((Gr.refl _ _).set 0 _) (by omega), h.px.set0 z, he.below b2, b2⟩
theorem RSt.s1 (he : Es2 w s y) (h : RSt w W T s y q f a b c) (z : Int) : RSt w (W.setCell ⟨w.heap.size + 2, 1, none⟩ (.int .i16 z)) T s y q f a z c := by
  have b2 := h.bl.setCell (p := ⟨w.heap.size + 2, 1, none⟩) (by simp) (.int .i16 z)
  exact ⟨h.rb.far (by omega) _ _, h.rd.gr ((Gr.refl _ _).set 1 _) (by omega), h.px.set1 z, he.below b2, b2⟩
theorem RSt.s2 (he : Es2 w s y) (h : RSt w W T s y q f a b c) (z : Int) : RSt w (W.setCell ⟨w.heap.size + 2, 2, none⟩ (.int .i16 z)) T s y q f a b z := by
  have b2 := h.bl.setCell (p := ⟨w.heap.size + 2, 2, none⟩) (by simp) (.int .i16 z)
  exact ⟨h.rb.far (by omega) _ _, h.rd.gr ((Gr.refl _ _).set 2 _) (by omega), h.px.set2 z, he.below b2, b2⟩
end
theorem rst_start (w : World) (T : ByteArray) (s y : Addr) (he : Es2 w s y) : RSt w (((w.alloc (.cells #[.int .i16 0, .int .i16 0, .int .i16 0] 64)).alloc (.cells #[.string T, .int .i64 0, .nilIface] 86)).alloc (.cells #[.int .i16 0, .int .i16 0, .int .i16 0] 64)) T s y 0 false 0 0 0 := by
  have b0 := (((Below.refl w.heap.size w).alloc (Nat.le_refl _) (.cells #[.int .i16 0, .int .i16 0, .int .i16 0] 64)).alloc (by simp) (.cells #[.string T, .int .i64 0, .nilIface] 86)).alloc (by simp; omega) (.cells #[.int .i16 0, .int .i16 0, .int .i16 0] 64)
  refine ⟨?_, ⟨?_, Nat.zero_le _⟩, ?_, he.below b0, b0⟩
  · exact (heap_alloc_old _ _ (by simp <;> omega)).trans (heap_alloc2_old w _ _)
  · exact (heap_alloc_old _ _ (by simp)).trans (heap_alloc2_new w _ _)
  · have h := heap_alloc_new ((w.alloc (.cells #[.int .i16 0, .int .i16 0, .int .i16 0] 64)).alloc (.cells #[.string T, .int .i64 0, .nilIface] 86)) (.cells #[.int .i16 0, .int .i16 0, .int .i16 0] 64)
    rw [show ((w.alloc (.cells #[.int .i16 0, .int .i16 0, .int .i16 0] 64)).alloc (.cells #[.string T, .int .i64 0, .nilIface] 86)).heap.size = w.heap.size + 2 by simp] at h
    exact h
/-- A row of numbers is no box of pegs. -/
theorem tPb : (64 : Nat) ≠ 2 := by decide
theorem own_off {w : World} {g : Nat} {a b c : Int} (h : PB w g a b c) {B n : Nat} {v : Value} {xs : List Value} (ho : w.ownsRow B 2 1 v n xs) : ∀ k, v.ownBlock = some k → some k ≠ some g := by
  intro k hk e
  rcases ho.2 with ⟨rfl, _⟩ | ⟨g', cap, cur, rfl, e2, e3, e4⟩
  · exact absurd hk (by simp [Value.ownBlock])
  · have e5 : g' = k := by simpa [Value.ownBlock] using hk
    injection e with e
    rw [e5, e] at e3
    unfold PB at h
    rw [h] at e3
    injection e3 with e3
    injection e3 with _ e6 _
    exact tPb e6
theorem htP_other {L : List UInt8} {a b c : Int} {zs : List Int} (hL : L = joinL 32 (([a, b, c] ++ zs).map dec)) (hn : AllIn 9999 ([a, b, c] ++ zs)) (hk : hsB ⟨a, b, c⟩ zs = false) : ∀ p zs', ¬ HtP L p zs' := fun p zs' e => by
  have hs : splitL 32 L = ([a, b, c] ++ zs).map dec := by rw [hL]; exact split_dec (by decide) (by simp)
  have h1 := map_dec_inj _ _ (fun z hz => (hn z hz).1) (fun z hz => (e.all.1 z hz).1) (hs.symm.trans e.split)
  obtain ⟨x, y, t⟩ := p
  simp only [List.cons_append, List.nil_append, List.cons.injEq] at h1
  obtain ⟨rfl, rfl, rfl, rfl⟩ := h1
  rw [e.ok] at hk
  cases hk
set_option maxHeartbeats 4000000 in
theorem readHeights_any (T : ByteArray) (hT : T.size ≤ 1048576) (w : World) (s y : Addr) (he : Es2 w s y) :
    Calls Tryd.prog 44 #[.string T] w fun e w' => ∃ u, e = .returned (.tuple #[.agg #[.int .i16 (rhP T.data.toList).lo, .int .i16 (rhP T.data.toList).st, .int .i16 (rhP T.data.toList).bo], u, .int .i64 (rhC T.data.toList)]) ∧ w'.ownsRow w.heap.size 2 1 u (rhZ T.data.toList).length ((rhZ T.data.toList).map (Value.int .i64)) ∧ Below w.heap.size w w' := by
  have hl0 := World.block_lt_of_cell? _ _ he.cy
  have hne : w.heap.size + 1 ≠ 0 := fun e => by
    have h2 : (0 : Nat) < w.heap.size := hl0
    omega
  have X0 := Lib.hid (rst_start w T s y he)
  have HE := Lib.hid he
  have P0 := Lib.hid (show PreH T.data.toList [] T 0 false from .inl ⟨rfl, rfl, fun _ h => (by simp at h)⟩)
  clear he
  go_enter Tryd.func44, Tryd.ntmps44
  go_upto_region 3 with (fail)
  generalize World.alloc _ _ = W0 at X0 ⊢
  go_wp2_with fail
  refine (short_any (w.heap.size + 1) hne T hT 0 false y W0 X0.out.rd X0.out.es.cy).mono ?_
  rintro e w1 ⟨n1, q1, f1, rfl, hn1, nb1, r1, g1⟩
  have N1 := Lib.hid hn1
  have B1 := Lib.hid nb1
  have X1 := Lib.hid (X0.out.gr HE.out g1 r1)
  have c0 := X1.out.px.c0
  have fz := X1.out.px.fz 0
  have Y1 := Lib.hid (X1.out.s0 HE.out n1)
  clear hn1 nb1 r1 g1
  go_wp2_with fail
  clear c0 fz
  refine (skip_any (w.heap.size + 1) hne T hT q1 f1 y 32 32 rfl _ Y1.out.rd Y1.out.es.cy).mono ?_
  rintro e w2 ⟨q2, f2, rfl, hs2, r2, g2⟩
  have P1 := Lib.hid (preH_step P0.out (by simp) N1.out hs2)
  have X2 := Lib.hid (Y1.out.gr HE.out g2 r2)
  clear hs2 r2 g2
  go_wp2_with fail
  refine (short_any (w.heap.size + 1) hne T hT q2 f2 y w2 X2.out.rd X2.out.es.cy).mono ?_
  rintro e w3 ⟨n2, q3, f3, rfl, hn3, nb3, r3, g3⟩
  have N3 := Lib.hid hn3
  have B3 := Lib.hid nb3
  have X3 := Lib.hid (X2.out.gr HE.out g3 r3)
  have c0 := X3.out.px.c1
  have fz := X3.out.px.fz 1
  have Y3 := Lib.hid (X3.out.s1 HE.out n2)
  clear hn3 nb3 r3 g3
  go_wp2_with fail
  clear c0 fz
  refine (skip_any (w.heap.size + 1) hne T hT q3 f3 y 32 32 rfl _ Y3.out.rd Y3.out.es.cy).mono ?_
  rintro e w4 ⟨q4, f4, rfl, hs4, r4, g4⟩
  have P2 := Lib.hid (preH_step P1.out (by simp) N3.out hs4)
  have X4 := Lib.hid (Y3.out.gr HE.out g4 r4)
  clear hs4 r4 g4
  go_wp2_with fail
  refine (short_any (w.heap.size + 1) hne T hT q4 f4 y w4 X4.out.rd X4.out.es.cy).mono ?_
  rintro e w5 ⟨n3, q5, f5, rfl, hn5, nb5, r5, g5⟩
  have N5 := Lib.hid hn5
  have B5 := Lib.hid nb5
  have X5 := Lib.hid (X4.out.gr HE.out g5 r5)
  have c0 := X5.out.px.c2
  have fz := X5.out.px.fz 2
  have Y5 := Lib.hid (X5.out.s2 HE.out n3)
  clear hn5 nb5 r5 g5
  go_wp2_with fail
  clear c0 fz
  refine (skip_any (w.heap.size + 1) hne T hT q5 f5 y 32 32 rfl _ Y5.out.rd Y5.out.es.cy).mono ?_
  rintro e w6 ⟨q6, f6, rfl, hs6, r6, g6⟩
  have P3 := Lib.hid (preH_step P2.out (by simp) N5.out hs6)
  have X6 := Lib.hid (Y5.out.gr HE.out g6 r6)
  clear hs6 r6 g6
  go_wp2_with fail
  refine (lastNumbers_all (w.heap.size + 1) hne T hT q6 y 32 (by decide) 1000 (by omega) f6 w6 X6.out.rd X6.out.es.cy).mono ?_
  rintro e w7 ⟨u, zs, q7, f7, rfl, hl7, hz7, hk7, ho7, r7, g7⟩
  have PL := Lib.hid (preH_last P3.out hl7)
  have AZ := Lib.hid (wf_all hz7)
  have HZ := Lib.hid hz7
  have X7 := Lib.hid (X6.out.gr HE.out g7 r7)
  have O7 := Lib.hid (ownMono ho7 X6.out.bl.size)
  have c0 := X7.out.px.c0
  have c1 := X7.out.px.c1
  have c2 := X7.out.px.c2
  clear hl7 hz7 ho7 r7 g7
  go_wp2_with fail
  have nb1 := B1.out
  have nb3 := B3.out
  have nb5 := B5.out
  refine (validHeights_any ⟨n1, n2, n3⟩ ⟨by show -32768 ≤ n1 ∧ n1 ≤ 32767; omega, by show -32768 ≤ n2 ∧ n2 ≤ 32767; omega, by show -32768 ≤ n3 ∧ n3 ≤ 32767; omega⟩ u zs AZ.out w7 (ownInts O7.out) (by unfold maxLen; omega)).mono ?_
  rintro e w8 ⟨rfl, h8⟩
  have X8 := Lib.hid (X7.out.nxt HE.out h8)
  have O8 := Lib.hid (ownBelow O7.out h8)
  clear h8 c0 c1 c2
  cases hk : hsB ⟨n1, n2, n3⟩ zs
  · have NO := Lib.hid (rh_no (L := T.data.toList) (by
      rcases PL.out with ⟨_, eL⟩ | ⟨_, h⟩
      · exact htP_other eL (fun z hz => by
          rcases List.mem_append.1 hz with h | h
          · simp only [List.mem_cons, List.not_mem_nil, or_false] at h
            rcases h with rfl | rfl | rfl <;> omega
          · have := HZ.out z h; omega) hk
      · exact h))
    go_wp2_with fail
    refine (fail_any (w.heap.size + 1) T q7 f7 y w8 X8.out.rd X8.out.es.cy).mono ?_
    rintro e w9 ⟨rfl, r9, g9⟩
    have X9 := Lib.hid (X8.out.gr HE.out g9 r9)
    have O9 := Lib.hid (ownOther O8.out g9 (fun k hk e => own_not X8.out.rd O8.out k hk (by injection e)))
    clear r9 g9
    have k2 : w9.cell? ⟨w.heap.size + 1, 2, none⟩ = some (.iface 185 (.pointer (some y))) := X9.out.rd.c2
    go_wp2_with fail
    refine (codeOf_syn w9 s y X9.out.es).mono ?_
    rintro e w' ⟨rfl, rfl⟩
    have a0 := X9.out.rb.c0; have a1 := X9.out.rb.c1; have a2 := X9.out.rb.c2
    have fz := X9.out.rb.fz
    clear k2
    go_wp2
    refine bodyPost_ret (v := .tuple #[.agg #[.int .i16 0, .int .i16 0, .int .i16 0], .slice none 0 0, .int .i64 5]) (by simp [results, Tryd.results44, go_sem, a0, a1, a2]) rfl ⟨_, by rw [NO.out.1, NO.out.2.2]; rfl, by rw [NO.out.2.1]; exact ⟨rfl, .inl ⟨rfl, rfl⟩⟩, ?_⟩
    exact (Below.setCell (Below.setCell (Below.setCell X9.out.bl (p := ⟨w.heap.size, 0, none⟩) (Nat.le_refl _) _) (p := ⟨w.heap.size, 1, none⟩) (Nat.le_refl _) _) (p := ⟨w.heap.size, 2, none⟩) (Nat.le_refl _) _)
  · rcases PL.out with ⟨rfl, eL⟩ | ⟨rfl, h⟩
    · have YE := Lib.hid (rh_yes (L := T.data.toList) (p := ⟨n1, n2, n3⟩) ⟨hk, eL⟩)
      have k2 : w8.cell? ⟨w.heap.size + 1, 2, none⟩ = some .nilIface := X8.out.rd.c2
      have nn := fun W => nilNeq W
      have c0 := X8.out.px.c0
      have c1 := X8.out.px.c1
      have c2 := X8.out.px.c2
      have a0 := X8.out.rb.c0; have a1 := X8.out.rb.c1; have a2 := X8.out.rb.c2
      have fz := X8.out.rb.fz
      clear hk eL
      go_wp2
      refine bodyPost_ret (v := .tuple #[.agg #[.int .i16 n1, .int .i16 n2, .int .i16 n3], u, .int .i64 0]) (by simp [results, Tryd.results44, go_sem, a0, a1, a2]) rfl ⟨u, by rw [YE.out.1, YE.out.2.2], ?_, ?_⟩
      · rw [YE.out.2.1]
        exact ownOther (ownOther (ownOther O8.out ((Gr.refl w.heap.size w8).set 0 _) (own_off X8.out.rb O8.out)) ((Gr.refl w.heap.size _).set 1 _) (own_off (X8.out.rb.set0 n1) (ownOther O8.out ((Gr.refl w.heap.size w8).set 0 _) (own_off X8.out.rb O8.out)))) ((Gr.refl w.heap.size _).set 2 _) (own_off ((X8.out.rb.set0 n1).set1 n2) (ownOther (ownOther O8.out ((Gr.refl w.heap.size w8).set 0 _) (own_off X8.out.rb O8.out)) ((Gr.refl w.heap.size _).set 1 _) (own_off (X8.out.rb.set0 n1) (ownOther O8.out ((Gr.refl w.heap.size w8).set 0 _) (own_off X8.out.rb O8.out)))))
      · exact (Below.setCell (Below.setCell (Below.setCell X8.out.bl (p := ⟨w.heap.size, 0, none⟩) (Nat.le_refl _) _) (p := ⟨w.heap.size, 1, none⟩) (Nat.le_refl _) _) (p := ⟨w.heap.size, 2, none⟩) (Nat.le_refl _) _)
    · have NO := Lib.hid (rh_no h)
      have k2 : w8.cell? ⟨w.heap.size + 1, 2, none⟩ = some (.iface 185 (.pointer (some y))) := X8.out.rd.c2
      go_wp2_with fail
      refine (codeOf_syn w8 s y X8.out.es).mono ?_
      rintro e w' ⟨rfl, rfl⟩
      have a0 := X8.out.rb.c0; have a1 := X8.out.rb.c1; have a2 := X8.out.rb.c2
      have fz := X8.out.rb.fz
      clear k2
      go_wp2
      refine bodyPost_ret (v := .tuple #[.agg #[.int .i16 0, .int .i16 0, .int .i16 0], .slice none 0 0, .int .i64 5]) (by simp [results, Tryd.results44, go_sem, a0, a1, a2]) rfl ⟨_, by rw [NO.out.1, NO.out.2.2]; rfl, by rw [NO.out.2.1]; exact ⟨rfl, .inl ⟨rfl, rfl⟩⟩, ?_⟩
      exact (Below.setCell (Below.setCell (Below.setCell X8.out.bl (p := ⟨w.heap.size, 0, none⟩) (Nat.le_refl _) _) (p := ⟨w.heap.size, 1, none⟩) (Nat.le_refl _) _) (p := ⟨w.heap.size, 2, none⟩) (Nat.le_refl _) _)
end Go.Proofs.YtkcoakhfckipdaaDoor
