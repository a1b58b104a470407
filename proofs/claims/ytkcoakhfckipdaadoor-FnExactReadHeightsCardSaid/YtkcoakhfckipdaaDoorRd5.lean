/- The reader's last numbers, by the program, whatever its state: a contract. Condition: the error variable holds an error of errors.New's make; a text no longer than told. -/
import Derived.Test.YtkcoakhfckipdaaDoorRd4
namespace Go.Proofs.YtkcoakhfckipdaaDoor
set_option linter.unusedSimpArgs false
set_option linter.unusedVariables false
set_option maxRecDepth 100000
open Go.RowKit

/-- What the last numbers say. -/
def LastF (c : UInt8) (most : Int) (T : ByteArray) (p : Nat) (f0 : Bool) (zs : List Int) (f' : Bool) : Prop :=
  (f' = false ∧ f0 = false ∧ 1 ≤ zs.length ∧ zs.length ≤ 12 ∧ AllIn most zs ∧ restT T p = joinL c (zs.map dec)) ∨ (f' = true ∧ (f0 = false → NoLast c most (restT T p)))
theorem Gr.grown {g : Nat} {a w w' : World} {row : Option Nat} (h : Gr g a w) (k : w.grownBy w' row) (hr : ∀ b, row = some b → a.heap.size ≤ b ∨ b = g) : Gr g a w' :=
  ⟨k.os.trans h.os, k.tape.trans h.tape, k.output.trans h.output, Nat.le_trans h.size k.size, fun b hb hne => (k.block b (Nat.lt_of_lt_of_le hb h.size) (fun e => by
    rcases hr b e.symm with h1 | h1
    · omega
    · exact hne (by rw [h1]))).trans (h.block b hb hne)⟩
theorem al_snoc {most n : Int} {zs : List Int} {T : ByteArray} {p q : Nat} {f f' : Bool} (hm : 0 ≤ most ∧ most ≤ 1000000) (h : AllIn most zs) (hn : NumR T p f most n q f') : AllIn most (zs ++ [n]) := fun z hz => by
  rcases List.mem_append.1 hz with h1 | h1
  · exact h z h1
  · rw [List.mem_singleton] at h1
    rw [h1]
    rcases hn with ⟨h2, _⟩ | ⟨_, h2, _⟩
    · exact ⟨h2.2.2.1, h2.2.2.2⟩
    · rw [h2]; exact ⟨Int.le_refl _, hm.1⟩
set_option maxHeartbeats 8000000 in
theorem lastNumbers_all (g : Nat) (hg : g ≠ 0) (T : ByteArray) (hT : T.size ≤ 1048576) (p : Nat) (y : Addr) (c : UInt8) (hc : isDig c = false) (most : Int) (hm : 0 ≤ most ∧ most ≤ 1000000) (f0 : Bool) (w : World) (h : Rd w g T p f0 y) (hs : Syn w y) :
    Calls Tryd.prog 61 #[.pointer (some ⟨g, 0, none⟩), .int .u8 (c.toNat : Int), .int .i64 most] w fun e w' => ∃ (u : Value) (zs : List Int) (q : Nat) (f' : Bool), e = .returned u ∧ LastF c most T p f0 zs f' ∧ AllIn most zs ∧ zs.length ≤ 12 ∧ w'.ownsRow w.heap.size 2 1 u zs.length (zs.map (Value.int .i64)) ∧ Rd w' g T q f' y ∧ Gr g w w' := by
  obtain ⟨i0, hi0, hz0, hz1, hz2⟩ := info_parts infoI64
  have S := Lib.hid hs
  have H := Lib.hid h
  have h0 := World.block_lt_of_cell? _ _ hs
  have H0 := Lib.hid h0
  have HC := Lib.hid hc
  clear h hs hc h0
  go_enter Tryd.func61, Tryd.ntmps61
  go_wp2
  go_loopw [7] (fun v wr => ∃ (zs : List Int) (q : Nat) (f : Bool), zs.length ≤ 12 ∧ AllIn most zs ∧ ((f = false ∧ f0 = false ∧ restT T p = flatC c zs ++ restT T q) ∨ (f = true ∧ (f0 = false → NoLast c most (restT T p)))) ∧ wr.ownsRow w.heap.size 2 1 v zs.length (zs.map (Value.int .i64)) ∧ Rd wr g T q f y ∧ Syn wr y ∧ Gr g w wr) (fun v _ => 13 - lenV v)
  case atStart => exact ⟨[], p, f0, Nat.zero_le _, fun _ h => (by simp at h), (by cases f0; exact .inl ⟨rfl, rfl, rfl⟩; exact .inr ⟨rfl, fun h => by cases h⟩), ⟨rfl, .inl ⟨rfl, rfl⟩⟩, H.out, S.out, Gr.refl _ _⟩
  case round =>
    obtain ⟨zs, q, f, h12, ha, hst, ho, r, sy, hb⟩ := hrel
    have AL := Lib.hid ha
    have ST := Lib.hid hst
    have OW := Lib.hid ho
    have R := Lib.hid r
    have SY := Lib.hid sy
    have HB := Lib.hid hb
    have zr := hb.size
    have h0 : 0 < w.heap.size := H0.out
    clear ha hst ho r sy hb
    have FA := Lib.hid (fail_any g T q f y wr R.out SY.out)
    cases f
    · have hr : restT T p = flatC c zs ++ restT T q := by
        rcases ST.out with h | h
        · exact h.2.2
        · exact absurd h.1 (by decide)
      have HR := Lib.hid hr
      have F0 := Lib.hid (show f0 = false from by
        rcases ST.out with h | h
        · exact h.2.1
        · exact absurd h.1 (by decide))
      have c2 : wr.cell? ⟨g, 2, none⟩ = some .nilIface := R.out.c2
      have ne := fun W => nilEq W
      obtain ⟨A7, cap7, rfl⟩ := own_sl OW.out
      clear hr
      by_cases hk : zs.length < 12
      · have hk2 : (zs.length : Int) < 12 := by omega
        have gd : decide ((zs.length : Int) < 12) = true := decide_eq_true hk2
        have NU := Lib.hid (number_any g hg T hT q false y most hm wr R.out SY.out)
        go_wp2_with fail
        refine NU.out.mono ?_
        rintro e w1 ⟨n, q1, f1, rfl, hn, r1, g1⟩
        have HN := Lib.hid hn
        have R1 := Lib.hid r1
        have S1 := Lib.hid (SY.out.gr g1 hg)
        have O1 := Lib.hid (ownOther OW.out g1 (fun k hk e => own_not R.out OW.out k hk (by injection e)))
        have B1 := Lib.hid (HB.out.trans g1)
        have z1 := g1.size
        have RX := Lib.hid (r1.below ((Below.refl w1.heap.size w1).alloc (Nat.le_refl _) (.cells #[.int .i64 n] 2)))
        have SX := Lib.hid (show Syn (w1.alloc (.cells #[.int .i64 n] 2)) y from S1.out.gr (Gr.of (g := g) ((Below.refl w1.heap.size w1).alloc (Nat.le_refl _) _)) hg)
        have OX := Lib.hid (show (w1.alloc (.cells #[.int .i64 n] 2)).ownsRow w.heap.size 2 1 (.slice A7 zs.length cap7) zs.length (zs.map (Value.int .i64)) from O1.out.alloc _)
        have BX := Lib.hid (show Gr g w (w1.alloc (.cells #[.int .i64 n] 2)) from B1.out.trans (Gr.of ((Below.refl w1.heap.size w1).alloc (Nat.le_refl _) _)))
        clear hn r1 g1 c2
        go_wp2_with (at_builtin; refine wpList_append_own _ rfl (.tmp 18) (.tmp 22) _ rfl w.heap.size 2 i0 (.int .i64 0) 1 8 Tryd.underlying35 hi0 hz0 hz1 hz2 rfl (by decide) _ _ _ rfl OX.out ⟨w1.heap.size, 0, none⟩ 1 1 [.int .i64 n] rfl rfl (cellNew1 w1 _ _) ?d2a ?d3a ?d4a ?d5a ?_)
        case d2a => (intro u hu; simp at hu; subst hu; rfl)
        case d3a => (unfold maxLen; omega)
        case d4a => omega
        case d5a => (simp; omega)
        intro v3 w3 hown3 hgrow3 _
        have O3 := Lib.hid (show w3.ownsRow w.heap.size 2 1 v3 (zs ++ [n]).length ((zs ++ [n]).map (Value.int .i64)) by
          rw [List.length_append, List.length_singleton, List.map_append]
          exact hown3)
        have R3 := Lib.hid (RX.out.kept hgrow3 (fun e => own_not RX.out OX.out g e.symm rfl))
        have S3 := Lib.hid (SX.out.kept hgrow3 (fun e => by have := (OX.out.lt _ e).1; omega))
        have B3 := Lib.hid (BX.out.grown hgrow3 (fun k hk => .inl (OX.out.lt k hk).1))
        have z3 := B3.out.size
        have zw : w1.heap.size ≤ w3.heap.size := by have := hgrow3.size; simp at this; omega
        have AE := Lib.hid (atEnd_any g T q1 f1 y w3 R3.out)
        clear hown3 hgrow3 gd hk2 ne
        by_cases hend : q1 = T.size
        · rw [decide_eq_true hend] at AE
          have HE := Lib.hid (show restT T q1 = [] from restT_end (by omega))
          have LS := Lib.hid (show LastF c most T p f0 (zs ++ [n]) f1 from by
            rcases HN.out with ⟨h1, _, h3⟩ | ⟨h1, _, h3⟩
            · refine .inl ⟨h3, F0.out, by rw [List.length_append, List.length_singleton]; omega, by rw [List.length_append, List.length_singleton]; omega, fun z hz => ?_, ?_⟩
              · rcases List.mem_append.1 hz with h | h
                · exact AL.out z h
                · rw [List.mem_singleton] at h; rw [h]; exact ⟨h1.2.2.1, h1.2.2.2⟩
              · rw [join_flat, HR.out, h1.1, HE.out, List.append_nil]
            · exact .inr ⟨h3, fun _ => noLast_num HC.out AL.out HR.out h1⟩)
          have AL2 := Lib.hid (al_snoc hm AL.out HN.out)
          clear hend
          go_wp2_with fail
          refine AE.out.mono ?_
          rintro e w4 ⟨rfl, h4⟩
          have R4 := Lib.hid (R3.out.below h4)
          have O4 := Lib.hid (ownBelow O3.out h4)
          have B4 := Lib.hid (B3.out.trans (Gr.of h4))
          clear h4
          go_wp2
          go_ret
          exact ⟨_, zs ++ [n], q1, f1, rfl, LS.out, AL2.out, by rw [List.length_append, List.length_singleton]; omega, O4.out, R4.out, B4.out⟩
        · rw [decide_eq_false hend] at AE
          have NE := Lib.hid (show restT T q1 ≠ [] from fun e => by
            have := congrArg List.length e
            rw [restT_len, List.length_nil] at this
            have := R3.out.le
            omega)
          clear hend
          go_wp2_with fail
          refine AE.out.mono ?_
          rintro e w4 ⟨rfl, h4⟩
          have O4 := Lib.hid (ownBelow O3.out h4)
          have B4 := Lib.hid (B3.out.trans (Gr.of h4))
          have S4 := Lib.hid (S3.out.gr (Gr.of (g := g) h4) hg)
          have R4 := Lib.hid (R3.out.below h4)
          have z4 := h4.size
          have SK := Lib.hid (skip_any g hg T hT q1 f1 y c _ rfl w4 R4.out S4.out)
          clear h4
          go_wp2_with fail
          refine SK.out.mono ?_
          rintro e w5 ⟨q2, f2, rfl, hs5, r5, g5⟩
          have O5 := Lib.hid (ownOther O4.out g5 (fun k hk e => own_not R4.out O4.out k hk (by injection e)))
          have B5 := Lib.hid (B4.out.trans g5)
          have S5 := Lib.hid (S4.out.gr g5 hg)
          have AL2 := Lib.hid (al_snoc hm AL.out HN.out)
          have ST2 := Lib.hid (show (f2 = false ∧ f0 = false ∧ restT T p = flatC c (zs ++ [n]) ++ restT T q2) ∨ (f2 = true ∧ (f0 = false → NoLast c most (restT T p))) from by
            rcases HN.out with ⟨h1, _, h3⟩ | ⟨h1, _, h3⟩
            · rcases hs5 with ⟨k1, k2, k3⟩ | ⟨k1, k2⟩
              · refine .inl ⟨k3.trans h3, F0.out, ?_⟩
                rw [HR.out, h1.1, flatC_snoc, k1, k2]
                simp only [List.append_assoc, List.singleton_append]
              · exact .inr ⟨k2, fun _ => noLast_skip HC.out AL.out HR.out h1 NE.out k1⟩
            · have hn := noLast_num HC.out AL.out HR.out h1
              rcases hs5 with ⟨_, _, k3⟩ | ⟨_, k2⟩
              · exact .inr ⟨k3.trans h3, fun _ => hn⟩
              · exact .inr ⟨k2, fun _ => hn⟩)
          have R5 := Lib.hid r5
          obtain ⟨A9, cap9, e9⟩ := own_sl O5.out
          have E9 := Lib.hid e9
          clear hs5 r5 g5 e9
          go_wp2
          exact ⟨⟨zs ++ [n], q2, f2, by rw [List.length_append, List.length_singleton]; omega, AL2.out, ST2.out, O5.out, R5.out, S5.out, B5.out⟩, by rw [E9.out]; simp only [lenV, List.length_append, List.length_singleton]; omega⟩
      · have gd : decide ((zs.length : Int) < 12) = false := decide_eq_false (by omega)
        have NL := Lib.hid (noLast_many HC.out AL.out HR.out (by omega))
        go_wp2_with fail
        refine FA.out.mono ?_
        rintro e w4 ⟨rfl, r4, g4⟩
        have R4 := Lib.hid r4
        have B4 := Lib.hid (HB.out.trans g4)
        clear r4 g4
        go_wp2
        go_ret
        exact ⟨_, [], q, true, rfl, .inr ⟨rfl, fun _ => NL.out⟩, (fun _ h => by simp at h), by simp, ⟨rfl, .inl ⟨rfl, rfl⟩⟩, R4.out, B4.out⟩
    · have NL := Lib.hid (show f0 = false → NoLast c most (restT T p) from by
        rcases ST.out with h | h
        · exact absurd h.1 (by decide)
        · exact h.2)
      have c2 : wr.cell? ⟨g, 2, none⟩ = some (.iface 185 (.pointer (some y))) := R.out.c2
      go_wp2_with fail
      refine FA.out.mono ?_
      rintro e w4 ⟨rfl, r4, g4⟩
      have R4 := Lib.hid r4
      have B4 := Lib.hid (HB.out.trans g4)
      clear r4 g4
      go_wp2
      go_ret
      exact ⟨_, [], q, true, rfl, .inr ⟨rfl, NL.out⟩, (fun _ h => by simp at h), by simp, ⟨rfl, .inl ⟨rfl, rfl⟩⟩, R4.out, B4.out⟩
end Go.Proofs.YtkcoakhfckipdaaDoor
