/- The reader, by the program: a letter, a byte that has to come, a numeral: contracts. Condition: the error variable holds an error of errors.New's make; a text no longer than told. -/
import Derived.Test.YtkojnepgeegalaaDoorRd
namespace Go.Proofs.YtkojnepgeegalaaDoor
set_option linter.unusedSimpArgs false
set_option linter.unusedVariables false
set_option maxRecDepth 100000
open Go.RowKit

/-- What reading one byte says. -/
def LetS (T : ByteArray) (p : Nat) (f : Bool) (x : UInt8) (q : Nat) (f' : Bool) : Prop :=
  (restT T p = x :: restT T (p + 1) ∧ q = p + 1 ∧ f' = f) ∨ (restT T p = [] ∧ x = 0 ∧ q = p ∧ f' = true)
set_option maxHeartbeats 1000000 in
theorem letter_any (g : Nat) (hg : g ≠ 0) (T : ByteArray) (hT : T.size ≤ 1048576) (p : Nat) (f : Bool) (y : Addr) (w : World) (h : Rd w g T p f y) (hs : Syn w y) :
    Calls Tryd.prog 71 #[.pointer (some ⟨g, 0, none⟩)] w fun e w' => ∃ (x : UInt8) (q : Nat) (f' : Bool), e = .returned (.int .u8 (x.toNat : Int)) ∧ LetS T p f x q f' ∧ Rd w' g T q f' y ∧ Gr g w w' := by
  have H := Lib.hid h
  have S := Lib.hid hs
  have AE := Lib.hid (atEnd_any g T p f y w h)
  have le := h.le
  clear h hs
  by_cases he : p = T.size
  · rw [decide_eq_true he] at AE
    have ER := Lib.hid (restT_end (T := T) (p := p) (by omega))
    go_enter Tryd.func71, Tryd.ntmps71
    go_wp2_with fail
    refine AE.out.mono ?_
    rintro e w1 ⟨rfl, h1⟩
    have FA := Lib.hid (fail_any g T p f y w1 (H.out.below h1) (S.out.gr (Gr.of (g := g) h1) hg))
    have G1 := Lib.hid (Gr.of (g := g) h1)
    clear h1
    go_wp2_with fail
    refine FA.out.mono ?_
    rintro e w2 ⟨rfl, r2, g2⟩
    have R2 := Lib.hid r2
    have G2 := Lib.hid (G1.out.trans g2)
    clear r2 g2
    go_wp2
    go_ret
    exact ⟨0, p, true, rfl, .inr ⟨ER.out, rfl, rfl, rfl⟩, R2.out, G2.out⟩
  · rw [decide_eq_false he] at AE
    have hlt : p < T.size := by omega
    have ER := Lib.hid (restT_cons hlt)
    go_enter Tryd.func71, Tryd.ntmps71
    go_wp2_with fail
    refine AE.out.mono ?_
    rintro e w1 ⟨rfl, h1⟩
    have r1 := H.out.below h1
    have R1 := Lib.hid r1
    have G1 := Lib.hid (Gr.of (g := g) h1)
    have c1 := r1.c1
    have fz := r1.fz 1
    obtain ⟨q, eq⟩ : ∃ q, q = p + 1 := ⟨_, rfl⟩
    have hw1 : IntKind.i64.wrap ((p : Int) + 1) = (q : Int) := by rw [show (q : Int) = (p : Int) + 1 by omega]; exact IntWalk.i64_in _ (by omega)
    have EQ := Lib.hid eq
    have q1 : q ≤ T.size := by omega
    have hw2 : IntKind.i64.wrap ((q : Int) - 1) = (p : Int) := by rw [show (q : Int) - 1 = (p : Int) by omega]; exact IntWalk.i64_in _ (by omega)
    clear eq
    clear h1 r1
    go_upto_region 5 with (fail)
    have R2 := Lib.hid (R1.out.to (q := q) q1)
    have G2 := Lib.hid (G1.out.set 1 (.int .i64 (q : Int)))
    generalize World.setCell _ _ _ = w2 at R2 G2 ⊢
    have p0 := belowBy_cell R2.out.lt R2.out.c0
    have p1 := belowBy_cell R2.out.lt R2.out.c1
    have i0 : (0 : Int) ≤ (p : Int) := by omega
    have i1 : (p : Int) < (T.size : Int) := by omega
    clear c1 fz hw1
    go_wp2
    refine wp_region_below (by kernel_rfl) (by kernel_rfl) ?_
    iterate 11 (first | go_big_quiet_step (fail) | quiet_step (fail))
    refine wpQuiet_nil ?_
    rintro w3 ⟨⟨_, hq⟩, rfl⟩
    have R3 := Lib.hid (R2.out.below hq)
    have G3 := Lib.hid (G2.out.trans (Gr.of hq))
    clear p0 p1
    go_wp2
    go_ret
    exact ⟨T[p], q, f, rfl, .inl ⟨ER.out, EQ.out, rfl⟩, R3.out, G3.out⟩
/-- What reading the byte that has to come says. -/
def SkipS (T : ByteArray) (p : Nat) (f : Bool) (c : UInt8) (q : Nat) (f' : Bool) : Prop :=
  (restT T p = c :: restT T (p + 1) ∧ q = p + 1 ∧ f' = f) ∨ ((∀ l, restT T p ≠ c :: l) ∧ f' = true)
set_option maxHeartbeats 1000000 in
theorem skip_any (g : Nat) (hg : g ≠ 0) (T : ByteArray) (hT : T.size ≤ 1048576) (p : Nat) (f : Bool) (y : Addr) (c : UInt8) (cv : Int) (hc : cv = (c.toNat : Int)) (w : World) (h : Rd w g T p f y) (hs : Syn w y) :
    Calls Tryd.prog 49 #[.pointer (some ⟨g, 0, none⟩), .int .u8 cv] w fun e w' => ∃ (q : Nat) (f' : Bool), e = .returned (.tuple #[]) ∧ SkipS T p f c q f' ∧ Rd w' g T q f' y ∧ Gr g w w' := by
  subst hc
  have S := Lib.hid hs
  have LE := Lib.hid (letter_any g hg T hT p f y w h hs)
  clear h hs
  go_enter Tryd.func49, Tryd.ntmps49
  go_wp2_with fail
  refine LE.out.mono ?_
  rintro e w1 ⟨x, q, f', rfl, hl, r1, g1⟩
  have R1 := Lib.hid r1
  have G1 := Lib.hid g1
  have HL := Lib.hid hl
  have FA := Lib.hid (fail_any g T q f' y w1 r1 (S.out.gr g1 hg))
  clear r1 g1 hl
  by_cases e : x = c
  · subst e
    have hx := HL.out
    by_cases hend : restT T p = []
    · -- the text has ended: the byte that letter gives is nought
      have hr : f' = true := by
        rcases hx with ⟨h1, _, _⟩ | ⟨_, _, _, h4⟩
        · rw [hend] at h1; cases h1
        · exact h4
      have ES := Lib.hid (show SkipS T p f x q f' from .inr ⟨fun l h => (by rw [hend] at h; cases h), hr⟩)
      clear hx hr
      go_wp2
      exact ⟨rfl, .tuple #[], by simp [results, Tryd.results49, go_sem], q, f', rfl, ES.out, R1.out, G1.out⟩
    · have ES := Lib.hid (show SkipS T p f x q f' from by
        rcases hx with ⟨h1, h2, h3⟩ | ⟨h1, _⟩
        · exact .inl ⟨h1, h2, h3⟩
        · exact absurd h1 hend)
      clear hx
      go_wp2
      exact ⟨rfl, .tuple #[], by simp [results, Tryd.results49, go_sem], q, f', rfl, ES.out, R1.out, G1.out⟩
  · have hb : ((x.toNat : Int) != (c.toNat : Int)) = true := by
      simp only [bne_iff_ne, ne_eq]
      exact fun h => e (UInt8.toNat_inj.1 (by omega))
    have ES := Lib.hid (show SkipS T p f c q true from .inr ⟨fun l h => (by
      rcases HL.out with ⟨h1, _, _⟩ | ⟨h1, _⟩
      · rw [h] at h1; injection h1 with h1; exact e h1.symm
      · rw [h] at h1; cases h1), rfl⟩)
    go_wp2_with fail
    refine FA.out.mono ?_
    rintro e' w2 ⟨rfl, r2, g2⟩
    have R2 := Lib.hid r2
    have G2 := Lib.hid (G1.out.trans g2)
    clear r2 g2
    go_wp2
    exact ⟨rfl, .tuple #[], by simp [results, Tryd.results49, go_sem], q, true, rfl, ES.out, R2.out, G2.out⟩
end Go.Proofs.YtkojnepgeegalaaDoor
