/- A short number, by the reader: a contract; a reader that stands apart from what grows. Condition: the error variable holds an error of errors.New's make; a text no longer than told. -/
import Derived.Test.YtkojnepgeegalaaDoorRd3
import Derived.Test.YtkojnepgeegalaaDoorRdL
import Derived.Test.YtkojnepgeegalaaDoorRd5
import Derived.Test.YtkojnepgeegalaaDoorRdY
namespace Go.Proofs.YtkojnepgeegalaaDoor
set_option linter.unusedSimpArgs false
set_option linter.unusedVariables false
set_option maxRecDepth 100000
open Go.RowKit

set_option maxHeartbeats 1000000 in
theorem short_any (g : Nat) (hg : g ≠ 0) (T : ByteArray) (hT : T.size ≤ 1048576) (p : Nat) (f : Bool) (y : Addr) (w : World) (h : Rd w g T p f y) (hs : Syn w y) :
    Calls Tryd.prog 63 #[.pointer (some ⟨g, 0, none⟩)] w fun e w' => ∃ (n : Int) (q : Nat) (f' : Bool), e = .returned (.int .i16 n) ∧ NumR T p f 9999 n q f' ∧ (0 ≤ n ∧ n ≤ 9999) ∧ Rd w' g T q f' y ∧ Gr g w w' := by
  have NU := Lib.hid (number_any g hg T hT p f y 9999 (by omega) w h hs)
  clear h hs
  go_enter Tryd.func63, Tryd.ntmps63
  go_wp2_with fail
  refine NU.out.mono ?_
  rintro e w1 ⟨n, q, f', rfl, hn, r1, g1⟩
  have nb : 0 ≤ n ∧ n ≤ 9999 := by
    rcases hn with ⟨h1, _⟩ | ⟨_, h1, _⟩
    · exact ⟨h1.2.2.1, h1.2.2.2⟩
    · omega
  have NB := Lib.hid nb
  have HN := Lib.hid hn
  have R1 := Lib.hid r1
  have G1 := Lib.hid g1
  have hw : IntKind.i16.wrap n = n := IntWalk.i16_in _ (by omega)
  clear hn r1 g1 nb
  go_wp2
  go_ret
  exact ⟨n, q, f', rfl, HN.out, NB.out, R1.out, G1.out⟩
theorem Rd.gr {W W' : World} {k g : Nat} {T : ByteArray} {p : Nat} {f : Bool} {y : Addr} (h : Rd W g T p f y) (hg : Gr k W W') (hne : g ≠ k) : Rd W' g T p f y :=
  h.kept hg (fun e => hne (by injection e))
end Go.Proofs.YtkojnepgeegalaaDoor
