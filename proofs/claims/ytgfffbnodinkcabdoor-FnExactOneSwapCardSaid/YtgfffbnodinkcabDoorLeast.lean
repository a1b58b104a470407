/- How many moves are needed, by the model and by the program: contracts. Condition: at most 1048576 books, whose numbers lie within their kinds. -/
import Derived.Test.YtgfffbnodinkcabDoorKept
import Derived.Test.YtgfffbnodinkcabDoorSpecKept
namespace Go.Proofs.YtgfffbnodinkcabDoor
set_option linter.unusedSimpArgs false
set_option linter.unusedVariables false
set_option maxRecDepth 100000
open Go.RowKit

def lmR (xs : List Bk) : Int := if okB xs then (xs.length : Int) - ((keptL xs).length : Int) else 0
def lmCode (xs : List Bk) : Int := if okB xs then 0 else 1

set_option maxHeartbeats 2000000 in
theorem leastMoves_any (b o c : Nat) (xs : List Bk) (wf : ∀ b ∈ xs, b.Wf) (w : World) (hs : SliceOf w (.slice (some ⟨b, o, none⟩) xs.length c) xs) (hcap : xs.length ≤ c) (hm : xs.length ≤ maxLen) :
    Calls Tryd.prog 42 #[.slice (some ⟨b, o, none⟩) xs.length c] w fun e w' => e = .returned (.tuple #[.int .i64 (lmR xs), .int .i64 (lmCode xs)]) ∧ Below w.heap.size w w' := by
  have HS := Lib.hid hs
  have WF := Lib.hid wf
  clear wf hs
  cases hk : okB xs
  · have E0 := Lib.hid (show lmR xs = 0 by unfold lmR; rw [hk]; rfl)
    have E1 := Lib.hid (show lmCode xs = 1 by unfold lmCode; rw [hk]; rfl)
    go_enter Tryd.func42, Tryd.ntmps42
    go_wp2_with fail
    refine (validBooks_any _ xs _ HS.out hm).mono ?_
    rintro e w1 ⟨rfl, h1⟩
    rw [hk]
    go_wp2
    go_ret2
    exact ⟨by rw [E0.out, E1.out]; rfl, h1⟩
  · have E0 := Lib.hid (show lmR xs = (xs.length : Int) - ((keptL xs).length : Int) by unfold lmR; rw [hk]; rfl)
    have E1 := Lib.hid (show lmCode xs = 0 by unfold lmCode; rw [hk]; rfl)
    have h60 : xs.length ≤ 60 := by unfold okB at hk; simp at hk; exact hk.2
    have kl := keptL_len xs
    go_enter Tryd.func42, Tryd.ntmps42
    go_wp2_with fail
    refine (validBooks_any _ xs _ HS.out hm).mono ?_
    rintro e w1 ⟨rfl, h1⟩
    rw [hk]
    clear hk
    go_wp2_with fail
    refine (keptOf_any b o c xs WF.out _ (HS.out.below h1) hcap h60).mono ?_
    rintro e w2 ⟨u, rfl, ho, h2⟩
    obtain ⟨A2, c2, rfl⟩ := vlen_own1 ho
    generalize (keptL xs).length = d at *
    have n1 : IntKind.i64.wrap ((xs.length : Int) - (d : Int)) = (xs.length : Int) - (d : Int) := IntWalk.i64_in _ (by omega)
    clear ho
    go_wp2
    go_ret2
    exact ⟨by rw [E0.out, E1.out]; rfl, bnext h1 h2⟩

end Go.Proofs.YtgfffbnodinkcabDoor
