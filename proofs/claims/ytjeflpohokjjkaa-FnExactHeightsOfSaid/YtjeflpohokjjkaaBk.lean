/- The books of these proofs as plain data: eight numbers, their cells, their bounds, what is valid of them. No condition. -/
import Derived.Test.YtjeflpohokjjkaaRows
import Derived.WalkKit
import Derived.WalkSpells
import Derived.WalkLawsBesides
import Derived.Handy
import Derived.LoopN
import Derived.Lib.Hide
import Derived.Deep.QuietTactic
import Derived.BigQuiet
namespace Go.Proofs.Ytjeflpohokjjkaa
set_option linter.unusedSimpArgs false
set_option linter.unusedVariables false
set_option maxRecDepth 100000
open Go.RowKit

structure Bk where
  c : Int
  m0 : Int
  m1 : Int
  m2 : Int
  v : Int
  wi : Int
  hi : Int
  we : Int
  deriving DecidableEq, Inhabited

/-- What a book of Go's types holds: its numbers lie within their kinds. -/
structure Bk.Wf (b : Bk) : Prop where
  c : -32768 ≤ b.c ∧ b.c ≤ 32767
  m0 : 0 ≤ b.m0 ∧ b.m0 ≤ 255
  m1 : 0 ≤ b.m1 ∧ b.m1 ≤ 255
  m2 : 0 ≤ b.m2 ∧ b.m2 ≤ 255
  v : -32768 ≤ b.v ∧ b.v ≤ 32767
  wi : -32768 ≤ b.wi ∧ b.wi ≤ 32767
  hi : -32768 ≤ b.hi ∧ b.hi ≤ 32767
  we : -32768 ≤ b.we ∧ b.we ≤ 32767

def Bk.cells (b : Bk) : List Value := [.int .i16 b.c, .int .u8 b.m0, .int .u8 b.m1, .int .u8 b.m2, .int .i16 b.v, .int .i16 b.wi, .int .i16 b.hi, .int .i16 b.we]

/-- The book is valid. -/
def vldB (b : Bk) : Bool := decide ((97 ≤ b.m0 ∧ b.m0 ≤ 122) ∧ (97 ≤ b.m1 ∧ b.m1 ≤ 122) ∧ (97 ≤ b.m2 ∧ b.m2 ≤ 122) ∧ (0 ≤ b.c ∧ b.c ≤ 999) ∧ (1 ≤ b.v ∧ b.v ≤ 99) ∧ (1 ≤ b.wi ∧ b.wi ≤ 100) ∧ (50 ≤ b.hi ∧ b.hi ≤ 400) ∧ (1 ≤ b.we ∧ b.we ≤ 9999))

/-- Old cells and old marks read as before: two rules for the walk. -/
theorem bcell {W w1 : World} (hb : Below W.heap.size W w1) : (∀ b o, b < W.heap.size → w1.cell? ⟨b, o, none⟩ = W.cell? ⟨b, o, none⟩) ∧ (∀ b o, b < W.heap.size → w1.frozen? ⟨b, o, none⟩ = W.frozen? ⟨b, o, none⟩) :=
  ⟨fun b o h => hb.cell (p := ⟨b, o, none⟩) h, fun b o h => hb.frozen (p := ⟨b, o, none⟩) h⟩
/-- What one call more leaves. -/
theorem bnext {W w1 w2 : World} (g : Below W.heap.size W w1) (h : Below w1.heap.size w1 w2) : Below W.heap.size W w2 := g.trans (h.mono g.size)
/-- .. behind new blocks. -/
theorem bnew {W w1 : World} (o : Obj) (h : Below (W.alloc o).heap.size (W.alloc o) w1) : Below W.heap.size W w1 := ((Below.refl _ _).alloc (Nat.le_refl _) _).trans (h.mono (by simp))

def inB (n low high : Int) : Bool := decide (low ≤ n ∧ n ≤ high)

/-! ### the small callees -/
set_option maxHeartbeats 400000 in
theorem l00In_any (n low high : Int) (w : World) :
    Calls Try.prog 24 #[.int .i64 n, .int .i64 low, .int .i64 high] w fun e w' => e = .returned (.bool (inB n low high)) ∧ w = w' := by
  by_cases h1 : low ≤ n
  · by_cases h2 : n ≤ high
    · go_enter Try.func24, Try.ntmps24
      go_wp2
      go_ret
      exact ⟨by simp [inB, h1, h2], rfl⟩
    · go_enter Try.func24, Try.ntmps24
      go_wp2
      go_ret
      exact ⟨by simp [inB, h1, h2], rfl⟩
  · have h1' : n < low := by omega
    go_enter Try.func24, Try.ntmps24
    go_wp2
    go_ret
    exact ⟨by simp [inB, show ¬ low ≤ n from by omega], rfl⟩

end Go.Proofs.Ytjeflpohokjjkaa
