/- Texts as lists of bytes: numerals, the text of a book, texts of one's own in memory. Condition: numbers are none below nought. -/
import Derived.Test.YtkojnepgeegalaaDoorDecB
import Derived.Lib.UnsafeStr
import Derived.Lib.ItoaLen
namespace Go.Proofs.YtkojnepgeegalaaDoor
set_option linter.unusedSimpArgs false
set_option linter.unusedVariables false
set_option maxRecDepth 100000
open Go.RowKit

/-- A numeral. -/
def dec (z : Int) : List UInt8 := Lib.decDigits z.toNat
theorem itoa_dec {z : Int} (h : 0 ≤ z) : Lib.itoa z = dec z := by
  unfold Lib.itoa dec
  rw [if_neg (by omega)]
def strOf (l : List UInt8) : ByteArray := ⟨l.toArray⟩
theorem strOf_size (l : List UInt8) : (strOf l).size = l.length := by simp [strOf, ByteArray.size]
theorem strOf_cat (a b : List UInt8) : strOf a ++ strOf b = strOf (a ++ b) := by
  apply ByteArray.ext
  simp [strOf, ByteArray.data_append]
theorem strOf_nil : strOf [] = ⟨#[]⟩ := rfl
theorem strCells_of (l : List UInt8) : Lib.strCells (strOf l) = Lib.byteCells l := rfl
/-- A text of one's own. -/
def Txt (w : World) (B : Nat) (v : Value) (L : List UInt8) : Prop := w.ownsRow B 5 1 v L.length (Lib.byteCells L)
theorem Txt.nil (w : World) (B : Nat) : Txt w B (.slice none 0 0) [] := ⟨rfl, .inl ⟨rfl, rfl⟩⟩
theorem Txt.below {w w' : World} {B : Nat} {v : Value} {L : List UInt8} (h : Txt w B v L) (hb : Below w.heap.size w w') : Txt w' B v L := by
  obtain ⟨h1, h2⟩ := h
  refine ⟨h1, ?_⟩
  rcases h2 with h | ⟨g, cap, cur, e1, e2, e3, e4⟩
  · exact .inl h
  · exact .inr ⟨g, cap, cur, e1, e2, (hb.block g (Array.getElem?_eq_some_iff.1 e3).1).trans e3, e4⟩
end Go.Proofs.YtkojnepgeegalaaDoor
