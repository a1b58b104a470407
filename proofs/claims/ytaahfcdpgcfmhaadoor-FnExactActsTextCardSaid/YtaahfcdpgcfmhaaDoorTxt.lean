/- Texts as lists of bytes: numerals, the text of a book, texts of one's own in memory. Condition: numbers are none below nought. -/
import Derived.Test.YtaahfcdpgcfmhaaDoorDecB
import Derived.Lib.UnsafeStr
import Derived.Lib.ItoaLen
namespace Go.Proofs.YtaahfcdpgcfmhaaDoor
set_option linter.unusedSimpArgs false
set_option linter.unusedVariables false
set_option maxRecDepth 100000
open Go.RowKit

/-- A numeral. -/
def dec (z : Int) : List UInt8 := Lib.decDigits z.toNat
theorem itoa_dec {z : Int} (h : 0 ≤ z) : Lib.itoa z = dec z := by
  unfold Lib.itoa dec
  rw [if_neg (by omega)]
def strOf (l : List UInt8) : ByteArray := ⟨l.toArray⟩
theorem strOf_size (l : List UInt8) : (strOf l).size = l.length := by simp [strOf, ByteArray.size]
theorem strOf_cat (a b : List UInt8) : strOf a ++ strOf b = strOf (a ++ b) := by
  apply ByteArray.ext
  simp [strOf, ByteArray.data_append]
theorem strOf_nil : strOf [] = ⟨#[]⟩ := rfl
theorem strCells_of (l : List UInt8) : Lib.strCells (strOf l) = Lib.byteCells l := rfl
theorem dec_len {z : Int} (h1 : z < 4611686018427387904) : (dec z).length ≤ 20 := by
  unfold dec
  by_cases h : z.toNat < 4611686018427387904
  · exact (decimal_pow 19 z.toNat (by omega) h (by omega)).1
  · omega
theorem dec_any {z : Int} (h0 : 0 ≤ z) (h1 : z < 4611686018427387904) (w : World) : Calls Tryd.prog 129 #[.int .i64 z] w fun e w' => e = .returned (.string (strOf (dec z))) ∧ Below w.heap.size w w' := by
  have := decimal_any z.toNat (by omega) w
  rwa [show ((z.toNat : Nat) : Int) = z by omega] at this
/-- A text of one's own. -/
def Txt (w : World) (B : Nat) (v : Value) (L : List UInt8) : Prop := w.ownsRow B 5 1 v L.length (Lib.byteCells L)
theorem Txt.nil (w : World) (B : Nat) : Txt w B (.slice none 0 0) [] := ⟨rfl, .inl ⟨rfl, rfl⟩⟩
theorem Txt.below {w w' : World} {B : Nat} {v : Value} {L : List UInt8} (h : Txt w B v L) (hb : Below w.heap.size w w') : Txt w' B v L := by
  obtain ⟨h1, h2⟩ := h
  refine ⟨h1, ?_⟩
  rcases h2 with h | ⟨g, cap, cur, e1, e2, e3, e4⟩
  · exact .inl h
  · exact .inr ⟨g, cap, cur, e1, e2, (hb.block g (Array.getElem?_eq_some_iff.1 e3).1).trans e3, e4⟩
theorem Txt.string {w : World} {B : Nat} {v : Value} {L : List UInt8} (h : Txt w B v L) : (convert 121 9 v).run Tryd.prog w = .ok (.string (strOf L)) w := by
  rcases h.2 with ⟨rfl, h0⟩ | ⟨g, cap, cur, rfl, _, _, _⟩
  · have e0 : L = [] := List.eq_nil_of_length_eq_zero h0
    subst e0
    rw [run_convert_bytes_string (P := Tryd.prog) w 121 9 5 none 0 0 Tryd.underlying121 Tryd.underlying5 Tryd.underlying9]
    rfl
  · exact run_convert_bytes_back (P := Tryd.prog) w 121 9 5 ⟨g, 0, none⟩ cap L Tryd.underlying121 Tryd.underlying5 Tryd.underlying9 (fun j hj => by
      rw [Addr.add_lit, Nat.zero_add, h.cellAt j (by omega)]
      simp [Lib.byteCells, List.getElem?_eq_getElem hj])
end Go.Proofs.YtaahfcdpgcfmhaaDoor
