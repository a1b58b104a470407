/- The label of a book, by the model: a contract. Condition: the book is valid. -/
import Derived.Test.YtnkkabbndmfhmaaLabK
import Derived.Test.YtnkkabbndmfhmaaLabO
import Derived.Test.YtnkkabbndmfhmaaQuiet
namespace Go.Proofs.Ytnkkabbndmfhmaa
set_option linter.unusedSimpArgs false
set_option linter.unusedVariables false
set_option maxRecDepth 100000
open Go.RowKit

theorem byteStr (z : Int) (hz : 0 ≤ z ∧ z ≤ 255) (W : World) (g : Nat) (h : W.cell? ⟨g, 0, none⟩ = some (.int .u8 z)) :
    (convert 87 9 (.slice (some ⟨g, 0, none⟩) 1 1)).run Try.prog W = .ok (.string ⟨#[UInt8.ofNat z.toNat]⟩) W := by
  have := run_convert_bytes_back (P := Try.prog) W 87 9 5 ⟨g, 0, none⟩ 1 [UInt8.ofNat z.toNat] Try.underlying87 Try.underlying5 Try.underlying9 (fun j hj => by
    obtain rfl : j = 0 := by simpa using hj
    rw [Addr.add_lit, h]
    simp
    omega)
  exact this

theorem utoNat {z : Int} (h : 0 ≤ z ∧ z ≤ 255) : ((UInt8.ofNat z.toNat).toNat : Int) = z := by
  rw [UInt8.toNat_ofNat']
  omega
end Go.Proofs.Ytnkkabbndmfhmaa
