/- Rows of nine cells as results: their forms. No condition. -/
import Derived.Test.YtgmipobohnagnaaDoorPl
namespace Go.Proofs.YtgmipobohnagnaaDoor
set_option linter.unusedSimpArgs false
set_option linter.unusedVariables false
set_option maxRecDepth 100000
open Go.RowKit

theorem ResN.form {α : Type} {cel : α → List Value} {t : TypeId} {w : World} {base : Nat} {v : Value} {ys : List α} (h : ResN cel t w base v ys) : ∃ A n c, v = .slice A n c := by
  rcases h with ⟨rfl, _⟩ | ⟨g, N, rfl, _⟩ <;> exact ⟨_, _, _, rfl⟩
theorem ResN.nil {α : Type} {cel : α → List Value} (t : TypeId) (w : World) (base : Nat) : ResN cel t w base (.slice none 0 0) [] := .inl ⟨rfl, rfl⟩
theorem ownForm {w : World} {base : Nat} {e : TypeId} {size n : Nat} {v : Value} {xs : List Value} (h : w.ownsRow base e size v n xs) : ∃ A c, v = .slice A n c := by
  rcases h.2 with ⟨rfl, h0⟩ | ⟨g, cap, cur, rfl, _⟩
  · exact ⟨none, 0, by rw [h0]⟩
  · exact ⟨_, _, rfl⟩
end Go.Proofs.YtgmipobohnagnaaDoor
