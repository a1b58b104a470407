/- The law's copy of numbers is a row of the call's own. No condition. -/
import Derived.Test.YtjeflpohokjjkaaNums
namespace Go.Proofs.Ytjeflpohokjjkaa
set_option linter.unusedSimpArgs false
set_option linter.unusedVariables false
set_option maxRecDepth 100000
open Go.RowKit

theorem IRow.ownsI {w : World} {g base : Nat} {zs : List Int} {t : TypeId} (h : IRow .i64 t w g zs) (hb : base ≤ g) (hn : zs.length ≤ maxLen) : w.ownsRow base t 1 (.slice (some ⟨g, 0, none⟩) zs.length zs.length) zs.length (zs.map (Value.int .i64)) := by
  obtain ⟨cs, h1, h2, h3⟩ := h
  refine ⟨by simp, .inr ⟨g, zs.length, cs, rfl, hb, h1, Nat.le_refl _, hn, by omega, ?_⟩⟩
  refine List.ext_getElem (by simp; omega) fun i hi1 hi2 => ?_
  have hi : i < zs.length := by simpa using hi2
  have := h3 i hi hi
  rw [List.getElem_take, List.getElem_map, Array.getElem_toList]
  rw [Array.getElem?_eq_getElem (by omega)] at this
  simpa using this
end Go.Proofs.Ytjeflpohokjjkaa
