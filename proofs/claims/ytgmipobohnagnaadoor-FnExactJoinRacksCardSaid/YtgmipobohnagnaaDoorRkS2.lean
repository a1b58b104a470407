/- The model: the list of all books of a rack: contracts. Condition: at most 60 books. -/
import Derived.Test.YtgmipobohnagnaaDoorRkS
import Derived.Test.YtgmipobohnagnaaDoorFlB
namespace Go.Proofs.YtgmipobohnagnaaDoor
set_option linter.unusedSimpArgs false
set_option linter.unusedVariables false
set_option maxRecDepth 100000
open Go.RowKit Go.Sort

theorem bks_take {ps : List Pl} {k : Nat} (h : k < ps.length) : (bks ps).take (k + 1) = (bks ps).take k ++ [ps[k].b] := by
  have e : k < (bks ps).length := by rw [bks_length]; exact h
  rw [List.take_succ_eq_append_getElem e, bks_get]

noncomputable def rkC (r : Rk) : Int := if rkB r then 0 else 1
noncomputable def rkBks (r : Rk) : List Bk := if rkB r then bks r.ps else []
end Go.Proofs.YtgmipobohnagnaaDoor
