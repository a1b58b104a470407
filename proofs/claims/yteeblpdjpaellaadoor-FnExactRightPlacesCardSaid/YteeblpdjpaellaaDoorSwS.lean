/- One exchange that puts a shelf right, by the model: a contract. Condition: at most 1048576 books, whose numbers lie within their kinds. -/
import Derived.Test.YteeblpdjpaellaaDoorSw
import Derived.Test.YteeblpdjpaellaaDoorEqB
import Derived.Test.YteeblpdjpaellaaDoorQuiet
import Derived.BigQuiet
import Derived.Laws.ResultCell
namespace Go.Proofs.YteeblpdjpaellaaDoor
set_option linter.unusedSimpArgs false
set_option linter.unusedVariables false
set_option maxRecDepth 100000
open Go.RowKit Go.Sort

theorem infoGoInt : (Tryd.prog.info? 3).map (fun i => (i.zero, i.size, i.bytes)) = some (some (.int .i64 0), 1, 8) := by kernel_rfl
def natI (n : Nat) : Value := .int .i64 (n : Int)
/-- What OneSwap answers. -/
def swC (xs ys : List Bk) : Int := if saC xs ys = 0 then (if (dfL xs ys).length = 2 then 0 else 6) else saC xs ys
def swF (xs ys : List Bk) : Int := if saC xs ys = 0 ∧ (dfL xs ys).length = 2 then ((dfL xs ys).getD 0 0 : Int) else 0
def swT (xs ys : List Bk) : Int := if saC xs ys = 0 ∧ (dfL xs ys).length = 2 then ((dfL xs ys).getD 1 0 : Int) else 0
theorem osw_cases (xs ys : List Bk) : (saC xs ys ≠ 0 ∧ swC xs ys = saC xs ys ∧ swF xs ys = 0 ∧ swT xs ys = 0) ∨ (saC xs ys = 0 ∧ (dfL xs ys).length ≠ 2 ∧ swC xs ys = 6 ∧ swF xs ys = 0 ∧ swT xs ys = 0) ∨
    (saC xs ys = 0 ∧ ∃ i j, dfL xs ys = [i, j] ∧ swC xs ys = 0 ∧ swF xs ys = (i : Int) ∧ swT xs ys = (j : Int)) := by
  unfold swC swF swT
  by_cases h : saC xs ys = 0
  · by_cases h2 : (dfL xs ys).length = 2
    · refine .inr (.inr ⟨h, ?_⟩)
      match hd : dfL xs ys, h2 with
      | [i, j], _ => exact ⟨i, j, rfl, by rw [if_pos h]; rfl, by rw [if_pos ⟨h, rfl⟩]; rfl, by rw [if_pos ⟨h, rfl⟩]; rfl⟩
    · exact .inr (.inl ⟨h, h2, by rw [if_pos h, if_neg h2], by rw [if_neg (fun e => h2 e.2)], by rw [if_neg (fun e => h2 e.2)]⟩)
  · exact .inl ⟨h, by rw [if_neg h], by rw [if_neg (fun e => h e.1)], by rw [if_neg (fun e => h e.1)]⟩
theorem sa_len {xs ys : List Bk} (h : saC xs ys = 0) : xs.length = ys.length ∧ ys.length ≤ 60 ∧ ∀ b, xs.count b = ys.count b := by
  obtain ⟨_, h2, h3⟩ := sa_ok h
  have h60 : ys.length ≤ 60 := by unfold okB at h2; simp at h2; exact h2.2
  unfold stkB at h3
  simp only [Bool.and_eq_true, decide_eq_true_eq] at h3
  obtain ⟨hl, hm⟩ := h3
  have hn := more_nil.1 (List.eq_nil_of_length_eq_zero hm)
  have hc := (count_le_len xs ys hn).2 hl
  exact ⟨hl, h60, fun b => Nat.le_antisymm (hn b) (hc b)⟩
theorem df_yes {xs ys : List Bk} {k : Nat} (hx : k < xs.length) (hy : k < ys.length) (h : ¬ ys[k] = xs[k]) : dfTo xs ys (k + 1) = dfTo xs ys k ++ [k] := by
  rw [dfTo, getD_at hx, getD_at hy, if_neg h]
theorem df_no {xs ys : List Bk} {k : Nat} (hx : k < xs.length) (hy : k < ys.length) (h : ys[k] = xs[k]) : dfTo xs ys (k + 1) = dfTo xs ys k := by
  rw [dfTo, getD_at hx, getD_at hy, if_pos h]

theorem own_form2 {w : World} {base n : Nat} {t : TypeId} {v : Value} {l : List Value} (h : w.ownsRow base t 1 v n l) (hn : 0 < n) : ∃ g cap, v = .slice (some ⟨g, 0, none⟩) n cap := by
  rcases h.2 with ⟨_, h0⟩ | ⟨g, cap, cur, rfl, _⟩
  · omega
  · exact ⟨g, cap, rfl⟩
end Go.Proofs.YteeblpdjpaellaaDoor
