/- Where a book belongs in a sorted list, by the model: a contract. Condition: at most 60 books, whose numbers lie within their kinds. -/
import Derived.Test.YtodmpifbmnlnkaaDoorFirstW
import Derived.Test.YtodmpifbmnlnkaaDoorFields
import Derived.IntWalk
namespace Go.Proofs.YtodmpifbmnlnkaaDoor
set_option linter.unusedSimpArgs false
set_option linter.unusedVariables false
set_option maxRecDepth 100000
open Go.RowKit

theorem place_is {xs : List Bk} (wf : ∀ b ∈ xs, b.Wf) {z : Bk} (wz : z.Wf) (hno : NoneTo xs xs.length) {i : Nat} (hi : i ≤ xs.length) (h1 : ∀ (t : Nat) (ht : t < xs.length), i ≤ t → usual z xs[t] < 0) (h2 : ∀ (h : 0 < i), ¬ usual z (xs[i - 1]'(by omega)) < 0) : xs.findIdx (fun b => decide (usual z b < 0)) = i := by
  have low : ∀ (t : Nat) (ht : t < xs.length), t < i → decide (usual z xs[t] < 0) = false := by
    intro t ht hti
    refine decide_eq_false ?_
    have a := h2 (by omega)
    rw [usual_lt _ _ wz (wf _ (List.getElem_mem _))] at a ⊢
    have := sorted_le wf hno ht (show i - 1 < xs.length by omega) (by omega)
    omega
  by_cases hx : i < xs.length
  · exact (List.findIdx_eq hx).2 ⟨decide_eq_true (h1 i hx (Nat.le_refl _)), fun t ht => low t (by omega) ht⟩
  · obtain rfl : i = xs.length := by omega
    rw [List.findIdx_eq_length]
    intro x hx2
    obtain ⟨t, ht, rfl⟩ := List.getElem_of_mem hx2
    simpa using low t ht ht

set_option maxHeartbeats 4000000 in
theorem l01Place_any (v : Value) (xs : List Bk) (wf : ∀ b ∈ xs, b.Wf) (z : Bk) (wz : z.Wf) (B : Nat) (w : World) (hs : SliceOf w v xs) (hn : xs.length ≤ 60) (hno : NoneTo xs xs.length) (hb : BkAt w B 0 z) :
    Calls Tryd.prog 99 #[v, .pointer (some ⟨B, 0, none⟩)] w fun e w' => e = .returned (.int .i64 (xs.findIdx (fun b => decide (usual z b < 0)) : Int)) ∧ Below w.heap.size w w' := by
  obtain ⟨A, c, rfl, hs⟩ := hs
  have HS := Lib.hid hs
  have WF := Lib.hid wf
  have HB := Lib.hid hb
  have HNO := Lib.hid hno
  clear hs wf hb hno
  go_enter Tryd.func99, Tryd.ntmps99
  go_wp2
  go_loopw [5] (fun i_ wr => ∃ i : Nat, i ≤ xs.length ∧ i_ = .int .i64 (i : Int) ∧ (∀ (t : Nat) (ht : t < xs.length), i ≤ t → usual z xs[t] < 0) ∧ Below w.heap.size w wr) (fun i_ _ => (intOf i_).toNat)
  case atStart => exact ⟨xs.length, Nat.le_refl _, rfl, fun t ht h => absurd ht (by omega), Below.refl _ _⟩
  case round =>
    obtain ⟨i, hi, rfl, hall, hbel⟩ := hrel
    have HALL := Lib.hid hall
    clear hall
    rcases i with _ | m
    · have E := Lib.hid (place_is WF.out wz HNO.out hi HALL.out (fun h => absurd h (by omega)))
      have e1 : ¬ ((0 : Int) < 0) := by omega
      go_wp2
      go_ret
      exact ⟨by rw [E.out]; rfl, hbel⟩
    · have hmx : m < xs.length := by omega
      obtain ⟨ga, oa, rfl, hga, hat⟩ := HS.out (by omega)
      have A1 := Lib.hid ((hat.below hbel hga).at_ (Nat.lt_of_lt_of_le hga hbel.size) hmx)
      have A0 := Lib.hid (HB.out.below hbel HB.out.1)
      have n1 : IntKind.i64.wrap (((m + 1 : Nat) : Int) - 1) = (m : Int) := by rw [show ((m + 1 : Nat) : Int) - 1 = (m : Int) by omega]; exact IntWalk.i64_in _ (by omega)
      have n2 : ((m + 1 : Nat) : Int) - 1 = (m : Int) := by omega
      have n3 : (m : Int) + 1 - 1 = (m : Int) := by omega
      have n4 : (0 : Int) < (m : Int) + 1 := by omega
      clear hat
      have HU := Lib.hid (fun (W : World) (h0 : BkAt W B 0 z) (h1 : BkAt W ga (oa + m * 8) (xs[m]'hmx)) => l01Usual_any z (xs[m]'hmx) wz (WF.out _ (List.getElem_mem hmx)) B 0 ga (oa + m * 8) W h0 h1)
      have HU2 := Lib.hid (rfl : usual z xs[m] = usual z xs[m])
      generalize hr : usual z xs[m] = r at HU
      go_wp2_with fail
      refine (HU.out _ A0.out A1.out).mono ?_
      rintro e w1 ⟨rfl, h1⟩
      have HR := Lib.hid hr
      by_cases hr0 : r < 0
      · have A2 := Lib.hid (show ∀ (t : Nat) (ht : t < xs.length), m ≤ t → usual z xs[t] < 0 from fun t ht hmt => by
          by_cases e : t = m
          · subst e; rw [HR.out]; exact hr0
          · exact HALL.out t ht (by omega))
        clear hr
        go_wp2
        go_roundw
        case rel => exact ⟨m, by omega, by go_num, A2.out, bnext hbel h1⟩
        case measure => simp [intOf]
      · have E := Lib.hid (place_is WF.out wz HNO.out hi HALL.out (fun _ => by
          have : usual z xs[m] = r := HR.out
          simpa [this] using hr0))
        have hr1 : 0 ≤ r := by omega
        clear hr hr0
        go_wp2
        go_ret
        exact ⟨by rw [E.out]; rfl, bnext hbel h1⟩

end Go.Proofs.YtodmpifbmnlnkaaDoor
