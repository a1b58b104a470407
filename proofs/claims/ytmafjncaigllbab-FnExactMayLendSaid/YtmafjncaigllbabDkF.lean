/- The fine of a book, the place in a queue, how long to wait, by the program; how long to wait by the model: contracts. Condition: no longer than slices can be, numbers within their kinds. -/
import Derived.Test.YtmafjncaigllbabDkW
namespace Go.Proofs.Ytmafjncaigllbab
set_option linter.unusedSimpArgs false
set_option linter.unusedVariables false
set_option maxRecDepth 100000
open Go.RowKit

def lateI (c : Cp) (day : Int) : Int := if c.st = 1 then (if 0 < day - c.due then day - c.due else 0) else 0
theorem fine_late (c : Cp) (day : Int) : fineI c day = 5 * lateI c day := by
  unfold fineI lateI
  by_cases h : c.st = 1
  · by_cases h2 : c.due < day
    · rw [if_pos ⟨h, h2⟩, if_pos h, if_pos (by omega)]
    · rw [if_neg (fun h3 => h2 h3.2), if_pos h, if_neg (by omega)]; rfl
  · rw [if_neg (fun h3 => h h3.1), if_neg h]; rfl
theorem cp0_wf : cp0.Wf := ⟨by simp [cp0], by simp [cp0], by simp [cp0], by simp [cp0], by simp [cp0]⟩
theorem askP_wf {d : Dk} (wf : d.Wf) (who book : Int) : (askP d who book).Wf := by
  rcases ask_cases2 d who book with ⟨_, h⟩ | ⟨_, _, _, _, n, hn, _, h⟩
  · rw [h]; exact cp0_wf
  · rw [h]; exact wf.cs _ (List.getElem_mem hn)
theorem askDay_in {d : Dk} (wf : d.Wf) (who book : Int) : -32768 ≤ askDay d who book ∧ askDay d who book ≤ 32767 := by
  unfold askDay
  split
  · exact wf.day
  · omega
theorem fine_day (d : Dk) (who book : Int) : fineI (askP d who book) (askDay d who book) = fineI (askP d who book) d.day := by
  rcases ask_cn d who book with ⟨_, _, h, _, _⟩ | ⟨_, _, _, _, _, _, h, _, _⟩ | ⟨_, _, _, _, _, _, h, _, _⟩
  · rw [h]; rfl
  · rw [h]; rfl
  · rw [h]

set_option maxHeartbeats 2000000 in
theorem late_any (c : Cp) (wf : c.Wf) (day : Int) (hd : -32768 ≤ day ∧ day ≤ 32767) (w : World) :
    Calls Try.prog 31 #[.agg #[.int .i64 c.st, .int .i64 c.who, .int .i64 c.due, .int .i64 c.ren], .int .i64 day] w fun e w' => e = .returned (.int .i64 (lateI c day)) ∧ Below w.heap.size w w' := by
  obtain ⟨⟨s1, s2⟩, -, ⟨d1, d2⟩, -, -⟩ := wf
  obtain ⟨y1, y2⟩ := hd
  obtain ⟨st, who, due, ren, q⟩ := c
  dsimp only at *
  by_cases h1 : st = 1
  · subst h1
    by_cases h2 : due < day
    · have E := Lib.hid (show lateI ⟨1, who, due, ren, q⟩ day = day - due by unfold lateI; rw [if_pos rfl, if_pos (by show 0 < day - due; omega)])
      have q1 : (0 : Int) ≤ day - due := by omega
      have q2 : (0 : Int) < day - due := by omega
      have q3 : ¬ day - due < 0 := by omega
      go_enter Try.func31, Try.ntmps31
      go_wp2
      go_ret
      exact ⟨by rw [E.out]; first | rfl | (simp; omega), by go_grown⟩
    · have E := Lib.hid (show lateI ⟨1, who, due, ren, q⟩ day = 0 by unfold lateI; rw [if_pos rfl, if_neg (by show ¬ 0 < day - due; omega)])
      have q1 : day - due ≤ 0 := by omega
      have q2 : ¬ (0 : Int) < day - due := by omega
      go_enter Try.func31, Try.ntmps31
      go_wp2
      go_ret
      exact ⟨by rw [E.out]; first | rfl | (simp; omega), by go_grown⟩
  · have hb : (st != 1) = true := by simpa using h1
    have E := Lib.hid (show lateI ⟨st, who, due, ren, q⟩ day = 0 by unfold lateI; rw [if_neg h1])
    go_enter Try.func31, Try.ntmps31
    go_wp2
    go_ret
    exact ⟨by rw [E.out]; rfl, by go_grown⟩
theorem late_in (c : Cp) (wf : c.Wf) (day : Int) (hd : -32768 ≤ day ∧ day ≤ 32767) : 0 ≤ lateI c day ∧ lateI c day ≤ 70000 := by
  have := wf.due
  unfold lateI
  split
  · split <;> omega
  · omega
end Go.Proofs.Ytmafjncaigllbab
