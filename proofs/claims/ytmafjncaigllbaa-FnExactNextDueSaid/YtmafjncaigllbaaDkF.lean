/- The fine of a book, the place in a queue, how long to wait, by the program; how long to wait by the model: contracts. Condition: no longer than slices can be, numbers within their kinds. -/
import Derived.Test.YtmafjncaigllbaaDkW
namespace Go.Proofs.Ytmafjncaigllbaa
set_option linter.unusedSimpArgs false
set_option linter.unusedVariables false
set_option maxRecDepth 100000
open Go.RowKit

def lateI (c : Cp) (day : Int) : Int := if c.st = 1 then (if 0 < day - c.due then day - c.due else 0) else 0
theorem fine_late (c : Cp) (day : Int) : fineI c day = 5 * lateI c day := by
  unfold fineI lateI
  by_cases h : c.st = 1
  · by_cases h2 : c.due < day
    · rw [if_pos ⟨h, h2⟩, if_pos h, if_pos (by omega)]
    · rw [if_neg (fun h3 => h2 h3.2), if_pos h, if_neg (by omega)]; rfl
  · rw [if_neg (fun h3 => h h3.1), if_neg h]; rfl
theorem cp0_wf : cp0.Wf := ⟨by simp [cp0], by simp [cp0], by simp [cp0], by simp [cp0], by simp [cp0]⟩
theorem askP_wf {d : Dk} (wf : d.Wf) (who book : Int) : (askP d who book).Wf := by
  rcases ask_cases2 d who book with ⟨_, h⟩ | ⟨_, _, _, _, n, hn, _, h⟩
  · rw [h]; exact cp0_wf
  · rw [h]; exact wf.cs _ (List.getElem_mem hn)
theorem askDay_in {d : Dk} (wf : d.Wf) (who book : Int) : -32768 ≤ askDay d who book ∧ askDay d who book ≤ 32767 := by
  unfold askDay
  split
  · exact wf.day
  · omega
theorem fine_day (d : Dk) (who book : Int) : fineI (askP d who book) (askDay d who book) = fineI (askP d who book) d.day := by
  rcases ask_cn d who book with ⟨_, _, h, _, _⟩ | ⟨_, _, _, _, _, _, h, _, _⟩ | ⟨_, _, _, _, _, _, h, _, _⟩
  · rw [h]; rfl
  · rw [h]; rfl
  · rw [h]

set_option maxHeartbeats 2000000 in
theorem late_any (c : Cp) (wf : c.Wf) (day : Int) (hd : -32768 ≤ day ∧ day ≤ 32767) (w : World) :
    Calls Try.prog 73 #[.agg #[.int .i64 c.st, .int .i64 c.who, .int .i64 c.due, .int .i64 c.ren], .int .i64 day] w fun e w' => e = .returned (.int .i64 (lateI c day)) ∧ Below w.heap.size w w' := by
  obtain ⟨⟨s1, s2⟩, -, ⟨d1, d2⟩, -, -⟩ := wf
  obtain ⟨y1, y2⟩ := hd
  obtain ⟨st, who, due, ren, q⟩ := c
  dsimp only at *
  by_cases h1 : st = 1
  · subst h1
    by_cases h2 : due < day
    · have E := Lib.hid (show lateI ⟨1, who, due, ren, q⟩ day = day - due by unfold lateI; rw [if_pos rfl, if_pos (by show 0 < day - due; omega)])
      have q1 : (0 : Int) ≤ day - due := by omega
      have q2 : (0 : Int) < day - due := by omega
      have q3 : ¬ day - due < 0 := by omega
      go_enter Try.func73, Try.ntmps73
      go_wp2
      go_ret
      exact ⟨by rw [E.out]; first | rfl | (simp; omega), by go_grown⟩
    · have E := Lib.hid (show lateI ⟨1, who, due, ren, q⟩ day = 0 by unfold lateI; rw [if_pos rfl, if_neg (by show ¬ 0 < day - due; omega)])
      have q1 : day - due ≤ 0 := by omega
      have q2 : ¬ (0 : Int) < day - due := by omega
      go_enter Try.func73, Try.ntmps73
      go_wp2
      go_ret
      exact ⟨by rw [E.out]; first | rfl | (simp; omega), by go_grown⟩
  · have hb : (st != 1) = true := by simpa using h1
    have E := Lib.hid (show lateI ⟨st, who, due, ren, q⟩ day = 0 by unfold lateI; rw [if_neg h1])
    go_enter Try.func73, Try.ntmps73
    go_wp2
    go_ret
    exact ⟨by rw [E.out]; rfl, by go_grown⟩
theorem late_in (c : Cp) (wf : c.Wf) (day : Int) (hd : -32768 ≤ day ∧ day ≤ 32767) : 0 ≤ lateI c day ∧ lateI c day ≤ 70000 := by
  have := wf.due
  unfold lateI
  split
  · split <;> omega
  · omega
set_option maxHeartbeats 2000000 in
theorem fine_any (c : Cp) (wf : c.Wf) (day : Int) (hd : -32768 ≤ day ∧ day ≤ 32767) (w : World) :
    Calls Try.prog 77 #[.agg #[.int .i64 c.st, .int .i64 c.who, .int .i64 c.due, .int .i64 c.ren], .int .i64 day] w fun e w' => e = .returned (.int .i64 (fineI c day)) ∧ Below w.heap.size w w' := by
  have E := Lib.hid (fine_late c day)
  obtain ⟨l1, l2⟩ := late_in c wf day hd
  have CL := Lib.hid (fun W => late_any c wf day hd W)
  clear wf
  generalize lateI c day = l at *
  have G0 := Lib.hid (show Below w.heap.size w (w.alloc (.cells #[.int .i64 c.st, .int .i64 c.who, .int .i64 c.due, .int .i64 c.ren] 82)) from (Below.refl _ _).alloc (Nat.le_refl _) _)
  go_enter Try.func77, Try.ntmps77
  go_wp2_with fail
  refine (CL.out _).mono ?_
  rintro e w1 ⟨rfl, k1⟩
  have G1 := Lib.hid (bnext G0.out k1)
  clear k1
  go_wp2
  go_ret
  exact ⟨by rw [E.out]; rfl, G1.out⟩

set_option maxHeartbeats 4000000 in
theorem fineOf_any (d : Dk) (wf : d.Wf ∧ ∀ c ∈ d.cs, c.q.length ≤ maxLen) (book : Int) (g : Nat) (w : World) (hs : CRowK w g g d.cs d.cs.length d.cs.length) (hn : d.cs.length ≤ maxLen) :
    Calls Try.prog 36 #[.agg #[.int .i16 d.day, .slice (some ⟨g, 0, none⟩) d.cs.length d.cs.length], .int .i64 book] w fun e w' => e = .returned (.tuple #[.int .i64 (fineI (askP d 0 book) d.day), .int .i64 (askC d 0 book)]) ∧ Below w.heap.size w w' := by
  have CW := Lib.hid (fun W (h : Below w.heap.size w W) => counterWith_any d wf 0 book g W (hs.below h) hn)
  have WP := Lib.hid (askP_wf wf.1 0 book)
  have DI := Lib.hid (askDay_in wf.1 0 book)
  have FD := Lib.hid (fine_day d 0 book)
  clear wf hs
  generalize askP d 0 book = x at *
  generalize askDay d 0 book = y at *
  generalize askC d 0 book = k at *
  have G0 := Lib.hid (show Below w.heap.size w (w.alloc (.cells #[.int .i16 d.day, .slice (some ⟨g, 0, none⟩) d.cs.length d.cs.length] 30)) from (Below.refl _ _).alloc (Nat.le_refl _) _)
  go_enter Try.func36, Try.ntmps36
  go_wp2_with fail
  generalize World.alloc w _ = W at G0 ⊢
  refine (CW.out _ G0.out).mono ?_
  rintro e w1 ⟨v, u, rfl, hit, hq, k1⟩
  obtain ⟨A3, c3, rfl⟩ := hit.form
  obtain ⟨A4, c4, rfl⟩ := hq.form
  have G1 := Lib.hid (bnext G0.out k1)
  clear hit hq k1
  go_wp2_with fail
  refine (fine_any x WP.out y DI.out _).mono ?_
  rintro e w2 ⟨rfl, k2⟩
  have G2 := Lib.hid (bnext (show Below w.heap.size w _ from (G1.out.alloc G1.out.size _).alloc (by have := G1.out.size; simp; omega) _) k2)
  clear k2
  rw [FD.out]
  go_wp2
  go_ret2
  exact ⟨rfl, G2.out⟩
end Go.Proofs.Ytmafjncaigllbaa
