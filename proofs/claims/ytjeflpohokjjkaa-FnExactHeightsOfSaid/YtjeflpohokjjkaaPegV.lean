/- Pegs and heights by the model: which are valid, the least height that is high enough: contracts. Condition: numbers within their kinds. -/
import Derived.Test.YtjeflpohokjjkaaPegA
import Derived.Test.YtjeflpohokjjkaaNums
import Derived.Test.YtjeflpohokjjkaaBooksOk
namespace Go.Proofs.Ytjeflpohokjjkaa
set_option linter.unusedSimpArgs false
set_option linter.unusedVariables false
set_option maxRecDepth 100000
open Go.RowKit

theorem chainP (a b c : Bool) : a = false ∨ (a = true ∧ b = false) ∨ (a = true ∧ b = true ∧ c = false) ∨ (a = true ∧ b = true ∧ c = true) := by
  cases a <;> cases b <;> cases c <;> simp

set_option maxHeartbeats 1000000 in
theorem l04Pegs_any (p : Pg) (wf : p.Wf) (w : World) :
    Calls Try.prog 28 #[.agg #[.int .i16 p.lo, .int .i16 p.st, .int .i16 p.bo]] w fun e w' => e = .returned (.bool (pegsB p)) ∧ Below w.heap.size w w' := by
  obtain ⟨⟨a1, a2⟩, ⟨b1, b2⟩, ⟨c1, c2⟩⟩ := wf
  have G0 := Lib.hid (show Below w.heap.size w (w.alloc (.cells #[.int .i16 p.lo, .int .i16 p.st, .int .i16 p.bo] 30)) by go_grown)
  rcases chainP (inB p.lo 50 400) (inB p.st 1 100) (inB p.bo 1 100) with e1 | ⟨e1, e2⟩ | ⟨e1, e2, e3⟩ | ⟨e1, e2, e3⟩
  · have E := Lib.hid (show pegsB p = false by unfold pegsB; rw [e1]; rfl)
    go_enter Try.func28, Try.ntmps28
    go_wp2_with (go_at_call 24; refine (l00In_any _ _ _ _).mono ?_; rintro e w' ⟨rfl, rfl⟩)
    go_ret
    exact ⟨by rw [E.out]; rfl, G0.out⟩
  · have E := Lib.hid (show pegsB p = false by unfold pegsB; rw [e1, e2]; rfl)
    go_enter Try.func28, Try.ntmps28
    go_wp2_with (go_at_call 24; refine (l00In_any _ _ _ _).mono ?_; rintro e w' ⟨rfl, rfl⟩)
    go_ret
    exact ⟨by rw [E.out]; rfl, G0.out⟩
  · have E := Lib.hid (show pegsB p = false by unfold pegsB; rw [e1, e2, e3]; rfl)
    go_enter Try.func28, Try.ntmps28
    go_wp2_with (go_at_call 24; refine (l00In_any _ _ _ _).mono ?_; rintro e w' ⟨rfl, rfl⟩)
    go_ret
    exact ⟨by rw [E.out]; rfl, G0.out⟩
  · have E := Lib.hid (show pegsB p = true by unfold pegsB; rw [e1, e2, e3]; rfl)
    go_enter Try.func28, Try.ntmps28
    go_wp2_with (go_at_call 24; refine (l00In_any _ _ _ _).mono ?_; rintro e w' ⟨rfl, rfl⟩)
    go_ret
    exact ⟨by rw [E.out]; rfl, G0.out⟩

set_option maxHeartbeats 1000000 in
theorem validPegs_any (p : Pg) (wf : p.Wf) (w : World) :
    Calls Try.prog 20 #[.agg #[.int .i16 p.lo, .int .i16 p.st, .int .i16 p.bo]] w fun e w' => e = .returned (.bool (pegsB p)) ∧ Below w.heap.size w w' := by
  obtain ⟨⟨a1, a2⟩, ⟨b1, b2⟩, ⟨c1, c2⟩⟩ := wf
  have G0 := Lib.hid (show Below w.heap.size w (w.alloc (.cells #[.int .i16 p.lo, .int .i16 p.st, .int .i16 p.bo] 30)) by go_grown)
  rcases chainP (inB p.lo 50 400) (inB p.st 1 100) (inB p.bo 1 100) with e1 | ⟨e1, e2⟩ | ⟨e1, e2, e3⟩ | ⟨e1, e2, e3⟩
  · have E := Lib.hid (show pegsB p = false by unfold pegsB; rw [e1]; rfl)
    go_enter Try.func20, Try.ntmps20
    go_wp2_with (go_at_call 33; refine (within16_any _ _ _ _).mono ?_; rintro e w' ⟨rfl, rfl⟩)
    go_ret
    exact ⟨by rw [E.out]; rfl, G0.out⟩
  · have E := Lib.hid (show pegsB p = false by unfold pegsB; rw [e1, e2]; rfl)
    go_enter Try.func20, Try.ntmps20
    go_wp2_with (go_at_call 33; refine (within16_any _ _ _ _).mono ?_; rintro e w' ⟨rfl, rfl⟩)
    go_ret
    exact ⟨by rw [E.out]; rfl, G0.out⟩
  · have E := Lib.hid (show pegsB p = false by unfold pegsB; rw [e1, e2, e3]; rfl)
    go_enter Try.func20, Try.ntmps20
    go_wp2_with (go_at_call 33; refine (within16_any _ _ _ _).mono ?_; rintro e w' ⟨rfl, rfl⟩)
    go_ret
    exact ⟨by rw [E.out]; rfl, G0.out⟩
  · have E := Lib.hid (show pegsB p = true by unfold pegsB; rw [e1, e2, e3]; rfl)
    go_enter Try.func20, Try.ntmps20
    go_wp2_with (go_at_call 33; refine (within16_any _ _ _ _).mono ?_; rintro e w' ⟨rfl, rfl⟩)
    go_ret
    exact ⟨by rw [E.out]; rfl, G0.out⟩

theorem PegIn.drewN {w : World} {g : Nat} {p : Pg} (h : PegIn w g p) (n : Nat) : PegIn (w.drewN n) g p := ⟨h.c0, h.c1, h.c2⟩

set_option maxHeartbeats 4000000 in
theorem l04Peg_any (p : Pg) (high : Int) (w : World) (hp : pegsB p = true) (hl : -9223372036854775808 ≤ high) (hh : high ≤ 1000) :
    Calls Try.prog 31 #[.agg #[.int .i16 p.lo, .int .i16 p.st, .int .i16 p.bo], .int .i64 high] w fun e w' => e = .returned (.int .i64 (pegV p high)) ∧ Below w.heap.size w w' := by
  obtain ⟨⟨a1, a2⟩, ⟨b1, b2⟩, -⟩ := pegsB_true hp
  have HN := Lib.hid (PegIn.new w p 30)
  have G0 := Lib.hid (show Below w.heap.size w (w.alloc (.cells #[.int .i16 p.lo, .int .i16 p.st, .int .i16 p.bo] 30)) by go_grown)
  have HV := Lib.hid (show ∃ V, pegF 1001 p.lo p.st high = V from ⟨_, rfl⟩)
  unfold pegV
  obtain ⟨V, hV⟩ := HV.out
  rw [hV]
  have HV := Lib.hid hV
  clear hV hp
  go_enter Try.func31, Try.ntmps31
  go_wp2
  go_loopw [5] (fun o_ wr => ∃ (o : Int) (q : Nat), o_ = .int .i64 o ∧ 50 ≤ o ∧ o ≤ 1100 ∧ (high - o).toNat ≤ q ∧ pegF q o p.st high = V ∧ PegIn wr w.heap.size p ∧ Below w.heap.size w wr) (fun o_ _ => (high - intOf o_).toNat)
  case atStart => exact ⟨p.lo, 1001, rfl, a1, by omega, by omega, HV.out, HN.out, G0.out⟩
  case round =>
    obtain ⟨o, q, rfl, o1, o2, hq, hF, hin, hb⟩ := hrel
    have HI := Lib.hid hin
    have HB := Lib.hid hb
    have HF := Lib.hid hF
    clear hin hb hF
    by_cases hlt : o < high
    · obtain ⟨q', rfl⟩ : ∃ q', q = q' + 1 := ⟨q - 1, by omega⟩
      have HF2 := Lib.hid (show pegF q' (o + p.st) p.st high = V by rw [← HF.out, pegF, if_pos hlt])
      have c1 := HI.out.c1
      go_wp2
      go_roundw
      case rel => exact ⟨o + p.st, q', by go_num, by omega, by omega, by omega, HF2.out, HI.out, HB.out⟩
      case measure => simp [intOf]; omega
    · have E := Lib.hid (show o = V by
        rw [← HF.out]
        cases q with
        | zero => rfl
        | succ q => rw [pegF, if_neg hlt])
      go_wp2
      go_ret
      exact ⟨by rw [E.out]; rfl, HB.out⟩

/-! ### heights -/
def prevH (hs : List Int) (k : Nat) : Int := if k = 0 then 0 else hs.getD (k - 1) 0
theorem prevH_succ {hs : List Int} {k : Nat} (hk : k < hs.length) : prevH hs (k + 1) = hs[k] := by simp [prevH, List.getD, List.getElem?_eq_getElem hk]
theorem prevH_pos {hs : List Int} {k : Nat} (h0 : 0 < k) (hk : k < hs.length) : prevH hs k = hs[k - 1]'(by omega) := by
  unfold prevH
  rw [if_neg (by omega)]
  simp [List.getD, List.getElem?_eq_getElem (show k - 1 < hs.length by omega)]

theorem l00In_calls (n low high : Int) (w : World) : Calls Try.prog 24 #[.int .i64 n, .int .i64 low, .int .i64 high] w fun e w' => e = .returned (.bool (inB n low high)) ∧ w = w' := l00In_any n low high w

end Go.Proofs.Ytjeflpohokjjkaa
