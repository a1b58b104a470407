/- LeastCost and FewestShelves, both sides: contracts. Condition: numbers within their kinds, slices no longer than can be. -/
import Derived.Test.YtpamflkefgpdpaaLtD
namespace Go.Proofs.Ytpamflkefgpdpaa
set_option linter.unusedSimpArgs false
set_option linter.unusedVariables false
set_option maxRecDepth 100000
open Go.RowKit

set_option maxHeartbeats 2000000 in
theorem specLeastCost_any (c : Cs) (hv : Value) (A : Option Addr) (m : Nat) (xs : List Bk) (wc : c.Wf) (wf : ∀ b ∈ xs, b.Wf) (w : World) (sc : IntsOf .i16 w hv c.hs) (mc : c.hs.length ≤ maxLen) (sl : SliceOf w (.slice A xs.length m) xs) (hm : xs.length ≤ m) (ml : xs.length ≤ maxLen) :
    Calls Try.prog 30 #[.agg #[.int .i16 c.wi, .int .i32 c.lo, hv], .slice A xs.length m] w fun e w' => ∃ uu, e = .returned (.tuple #[uu, .int .i64 (llV c xs false), .int .i64 (llC c xs false)]) ∧ w'.ownsRow w.heap.size 2 1 uu (llL c xs false).length ((llL c xs false).map (Value.int .i64)) ∧ Below w.heap.size w w' := by
  have HB := Lib.hid (CaseAt.new (t := 50) sc)
  have G0 := Lib.hid (show Below w.heap.size w (w.alloc (.cells #[.int .i16 c.wi, .int .i32 c.lo, hv] 50)) by go_grown)
  have HC := Lib.hid (sc.below G0.out)
  have SL := Lib.hid (sl.below G0.out)
  have WF := Lib.hid wf
  obtain ⟨H, qh, rfl, -⟩ := sc
  clear wf sl
  go_enter Try.func30, Try.ntmps30
  go_wp2_with fail
  generalize World.alloc _ _ = W0 at HB HC G0 SL ⊢
  refine (l02Best_any false c _ A m xs wc WF.out _ _ HB.out mc SL.out hm ml).mono ?_
  rintro e w1 ⟨uu, rfl, ho, g1⟩
  have OW := Lib.hid (ownsMono ho G0.out.size)
  clear ho
  go_wp2
  refine bodyPost_ret (v := .tuple #[uu, .int .i64 (llV c xs false), .int .i64 (llC c xs false)]) (by simp [results, Try.results30, go_sem]) rfl ?_
  exact ⟨uu, rfl, OW.out, bnext G0.out g1⟩

set_option maxHeartbeats 2000000 in
theorem leastCost_any (c : Cs) (hv : Value) (A : Option Addr) (m : Nat) (xs : List Bk) (wc : c.Wf) (wf : ∀ b ∈ xs, b.Wf) (w : World) (sc : IntsOf .i16 w hv c.hs) (mc : c.hs.length ≤ maxLen) (sl : SliceOf w (.slice A xs.length m) xs) (hm : xs.length ≤ m) (ml : xs.length ≤ maxLen) :
    Calls Try.prog 31 #[.agg #[.int .i16 c.wi, .int .i32 c.lo, hv], .slice A xs.length m] w fun e w' => ∃ uu, e = .returned (.tuple #[uu, .int .i64 (llV c xs false), .int .i64 (llC c xs false)]) ∧ w'.ownsRow w.heap.size 2 1 uu (llL c xs false).length ((llL c xs false).map (Value.int .i64)) ∧ Below w.heap.size w w' := by
  have HB := Lib.hid (CaseAt.new (t := 50) sc)
  have G0 := Lib.hid (show Below w.heap.size w (w.alloc (.cells #[.int .i16 c.wi, .int .i32 c.lo, hv] 50)) by go_grown)
  have HC := Lib.hid (sc.below G0.out)
  have SL := Lib.hid (sl.below G0.out)
  have WF := Lib.hid wf
  obtain ⟨H, qh, rfl, -⟩ := sc
  clear wf sl
  go_enter Try.func31, Try.ntmps31
  go_wp2_with fail
  generalize World.alloc _ _ = W0 at HB HC G0 SL ⊢
  refine (leastLayout_any false c _ A m xs wc WF.out _ HC.out mc SL.out hm ml).mono ?_
  rintro e w1 ⟨uu, rfl, ho, g1⟩
  have OW := Lib.hid (ownsMono ho G0.out.size)
  clear ho
  go_wp2
  refine bodyPost_ret (v := .tuple #[uu, .int .i64 (llV c xs false), .int .i64 (llC c xs false)]) (by simp [results, Try.results31, go_sem]) rfl ?_
  exact ⟨uu, rfl, OW.out, bnext G0.out g1⟩

set_option maxHeartbeats 2000000 in
theorem specFewestShelves_any (c : Cs) (hv : Value) (A : Option Addr) (m : Nat) (xs : List Bk) (wc : c.Wf) (wf : ∀ b ∈ xs, b.Wf) (w : World) (sc : IntsOf .i16 w hv c.hs) (mc : c.hs.length ≤ maxLen) (sl : SliceOf w (.slice A xs.length m) xs) (hm : xs.length ≤ m) (ml : xs.length ≤ maxLen) :
    Calls Try.prog 32 #[.agg #[.int .i16 c.wi, .int .i32 c.lo, hv], .slice A xs.length m] w fun e w' => ∃ uu, e = .returned (.tuple #[uu, .int .i64 (llV c xs true), .int .i64 (llC c xs true)]) ∧ w'.ownsRow w.heap.size 2 1 uu (llL c xs true).length ((llL c xs true).map (Value.int .i64)) ∧ Below w.heap.size w w' := by
  have HB := Lib.hid (CaseAt.new (t := 50) sc)
  have G0 := Lib.hid (show Below w.heap.size w (w.alloc (.cells #[.int .i16 c.wi, .int .i32 c.lo, hv] 50)) by go_grown)
  have HC := Lib.hid (sc.below G0.out)
  have SL := Lib.hid (sl.below G0.out)
  have WF := Lib.hid wf
  obtain ⟨H, qh, rfl, -⟩ := sc
  clear wf sl
  go_enter Try.func32, Try.ntmps32
  go_wp2_with fail
  generalize World.alloc _ _ = W0 at HB HC G0 SL ⊢
  refine (l02Best_any true c _ A m xs wc WF.out _ _ HB.out mc SL.out hm ml).mono ?_
  rintro e w1 ⟨uu, rfl, ho, g1⟩
  have OW := Lib.hid (ownsMono ho G0.out.size)
  clear ho
  go_wp2
  refine bodyPost_ret (v := .tuple #[uu, .int .i64 (llV c xs true), .int .i64 (llC c xs true)]) (by simp [results, Try.results32, go_sem]) rfl ?_
  exact ⟨uu, rfl, OW.out, bnext G0.out g1⟩

set_option maxHeartbeats 2000000 in
theorem fewestShelves_any (c : Cs) (hv : Value) (A : Option Addr) (m : Nat) (xs : List Bk) (wc : c.Wf) (wf : ∀ b ∈ xs, b.Wf) (w : World) (sc : IntsOf .i16 w hv c.hs) (mc : c.hs.length ≤ maxLen) (sl : SliceOf w (.slice A xs.length m) xs) (hm : xs.length ≤ m) (ml : xs.length ≤ maxLen) :
    Calls Try.prog 33 #[.agg #[.int .i16 c.wi, .int .i32 c.lo, hv], .slice A xs.length m] w fun e w' => ∃ uu, e = .returned (.tuple #[uu, .int .i64 (llV c xs true), .int .i64 (llC c xs true)]) ∧ w'.ownsRow w.heap.size 2 1 uu (llL c xs true).length ((llL c xs true).map (Value.int .i64)) ∧ Below w.heap.size w w' := by
  have HB := Lib.hid (CaseAt.new (t := 50) sc)
  have G0 := Lib.hid (show Below w.heap.size w (w.alloc (.cells #[.int .i16 c.wi, .int .i32 c.lo, hv] 50)) by go_grown)
  have HC := Lib.hid (sc.below G0.out)
  have SL := Lib.hid (sl.below G0.out)
  have WF := Lib.hid wf
  obtain ⟨H, qh, rfl, -⟩ := sc
  clear wf sl
  go_enter Try.func33, Try.ntmps33
  go_wp2_with fail
  generalize World.alloc _ _ = W0 at HB HC G0 SL ⊢
  refine (leastLayout_any true c _ A m xs wc WF.out _ HC.out mc SL.out hm ml).mono ?_
  rintro e w1 ⟨uu, rfl, ho, g1⟩
  have OW := Lib.hid (ownsMono ho G0.out.size)
  clear ho
  go_wp2
  refine bodyPost_ret (v := .tuple #[uu, .int .i64 (llV c xs true), .int .i64 (llC c xs true)]) (by simp [results, Try.results33, go_sem]) rfl ?_
  exact ⟨uu, rfl, OW.out, bnext G0.out g1⟩

end Go.Proofs.Ytpamflkefgpdpaa
