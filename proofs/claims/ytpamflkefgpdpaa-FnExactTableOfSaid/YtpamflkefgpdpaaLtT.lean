/- TableOf, both sides: contracts. Condition: numbers within their kinds, slices no longer than can be. -/
import Derived.Test.YtpamflkefgpdpaaLtS
namespace Go.Proofs.Ytpamflkefgpdpaa
set_option linter.unusedSimpArgs false
set_option linter.unusedVariables false
set_option maxRecDepth 100000
open Go.RowKit

theorem ask_two2 (c : Cs) (xs : List Bk) : (askB c xs = false ∧ askCode c xs = 1) ∨ (askB c xs = true ∧ askCode c xs = 0 ∧ caseB c = true ∧ okB xs = true) := by
  rcases askB_cases c xs with ⟨_, h1, h2⟩ | ⟨_, _, h1, h2⟩ | ⟨h1, h2, h3, h4⟩
  · exact .inl ⟨h1, h2⟩
  · exact .inl ⟨h1, h2⟩
  · exact .inr ⟨h3, h4, h1, h2⟩
/-- The table that is returned. -/
def tbR (c : Cs) (xs : List Bk) : List (List Int) := if askB c xs then tabV c xs false else []
theorem tbR_no {c : Cs} {xs : List Bk} (h : askB c xs = false) : tbR c xs = [] := by unfold tbR; rw [h]; rfl
theorem tbR_yes {c : Cs} {xs : List Bk} (h : askB c xs = true) : tbR c xs = tabV c xs false := by unfold tbR; rw [h]; rfl
theorem tbR_bd (c : Cs) (xs : List Bk) : TBd (tbR c xs) := by
  rcases ask_two2 c xs with ⟨h, _⟩ | ⟨h, _, h3, h4⟩
  · rw [tbR_no h]; exact ⟨by simp, fun i => by simp⟩
  · rw [tbR_yes h]
    have h60 := okB_len h4
    obtain ⟨_, cl2⟩ := caseB_lens h3
    refine ⟨by rw [tabV_length]; omega, fun i => ?_⟩
    by_cases hi : i < c.hs.length + 1
    · rw [tabV_getD hi, numR_length]; omega
    · rw [List.getD_eq_getElem?_getD, List.getElem?_eq_none (by rw [tabV_length]; omega)]; simp
theorem tp_res {w w' : World} {g : Nat} {c : Cs} {xs : List Bk} {u : Bool} (h : TP w' (fun _ => w.heap.size) g (c.hs.length + 1) (xs.length + 1) (fun s => some (numR c xs u s))) (hg : w.heap.size ≤ g) (h12 : c.hs.length ≤ 12) (h60 : xs.length ≤ 60) : ResT w' w.heap.size w'.heap.size (.slice (some ⟨g, 0, none⟩) (c.hs.length + 1) (c.hs.length + 1)) (tabV c xs u) := by
  have hl := tabV_length c xs u
  have := (h.congr (rows' := fun s => some ((tabV c xs u).getD s [])) (fun s hs => by rw [tabV_getD hs]))
  rw [← hl] at this
  have h2 := this.res hg (by unfold maxLen; omega) (by rw [hl]; unfold maxLen; omega)
  rwa [hl] at h2
theorem ResT.hi_mono {w : World} {lo hi hi' : Nat} {o : Value} {t : List (List Int)} (h : ResT w lo hi o t) (hh : hi ≤ hi') : ResT w lo hi' o t := by
  obtain ⟨vs, h1, h2, h3, h4⟩ := h
  exact ⟨vs, h1, h2, fun k hk => Nat.lt_of_lt_of_le (h3 k hk) hh, fun i v hv k hk => Nat.lt_of_lt_of_le (h4 i v hv k hk) hh⟩
theorem ResT.lo_mono {w : World} {lo lo' hi : Nat} {o : Value} {t : List (List Int)} (h : ResT w lo hi o t) (hh : lo' ≤ lo) : ResT w lo' hi o t := by
  obtain ⟨vs, h1, h2, h3, h4⟩ := h
  exact ⟨vs, h1, ⟨ownsMono h2.1 hh, fun i v hv => ownsMono (h2.2.1 i v hv) hh, h2.2.2⟩, h3, h4⟩

set_option maxHeartbeats 4000000 in
theorem specTableOf_any (c : Cs) (hv : Value) (A : Option Addr) (m : Nat) (xs : List Bk) (wc : c.Wf) (wf : ∀ b ∈ xs, b.Wf) (w : World) (sc : IntsOf .i16 w hv c.hs) (mc : c.hs.length ≤ maxLen) (sl : SliceOf w (.slice A xs.length m) xs) (hm : xs.length ≤ m) (ml : xs.length ≤ maxLen) :
    Calls Try.prog 22 #[.agg #[.int .i16 c.wi, .int .i32 c.lo, hv], .slice A xs.length m] w fun e w' => ∃ u, e = .returned (.tuple #[u, .int .i64 (askCode c xs)]) ∧ ResT w' w.heap.size w'.heap.size u (tbR c xs) ∧ Below w.heap.size w w' := by
  have HC := Lib.hid (CaseAt.new (t := 50) sc)
  have G0 := Lib.hid (show Below w.heap.size w (w.alloc (.cells #[.int .i16 c.wi, .int .i32 c.lo, hv] 50)) by go_grown)
  have SL := Lib.hid (sl.below G0.out)
  have WF := Lib.hid wf
  obtain ⟨H, qh, rfl, -⟩ := sc
  clear wf sl
  rcases ask_two2 c xs with ⟨h1, h2⟩ | ⟨h1, h2, h3, h4⟩
  · have E0 := Lib.hid (tbR_no h1)
    have E1 := Lib.hid h2
    clear h1 h2
    go_enter Try.func22, Try.ntmps22
    go_wp2_with fail
    generalize World.alloc _ _ = W0 at HC G0 SL ⊢
    refine (l02Asked_any c _ _ xs wc WF.out _ _ HC.out mc SL.out ml).mono ?_
    rintro e w1 ⟨rfl, g1⟩
    rw [E1.out]
    have hle : w.heap.size ≤ w1.heap.size := (bnext G0.out g1).size
    go_wp2
    go_ret2
    refine ⟨_, by rw [E1.out]; rfl, ?_, (bnext G0.out g1).alloc hle _⟩
    rw [E0.out]
    exact resT_empty w1 _ hle
  · have E0 := Lib.hid (tbR_yes h1)
    have E1 := Lib.hid h2
    have K1 := Lib.hid h3
    have K2 := Lib.hid h4
    have h60 := okB_len h4
    obtain ⟨cl1, cl2⟩ := caseB_lens h3
    clear h1 h2 h3 h4
    go_enter Try.func22, Try.ntmps22
    go_wp2_with fail
    generalize World.alloc _ _ = W0 at HC G0 SL ⊢
    refine (l02Asked_any c _ _ xs wc WF.out _ _ HC.out mc SL.out ml).mono ?_
    rintro e w1 ⟨rfl, g1⟩
    rw [E1.out]
    go_wp2_with fail
    refine (l02Table_any false c _ A m xs wc WF.out _ _ (HC.out.below g1) K1.out (SL.out.below g1) hm K2.out).mono ?_
    rintro e w2 ⟨g, rfl, hg, ht, g2⟩
    have hle : w.heap.size ≤ w1.heap.size := (bnext G0.out g1).size
    have RT := Lib.hid ((tp_res ht hg cl2 h60).lo_mono hle)
    clear ht
    go_wp2
    go_ret2
    exact ⟨_, by rw [E1.out]; rfl, by rw [E0.out]; exact RT.out, bnext (bnext G0.out g1) g2⟩

set_option maxHeartbeats 4000000 in
theorem tableOf_any (c : Cs) (hv : Value) (A : Option Addr) (m : Nat) (xs : List Bk) (wc : c.Wf) (wf : ∀ b ∈ xs, b.Wf) (w : World) (sc : IntsOf .i16 w hv c.hs) (mc : c.hs.length ≤ maxLen) (sl : SliceOf w (.slice A xs.length m) xs) (hm : xs.length ≤ m) (ml : xs.length ≤ maxLen) :
    Calls Try.prog 24 #[.agg #[.int .i16 c.wi, .int .i32 c.lo, hv], .slice A xs.length m] w fun e w' => ∃ u, e = .returned (.tuple #[u, .int .i64 (askCode c xs)]) ∧ ResT w' w.heap.size w'.heap.size u (tbR c xs) ∧ Below w.heap.size w w' := by
  have HB := Lib.hid (CaseAt.new (t := 50) sc)
  have G0 := Lib.hid (show Below w.heap.size w (w.alloc (.cells #[.int .i16 c.wi, .int .i32 c.lo, hv] 50)) by go_grown)
  have HC := Lib.hid (sc.below G0.out)
  have SL := Lib.hid (sl.below G0.out)
  have WF := Lib.hid wf
  obtain ⟨H, qh, rfl, -⟩ := sc
  clear wf sl
  rcases ask_two2 c xs with ⟨h1, h2⟩ | ⟨h1, h2, h3, h4⟩
  · have E0 := Lib.hid (tbR_no h1)
    have E1 := Lib.hid h2
    have HA := Lib.hid h1
    clear h1 h2
    go_enter Try.func24, Try.ntmps24
    go_wp2_with fail
    generalize World.alloc _ _ = W0 at HB HC G0 SL ⊢
    refine (validBoth_any c _ _ xs _ HC.out mc SL.out ml).mono ?_
    rintro e w1 ⟨rfl, g1⟩
    rw [HA.out]
    have hle : w.heap.size ≤ w1.heap.size := (bnext G0.out g1).size
    go_wp2
    go_ret2
    refine ⟨_, by rw [E1.out]; rfl, ?_, bnext G0.out g1⟩
    rw [E0.out]
    exact resT_nil w1 _
  · have E0 := Lib.hid (tbR_yes h1)
    have E1 := Lib.hid h2
    have HA := Lib.hid h1
    have K1 := Lib.hid h3
    have K2 := Lib.hid h4
    have h60 := okB_len h4
    obtain ⟨cl1, cl2⟩ := caseB_lens h3
    clear h1 h2 h3 h4
    go_enter Try.func24, Try.ntmps24
    go_wp2_with fail
    generalize World.alloc _ _ = W0 at HB HC G0 SL ⊢
    refine (validBoth_any c _ _ xs _ HC.out mc SL.out ml).mono ?_
    rintro e w1 ⟨rfl, g1⟩
    rw [HA.out]
    obtain ⟨c0, c1, c2, cz, -⟩ := HB.out.below g1
    go_wp2_with fail
    refine (leastTable_any false c _ A m xs wc WF.out _ (HC.out.below g1) K1.out (SL.out.below g1) hm K2.out).mono ?_
    rintro e w2 ⟨g, rfl, hg, ht, g2⟩
    clear c0 c1 c2
    have hle : w.heap.size ≤ w1.heap.size := (bnext G0.out g1).size
    have RT := Lib.hid ((tp_res ht hg cl2 h60).lo_mono hle)
    clear ht
    go_wp2
    go_ret2
    exact ⟨_, by rw [E1.out]; rfl, by rw [E0.out]; exact RT.out, bnext (bnext G0.out g1) g2⟩
end Go.Proofs.Ytpamflkefgpdpaa
