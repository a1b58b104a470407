/- Cases compared: the model's function, the program's and the library's, contracts. Condition: heights no longer than a slice can be. -/
import Derived.Test.YtdkdchhkfachmaaCaseOk
import Derived.Deep.Quiet
namespace Go.Proofs.Ytdkdchhkfachmaa
set_option linter.unusedSimpArgs false
set_option linter.unusedVariables false
set_option maxRecDepth 100000
open Go.RowKit

def SameI (xs ys : List Int) (k : Nat) : Prop := ∀ (i : Nat) (h1 : i < xs.length) (h2 : i < ys.length), i < k → xs[i] = ys[i]
theorem SameI.succ {xs ys : List Int} {k : Nat} (h : SameI xs ys k) (h1 : k < xs.length) (h2 : k < ys.length) (e : xs[k] = ys[k]) : SameI xs ys (k + 1) := by
  intro i hi1 hi2 hik
  by_cases he : i = k
  · subst he; exact e
  · exact h i hi1 hi2 (by omega)
def sameC (a b : Cs) : Bool := decide (a.wi = b.wi) && (decide (a.lo = b.lo) && decide (a.hs = b.hs))

set_option maxHeartbeats 2000000 in
theorem slicesEqual16_any (v1 v2 : Value) (xs ys : List Int) (w : World) (hs1 : IntsOf .i16 w v1 xs) (hs2 : IntsOf .i16 w v2 ys) (hn1 : xs.length ≤ maxLen) (hn2 : ys.length ≤ maxLen) :
    Calls Try.prog 59 #[v1, v2] w fun e w' => e = .returned (.bool (decide (xs = ys))) ∧ Below w.heap.size w w' := by
  obtain ⟨A1, k1, rfl, hs1⟩ := hs1
  obtain ⟨A2, k2, rfl, hs2⟩ := hs2
  unfold maxLen at hn1 hn2
  have H1 := Lib.hid hs1
  have H2 := Lib.hid hs2
  clear hs1 hs2
  by_cases hl : xs.length = ys.length
  · have hl' : ((xs.length : Int) != (ys.length : Int)) = false := by rw [hl]; simp
    have HL := Lib.hid hl
    have hle1 : xs.length ≤ ys.length := by omega
    have hle2 : ys.length ≤ xs.length := by omega
    clear hl
    go_enter Try.func59, Try.ntmps59
    go_wp2
    go_loopw [13] (fun i wr => ∃ k : Nat, k ≤ xs.length ∧ i = .int .i64 k ∧ SameI xs ys k ∧ Below w.heap.size w wr) (fun i _ => xs.length - (intOf i).toNat)
    case atStart => exact ⟨0, Nat.zero_le _, rfl, fun _ _ _ h => absurd h (Nat.not_lt_zero _), by first | exact Below.refl _ _ | exact below_drewN (Below.refl _ _) _⟩
    case round =>
      obtain ⟨k, hk, rfl, hsame, hb⟩ := hrel
      have HA := Lib.hid hsame
      clear hsame
      by_cases hlt : k < xs.length
      · have hlt2 : k < ys.length := by omega
        obtain ⟨g1, o1, rfl, hg1, ha1⟩ := H1.out (by omega)
        obtain ⟨g2, o2, rfl, hg2, ha2⟩ := H2.out (by omega)
        have p0 := ha1.below hb hg1 k hlt
        have q0 := ha2.below hb hg2 k hlt2
        by_cases he : xs[k] = ys[k]
        · have hq : (xs[k] != ys[k]) = false := by rw [he]; simp
          have HE := Lib.hid he
          clear ha1 ha2 he
          go_wp2
          go_quiet (fail)
          clear p0 q0 hq
          go_wp2
          go_roundw
          case rel => exact ⟨k + 1, by omega, by go_num, HA.out.succ hlt hlt2 HE.out, below_drewN hb _⟩
          case measure => simp [intOf]; omega
        · have hq : (xs[k] != ys[k]) = true := by simpa using he
          have HE := Lib.hid he
          clear ha1 ha2 he
          go_wp2
          go_quiet (fail)
          clear p0 q0 hq
          go_wp2
          go_ret
          refine ⟨?_, below_drewN hb _⟩
          rw [decide_eq_false (fun e => HE.out (by subst e; rfl))]
          rfl
      · obtain rfl : k = xs.length := by omega
        go_wp2
        go_ret
        refine ⟨?_, hb⟩
        rw [decide_eq_true (List.ext_getElem HL.out fun i h1 h2 => HA.out i h1 h2 h1)]
        rfl
    
  · have hl' : ((xs.length : Int) != (ys.length : Int)) = true := by rw [bne_iff_ne]; omega
    have HL := Lib.hid hl
    clear hl
    go_enter Try.func59, Try.ntmps59
    go_wp2
    go_ret
    refine ⟨?_, Below.refl _ _⟩
    rw [decide_eq_false (fun e => HL.out (by rw [e]))]
    rfl

set_option maxHeartbeats 4000000 in
theorem sameCase_any (a b : Cs) (v1 v2 : Value) (w : World) (s1 : IntsOf .i16 w v1 a.hs) (s2 : IntsOf .i16 w v2 b.hs) (n1 : a.hs.length ≤ maxLen) (n2 : b.hs.length ≤ maxLen) :
    Calls Try.prog 21 #[.agg #[.int .i16 a.wi, .int .i32 a.lo, v1], .agg #[.int .i16 b.wi, .int .i32 b.lo, v2]] w fun e w' => e = .returned (.bool (sameC a b)) ∧ Below w.heap.size w w' := by
  have G0 := Lib.hid (show Below w.heap.size w ((w.alloc (.cells #[.int .i16 a.wi, .int .i32 a.lo, v1] 28)).alloc (.cells #[.int .i16 b.wi, .int .i32 b.lo, v2] 28)) by go_grown)
  have S1 := Lib.hid s1
  have S2 := Lib.hid s2
  obtain ⟨A1, k1, rfl, -⟩ := s1
  obtain ⟨A2, k2, rfl, -⟩ := s2
  by_cases hw : a.wi = b.wi
  · have E1 : (a.wi == b.wi) = true := by simpa using hw
    by_cases hl : a.lo = b.lo
    · have E2 : (a.lo == b.lo) = true := by simpa using hl
      have E := Lib.hid (show sameC a b = decide (a.hs = b.hs) by unfold sameC; rw [decide_eq_true hw, decide_eq_true hl]; rfl)
      clear hw hl
      go_enter Try.func21, Try.ntmps21
      go_wp2_with fail
      refine (slicesEqual16_any _ _ _ _ _ (S1.out.below G0.out) (S2.out.below G0.out) n1 n2).mono ?_
      rintro e w1 ⟨rfl, h1⟩
      generalize decide (a.hs = b.hs) = r at E ⊢
      go_wp2
      go_ret
      exact ⟨by rw [E.out]; rfl, bnext G0.out h1⟩
    · have E2 : (a.lo == b.lo) = false := by simpa using hl
      have E := Lib.hid (show sameC a b = false by unfold sameC; rw [decide_eq_false hl]; simp)
      clear hw hl
      go_enter Try.func21, Try.ntmps21
      go_wp2
      go_ret
      exact ⟨by rw [E.out]; rfl, G0.out⟩
  · have E1 : (a.wi == b.wi) = false := by simpa using hw
    have E := Lib.hid (show sameC a b = false by unfold sameC; rw [decide_eq_false hw]; rfl)
    clear hw
    go_enter Try.func21, Try.ntmps21
    go_wp2
    go_ret
    exact ⟨by rw [E.out]; rfl, G0.out⟩


set_option maxHeartbeats 4000000 in
theorem l02Same_any (a b : Cs) (v1 v2 : Value) (g h : Nat) (w : World) (h1 : CaseAt w g a v1) (h2 : CaseAt w h b v2) (n1 : a.hs.length ≤ maxLen) (n2 : b.hs.length ≤ maxLen) :
    Calls Try.prog 58 #[.pointer (some ⟨g, 0, none⟩), .pointer (some ⟨h, 0, none⟩)] w fun e w' => e = .returned (.bool (sameC a b)) ∧ Below w.heap.size w w' := by
  have C1 := Lib.hid h1
  have C2 := Lib.hid h2
  obtain ⟨p0, p1, p2, gl1, s1⟩ := h1
  obtain ⟨q0, q1, q2, gl2, s2⟩ := h2
  obtain ⟨A1, k1, rfl, hs1⟩ := s1
  obtain ⟨A2, k2, rfl, hs2⟩ := s2
  unfold maxLen at n1 n2
  have H1 := Lib.hid hs1
  have H2 := Lib.hid hs2
  clear hs1 hs2
  by_cases hw : a.wi = b.wi
  · have E1 : (a.wi != b.wi) = false := by rw [hw]; simp
    by_cases hl : a.lo = b.lo
    · have E2 : (a.lo != b.lo) = false := by rw [hl]; simp
      have E := Lib.hid (show sameC a b = decide (a.hs = b.hs) by unfold sameC; rw [decide_eq_true hw, decide_eq_true hl]; rfl)
      clear hw hl
      by_cases hl : a.hs.length = b.hs.length
      · have hl' : ((a.hs.length : Int) != (b.hs.length : Int)) = false := by rw [hl]; simp
        have HL := Lib.hid hl
        have hle1 : a.hs.length ≤ b.hs.length := by omega
        have hle2 : b.hs.length ≤ a.hs.length := by omega
        clear hl
        go_enter Try.func58, Try.ntmps58
        go_wp2
        go_quiet (fail)
        clear p0 p1 p2 q0 q1 q2
        go_wp2
        go_loopw [5] (fun i wr => ∃ k : Nat, k ≤ a.hs.length ∧ i = .int .i64 k ∧ SameI a.hs b.hs k ∧ Below w.heap.size w wr) (fun i _ => a.hs.length - (intOf i).toNat)
        case atStart => exact ⟨0, Nat.zero_le _, rfl, fun _ _ _ h => absurd h (Nat.not_lt_zero _), by first | exact Below.refl _ _ | exact below_drewN (Below.refl _ _) _⟩
        case round =>
          obtain ⟨k, hk, rfl, hsame, hb⟩ := hrel
          have HA := Lib.hid hsame
          clear hsame
          obtain ⟨-, -, p2, -, -⟩ := C1.out.below hb
          obtain ⟨-, -, q2, -, -⟩ := C2.out.below hb
          by_cases hlt : k < a.hs.length
          · have hlt2 : k < b.hs.length := by omega
            obtain ⟨g1, o1, rfl, hg1, ha1⟩ := H1.out (by omega)
            obtain ⟨g2, o2, rfl, hg2, ha2⟩ := H2.out (by omega)
            have p0 := ha1.below hb hg1 k hlt
            have q0 := ha2.below hb hg2 k hlt2
            by_cases he : a.hs[k] = b.hs[k]
            · have hq : (a.hs[k] != b.hs[k]) = false := by rw [he]; simp
              have HE := Lib.hid he
              clear ha1 ha2 he
              go_wp2
              go_quiet (fail)
              clear p0 q0 hq
              go_wp2
              go_roundw
              case rel => exact ⟨k + 1, by omega, by go_num, HA.out.succ hlt hlt2 HE.out, below_drewN hb _⟩
              case measure => simp [intOf]; omega
            · have hq : (a.hs[k] != b.hs[k]) = true := by simpa using he
              have HE := Lib.hid he
              clear ha1 ha2 he
              go_wp2
              go_quiet (fail)
              clear p0 q0 hq
              go_wp2
              go_ret
              refine ⟨?_, below_drewN hb _⟩
              rw [E.out, decide_eq_false (fun e => HE.out (by simp only [e]))]
              rfl
          · obtain rfl : k = a.hs.length := by omega
            go_wp2
            go_ret
            refine ⟨?_, hb⟩
            rw [E.out, decide_eq_true (List.ext_getElem HL.out fun i h1 h2 => HA.out i h1 h2 h1)]
            rfl
        
      · have hl' : ((a.hs.length : Int) != (b.hs.length : Int)) = true := by rw [bne_iff_ne]; omega
        have HL := Lib.hid hl
        clear hl
        go_enter Try.func58, Try.ntmps58
        go_wp2
        go_quiet (fail)
        go_wp2
        go_ret
        refine ⟨?_, below_drewN (Below.refl _ _) _⟩
        rw [E.out, decide_eq_false (fun e => HL.out (by rw [e]))]
        rfl
    · have E2 : (a.lo != b.lo) = true := by simpa using hl
      have E := Lib.hid (show sameC a b = false by unfold sameC; rw [decide_eq_false hl]; simp)
      clear hw hl
      go_enter Try.func58, Try.ntmps58
      go_wp2
      go_quiet (fail)
      go_wp2
      go_ret
      exact ⟨by rw [E.out]; rfl, below_drewN (Below.refl _ _) _⟩
  · have E1 : (a.wi != b.wi) = true := by simpa using hw
    have E := Lib.hid (show sameC a b = false by unfold sameC; rw [decide_eq_false hw]; rfl)
    clear hw
    go_enter Try.func58, Try.ntmps58
    go_wp2
    go_quiet (fail)
    go_wp2
    go_ret
    exact ⟨by rw [E.out]; rfl, below_drewN (Below.refl _ _) _⟩

set_option maxHeartbeats 1000000 in
theorem specSameCase_any (a b : Cs) (v1 v2 : Value) (w : World) (s1 : IntsOf .i16 w v1 a.hs) (s2 : IntsOf .i16 w v2 b.hs) (n1 : a.hs.length ≤ maxLen) (n2 : b.hs.length ≤ maxLen) :
    Calls Try.prog 20 #[.agg #[.int .i16 a.wi, .int .i32 a.lo, v1], .agg #[.int .i16 b.wi, .int .i32 b.lo, v2]] w fun e w' => e = .returned (.bool (sameC a b)) ∧ Below w.heap.size w w' := by
  have G0 := Lib.hid (show Below w.heap.size w ((w.alloc (.cells #[.int .i16 a.wi, .int .i32 a.lo, v1] 28)).alloc (.cells #[.int .i16 b.wi, .int .i32 b.lo, v2] 28)) by go_grown)
  have C1 := Lib.hid ((CaseAt.new (t := 28) s1).below ((Below.refl _ _).alloc (Nat.le_refl _) (.cells #[.int .i16 b.wi, .int .i32 b.lo, v2] 28)))
  have C2 := Lib.hid (CaseAt.new (w := w.alloc (.cells #[.int .i16 a.wi, .int .i32 a.lo, v1] 28)) (t := 28) (s2.below ((Below.refl _ _).alloc (Nat.le_refl _) _)))
  obtain ⟨A1, k1, rfl, -⟩ := s1
  obtain ⟨A2, k2, rfl, -⟩ := s2
  go_enter Try.func20, Try.ntmps20
  go_wp2_with fail
  refine (l02Same_any a b _ _ _ _ _ C1.out (by simpa using C2.out) n1 n2).mono ?_
  rintro e w1 ⟨rfl, h1⟩
  go_wp2
  go_ret
  exact ⟨rfl, bnext G0.out h1⟩

end Go.Proofs.Ytdkdchhkfachmaa
