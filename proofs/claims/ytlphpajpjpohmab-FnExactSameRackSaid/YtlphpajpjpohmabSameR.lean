/- Racks compared, by the model and by the program: contracts. Condition: no longer than slices can be. -/
import Derived.Test.YtlphpajpjpohmabNeq
import Derived.Test.YtlphpajpjpohmabPl
import Derived.Deep.Quiet
namespace Go.Proofs.Ytlphpajpjpohmab
set_option linter.unusedSimpArgs false
set_option linter.unusedVariables false
set_option maxRecDepth 100000
open Go.RowKit

theorem eqBookD (a b : Bk) (w : World) : (Op.equalIn 9999 59 (.agg #[.int .i16 a.c, .int .u8 a.m0, .int .u8 a.m1, .int .u8 a.m2, .int .i16 a.v, .int .i16 a.wi, .int .i16 a.hi, .int .i16 a.we]) (.agg #[.int .i16 b.c, .int .u8 b.m0, .int .u8 b.m1, .int .u8 b.m2, .int .i16 b.v, .int .i16 b.wi, .int .i16 b.hi, .int .i16 b.we])).run Try.prog w = .ok (decide (a = b)) w := by
  have hS : Try.prog.underlying 59 = some (.struct (Try.prog.fieldsOf 59)) := by kernel_rfl
  have hp : Try.prog.stoodInHeld 59 = false := by kernel_rfl
  have hm := eqMark 9996 a.m0 a.m1 a.m2 b.m0 b.m1 b.m2
  simp only [Nat.reduceAdd] at hm
  rw [show (9999 : Nat) = 9998 + 1 from rfl, run_equalIn_agg w 9998 59 _ _ hS hp]
  simp only [Program.fieldsOf, Try.underlying59]
  go_simp
  obtain ⟨a0, a1, a2, a3, a4, a5, a6, a7⟩ := a
  obtain ⟨b0, b1, b2, b3, b4, b5, b6, b7⟩ := b
  simp only [Bk.mk.injEq]
  by_cases h0 : a0 = b0 <;> by_cases h1 : (a1 = b1 ∧ a2 = b2 ∧ a3 = b3) <;> by_cases h4 : a4 = b4 <;> by_cases h5 : a5 = b5 <;> by_cases h6 : a6 = b6 <;> by_cases h7 : a7 = b7
  all_goals simp [h0, h1, h4, h5, h6, h7]
theorem neqPlaced (x y : Pl) (w : World) : (binOp .neq 61 (.agg #[.int .i16 x.p, .int .i16 x.b.c, .int .u8 x.b.m0, .int .u8 x.b.m1, .int .u8 x.b.m2, .int .i16 x.b.v, .int .i16 x.b.wi, .int .i16 x.b.hi, .int .i16 x.b.we]) (.agg #[.int .i16 y.p, .int .i16 y.b.c, .int .u8 y.b.m0, .int .u8 y.b.m1, .int .u8 y.b.m2, .int .i16 y.b.v, .int .i16 y.b.wi, .int .i16 y.b.hi, .int .i16 y.b.we])).run Try.prog w = .ok (.bool (!decide (x = y))) w := by
  have hS : Try.prog.underlying 61 = some (.struct (Try.prog.fieldsOf 61)) := by kernel_rfl
  have hp : Try.prog.stoodInHeld 61 = false := by kernel_rfl
  have hm := eqBookD x.b y.b
  rw [run_neq_struct, show (10000 : Nat) = 9999 + 1 from rfl, run_equalIn_agg w 9999 61 _ _ hS hp]
  simp only [Program.fieldsOf, Try.underlying61]
  go_simp
  obtain ⟨p, a⟩ := x
  obtain ⟨q, b⟩ := y
  simp only [Pl.mk.injEq]
  by_cases h0 : p = q <;> by_cases h1 : a = b
  all_goals simp [h0, h1]

def SameP (xs ys : List Pl) (k : Nat) : Prop := ∀ (i : Nat) (h1 : i < xs.length) (h2 : i < ys.length), i < k → xs[i] = ys[i]
theorem SameP.succ {xs ys : List Pl} {k : Nat} (h : SameP xs ys k) (h1 : k < xs.length) (h2 : k < ys.length) (e : xs[k] = ys[k]) : SameP xs ys (k + 1) := by
  intro i hi1 hi2 hik
  by_cases he : i = k
  · subst he; exact e
  · exact h i hi1 hi2 (by omega)
def srB (r s : Rk) : Bool := decide (r.n = s.n) && decide (r.ps = s.ps)

set_option maxHeartbeats 4000000 in
theorem slicesEqualP_any (v1 v2 : Value) (xs ys : List Pl) (w : World) (hs1 : PlsOf w v1 xs) (hs2 : PlsOf w v2 ys) (hn1 : xs.length ≤ maxLen) (hn2 : ys.length ≤ maxLen) :
    Calls Try.prog 32 #[v1, v2] w fun e w' => e = .returned (.bool (decide (xs = ys))) ∧ Below w.heap.size w w' := by
  obtain ⟨A1, k1, rfl, hs1⟩ := hs1
  obtain ⟨A2, k2, rfl, hs2⟩ := hs2
  unfold maxLen at hn1 hn2
  have H1 := Lib.hid hs1
  have H2 := Lib.hid hs2
  clear hs1 hs2
  by_cases hl : xs.length = ys.length
  · have hl' : ((xs.length : Int) != (ys.length : Int)) = false := by rw [hl]; simp
    have HL := Lib.hid hl
    have hle1 : xs.length ≤ ys.length := by omega
    have hle2 : ys.length ≤ xs.length := by omega
    clear hl
    go_enter Try.func32, Try.ntmps32
    go_wp2
    go_loopw [13] (fun i wr => ∃ k : Nat, k ≤ xs.length ∧ i = .int .i64 k ∧ SameP xs ys k ∧ Below w.heap.size w wr) (fun i _ => xs.length - (intOf i).toNat)
    case atStart => exact ⟨0, Nat.zero_le _, rfl, fun _ _ _ h => absurd h (Nat.not_lt_zero _), Below.refl _ _⟩
    case round =>
      obtain ⟨k, hk, rfl, hsame, hb⟩ := hrel
      have HA := Lib.hid hsame
      clear hsame
      by_cases hlt : k < xs.length
      · have hlt2 : k < ys.length := by omega
        obtain ⟨g1, o1, rfl, hg1, ha1⟩ := H1.out (by omega)
        obtain ⟨g2, o2, rfl, hg2, ha2⟩ := H2.out (by omega)
        obtain ⟨p0, p1, p2, p3, p4, p5, p6, p7, p8⟩ := plAt_some (ha1.below hb hg1) hlt
        obtain ⟨q0, q1, q2, q3, q4, q5, q6, q7, q8⟩ := plAt_some (ha2.below hb hg2) hlt2
        have hq := neqPlaced xs[k] ys[k]
        by_cases he : xs[k] = ys[k]
        · rw [decide_eq_true he] at hq
          have HE := Lib.hid he
          clear ha1 ha2 he
          go_wp2
          go_quiet (fail)
          clear p0 p1 p2 p3 p4 p5 p6 p7 p8 q0 q1 q2 q3 q4 q5 q6 q7 q8 hq
          go_wp2
          go_roundw
          case rel => exact ⟨k + 1, by omega, by go_num, HA.out.succ hlt hlt2 HE.out, below_drewN hb _⟩
          case measure => simp [intOf]; omega
        · rw [decide_eq_false he] at hq
          have HE := Lib.hid he
          clear ha1 ha2 he
          go_wp2
          go_quiet (fail)
          clear p0 p1 p2 p3 p4 p5 p6 p7 p8 q0 q1 q2 q3 q4 q5 q6 q7 q8 hq
          go_wp2
          go_ret
          refine ⟨?_, below_drewN hb _⟩
          rw [decide_eq_false (fun e => HE.out (by subst e; rfl))]
          rfl
      · obtain rfl : k = xs.length := by omega
        go_wp2
        go_ret
        refine ⟨?_, hb⟩
        rw [decide_eq_true (List.ext_getElem HL.out fun i h1 h2 => HA.out i h1 h2 h1)]
        rfl
  · have hl' : ((xs.length : Int) != (ys.length : Int)) = true := by rw [bne_iff_ne]; omega
    have HL := Lib.hid hl
    clear hl
    go_enter Try.func32, Try.ntmps32
    go_wp2
    go_ret
    refine ⟨?_, Below.refl _ _⟩
    rw [decide_eq_false (fun e => HL.out (by rw [e]))]
    rfl

set_option maxHeartbeats 4000000 in
theorem sameRack_any (r s : Rk) (hv1 hv2 : Value) (w : World) (hs1 : PlsOf w hv1 r.ps) (hs2 : PlsOf w hv2 s.ps) (ml1 : r.ps.length ≤ maxLen) (ml2 : s.ps.length ≤ maxLen) :
    Calls Try.prog 10 #[.agg #[.int .i16 r.n, hv1], .agg #[.int .i16 s.n, hv2]] w fun e w' => e = .returned (.bool (srB r s)) ∧ Below w.heap.size w w' := by
  have HS1 := Lib.hid hs1
  have HS2 := Lib.hid hs2
  obtain ⟨A1, k1, rfl, -⟩ := hs1
  obtain ⟨A2, k2, rfl, -⟩ := hs2
  have G0 := Lib.hid (show Below w.heap.size w ((w.alloc (.cells #[.int .i16 r.n, .slice A1 r.ps.length k1] 30)).alloc (.cells #[.int .i16 s.n, .slice A2 s.ps.length k2] 30)) by go_grown)
  by_cases hn : r.n = s.n
  · have E := Lib.hid (show srB r s = decide (r.ps = s.ps) by unfold srB; rw [decide_eq_true hn]; rfl)
    have d1 : (r.n == s.n) = true := by simpa using hn
    obtain ⟨b, hbb⟩ : ∃ b, decide (r.ps = s.ps) = b := ⟨_, rfl⟩
    have C := Lib.hid (fun W (hb : Below w.heap.size w W) => slicesEqualP_any (.slice A1 r.ps.length k1) (.slice A2 s.ps.length k2) r.ps s.ps W (HS1.out.below hb) (HS2.out.below hb) ml1 ml2)
    rw [hbb] at C E
    clear hbb
    clear ml1 ml2 hn
    go_enter Try.func10, Try.ntmps10
    go_wp2_with fail
    refine (C.out _ (by first | exact G0.out | exact (by go_grown))).mono ?_
    rintro e w1 ⟨rfl, g1⟩
    go_wp2
    go_ret
    exact ⟨by rw [E.out]; rfl, bnext G0.out g1⟩
  · have E := Lib.hid (show srB r s = false by unfold srB; rw [decide_eq_false hn]; rfl)
    have d1 : (r.n == s.n) = false := by simpa using hn
    clear hn
    go_enter Try.func10, Try.ntmps10
    go_wp2
    go_ret
    exact ⟨by rw [E.out]; rfl, G0.out⟩

set_option maxHeartbeats 8000000 in
theorem specSameRack_any (r s : Rk) (hv1 hv2 : Value) (w : World) (hs1 : PlsOf w hv1 r.ps) (hs2 : PlsOf w hv2 s.ps) (ml1 : r.ps.length ≤ maxLen) (ml2 : s.ps.length ≤ maxLen) :
    Calls Try.prog 8 #[.agg #[.int .i16 r.n, hv1], .agg #[.int .i16 s.n, hv2]] w fun e w' => e = .returned (.bool (srB r s)) ∧ Below w.heap.size w w' := by
  obtain ⟨A1, k1, rfl, hat1⟩ := hs1
  obtain ⟨A2, k2, rfl, hat2⟩ := hs2
  unfold maxLen at ml1 ml2
  have H1 := Lib.hid hat1
  have H2 := Lib.hid hat2
  have G0 := Lib.hid (show Below w.heap.size w ((w.alloc (.cells #[.int .i16 r.n, .slice A1 r.ps.length k1] 30)).alloc (.cells #[.int .i16 s.n, .slice A2 s.ps.length k2] 30)) by go_grown)
  have KA := Lib.hid (show ((w.alloc (.cells #[.int .i16 r.n, .slice A1 r.ps.length k1] 30)).alloc (.cells #[.int .i16 s.n, .slice A2 s.ps.length k2] 30)).heap[w.heap.size]? = some (Obj.cells #[.int .i16 r.n, .slice A1 r.ps.length k1] 30 (0, 0)) from (Below.heap_alloc _ _ _ (by simp)).trans (heap_alloc_new w _))
  have KB := Lib.hid (show ((w.alloc (.cells #[.int .i16 r.n, .slice A1 r.ps.length k1] 30)).alloc (.cells #[.int .i16 s.n, .slice A2 s.ps.length k2] 30)).heap[w.heap.size + 1]? = some (Obj.cells #[.int .i16 s.n, .slice A2 s.ps.length k2] 30 (0, 0)) from by
    have := heap_alloc_new (w.alloc (.cells #[.int .i16 r.n, .slice A1 r.ps.length k1] 30)) (.cells #[.int .i16 s.n, .slice A2 s.ps.length k2] 30)
    rwa [World.size_alloc] at this)
  clear hat1 hat2
  by_cases hn : r.n = s.n
  · have d1 : (r.n != s.n) = false := by simp [hn]
    have d2 : (r.n == s.n) = true := by simpa using hn
    have E := Lib.hid (show srB r s = decide (r.ps = s.ps) by unfold srB; rw [decide_eq_true hn]; rfl)
    clear hn
    by_cases hl : r.ps.length = s.ps.length
    · have hl' : ((r.ps.length : Int) != (s.ps.length : Int)) = false := by rw [hl]; simp
      have HL := Lib.hid hl
      have hle1 : r.ps.length ≤ s.ps.length := by omega
      have hle2 : s.ps.length ≤ r.ps.length := by omega
      clear hl
      go_enter Try.func8, Try.ntmps8
      go_wp2
      go_loopw [5] (fun i_ wr => ∃ k : Nat, k ≤ r.ps.length ∧ i_ = .int .i64 (k : Int) ∧ SameP r.ps s.ps k ∧ wr.heap[w.heap.size]? = some (Obj.cells #[.int .i16 r.n, .slice A1 r.ps.length k1] 30 (0, 0)) ∧ wr.heap[w.heap.size + 1]? = some (Obj.cells #[.int .i16 s.n, .slice A2 s.ps.length k2] 30 (0, 0)) ∧ Below w.heap.size w wr) (fun i_ _ => r.ps.length - (intOf i_).toNat)
      case atStart => exact ⟨0, Nat.zero_le _, rfl, fun _ _ _ h => absurd h (Nat.not_lt_zero _), KA.out, KB.out, G0.out⟩
      case round =>
        obtain ⟨k, hk, rfl, hsame, ka, kb, hb⟩ := hrel
        have HA := Lib.hid hsame
        have CA := Lib.hid ka
        have CB := Lib.hid kb
        have a1 := cell_of_row wr _ 1 _ _ _ ka
        have b1 := cell_of_row wr _ 1 _ _ _ kb
        simp only [List.getElem?_toArray, List.getElem?_cons_zero, List.getElem?_cons_succ] at a1 b1
        clear hsame ka kb
        by_cases hlt : k < r.ps.length
        · have hlt2 : k < s.ps.length := by omega
          obtain ⟨g1, o1, rfl, hg1, ha1⟩ := H1.out (by omega)
          obtain ⟨g2, o2, rfl, hg2, ha2⟩ := H2.out (by omega)
          obtain ⟨p0, p1, p2, p3, p4, p5, p6, p7, p8⟩ := plAt_some (ha1.below hb hg1) hlt
          obtain ⟨q0, q1, q2, q3, q4, q5, q6, q7, q8⟩ := plAt_some (ha2.below hb hg2) hlt2
          have hq := neqPlaced r.ps[k] s.ps[k]
          by_cases he : r.ps[k] = s.ps[k]
          · rw [decide_eq_true he] at hq
            have HE := Lib.hid he
            clear ha1 ha2 he
            go_wp2
            go_quiet (fail)
            clear p0 p1 p2 p3 p4 p5 p6 p7 p8 q0 q1 q2 q3 q4 q5 q6 q7 q8 hq a1 b1
            go_wp2
            go_roundw
            case rel => exact ⟨k + 1, by omega, by go_num, HA.out.succ hlt hlt2 HE.out, CA.out, CB.out, below_drewN hb _⟩
            case measure => simp [intOf]; omega
          · rw [decide_eq_false he] at hq
            have HE := Lib.hid he
            clear ha1 ha2 he
            go_wp2
            go_quiet (fail)
            clear p0 p1 p2 p3 p4 p5 p6 p7 p8 q0 q1 q2 q3 q4 q5 q6 q7 q8 hq a1 b1
            go_wp2
            go_ret
            refine ⟨?_, below_drewN hb _⟩
            rw [E.out, decide_eq_false (fun e => HE.out (by simp only [e]))]
            rfl
        · obtain rfl : k = r.ps.length := by omega
          go_wp2
          go_ret
          refine ⟨?_, hb⟩
          rw [E.out, decide_eq_true (List.ext_getElem HL.out fun i h1 h2 => HA.out i h1 h2 h1)]
          rfl
    · have hl' : ((r.ps.length : Int) != (s.ps.length : Int)) = true := by rw [bne_iff_ne]; omega
      have HL := Lib.hid hl
      clear hl
      go_enter Try.func8, Try.ntmps8
      go_wp2
      go_ret
      refine ⟨?_, G0.out⟩
      rw [E.out, decide_eq_false (fun e => HL.out (by rw [e]))]
      rfl
  · have d1 : (r.n != s.n) = true := by simpa using hn
    have d2 : (r.n == s.n) = false := by simpa using hn
    have E := Lib.hid (show srB r s = false by unfold srB; rw [decide_eq_false hn]; rfl)
    clear hn
    go_enter Try.func8, Try.ntmps8
    go_wp2
    go_ret
    refine ⟨?_, G0.out⟩
    rw [E.out]
    rfl
end Go.Proofs.Ytlphpajpjpohmab
