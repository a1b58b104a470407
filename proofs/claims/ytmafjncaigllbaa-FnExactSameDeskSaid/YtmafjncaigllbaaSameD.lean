/- Desks compared, by the model and by the program: contracts. Condition: no longer than slices can be, numbers within their kinds. -/
import Derived.Test.YtmafjncaigllbaaDkO
import Derived.Test.YtmafjncaigllbaaDkI3
import Derived.Deep.Quiet
namespace Go.Proofs.Ytmafjncaigllbaa
set_option linter.unusedSimpArgs false
set_option linter.unusedVariables false
set_option maxRecDepth 100000
open Go.RowKit

def SameQ (xs ys : List Int) (k : Nat) : Prop := ∀ (i : Nat) (h1 : i < xs.length) (h2 : i < ys.length), i < k → xs[i] = ys[i]
theorem SameQ.succ {xs ys : List Int} {k : Nat} (h : SameQ xs ys k) (h1 : k < xs.length) (h2 : k < ys.length) (e : xs[k] = ys[k]) : SameQ xs ys (k + 1) := by
  intro i hi1 hi2 hik
  by_cases he : i = k
  · subst he; exact e
  · exact h i hi1 hi2 (by omega)
def SameC (xs ys : List Cp) (k : Nat) : Prop := ∀ (i : Nat) (h1 : i < xs.length) (h2 : i < ys.length), i < k → xs[i] = ys[i]
theorem SameC.succ {xs ys : List Cp} {k : Nat} (h : SameC xs ys k) (h1 : k < xs.length) (h2 : k < ys.length) (e : xs[k] = ys[k]) : SameC xs ys (k + 1) := by
  intro i hi1 hi2 hik
  by_cases he : i = k
  · subst he; exact e
  · exact h i hi1 hi2 (by omega)
def sdB (d e : Dk) : Bool := decide (d.day = e.day) && decide (d.cs = e.cs)
abbrev hdB (a b : Cp) : Prop := a.st = b.st ∧ a.who = b.who ∧ a.due = b.due ∧ a.ren = b.ren
theorem cp_eq_t {a b : Cp} (h : hdB a b) : decide (a = b) = decide (a.q = b.q) := by
  obtain ⟨a0, a1, a2, a3, a4⟩ := a
  obtain ⟨b0, b1, b2, b3, b4⟩ := b
  obtain ⟨h0, h1, h2, h3⟩ := h
  dsimp only at h0 h1 h2 h3
  subst h0 h1 h2 h3
  simp
theorem cp_eq_f {a b : Cp} (h : ¬ hdB a b) : decide (a = b) = false := decide_eq_false (fun e => h (by subst e; exact ⟨rfl, rfl, rfl, rfl⟩))
theorem cp_ne_q {a b : Cp} (h : ¬ a.q = b.q) : ¬ a = b := fun e => h (by rw [e])
theorem cp_eq {a b : Cp} (h : hdB a b) (hq : a.q = b.q) : a = b := by
  have := cp_eq_t h
  rw [decide_eq_true hq] at this
  exact of_decide_eq_true this

set_option maxHeartbeats 2000000 in
theorem slicesEqual8_any (v1 v2 : Value) (xs ys : List Int) (w : World) (hs1 : IntsOf .i8 w v1 xs) (hs2 : IntsOf .i8 w v2 ys) (hn1 : xs.length ≤ maxLen) (hn2 : ys.length ≤ maxLen) :
    Calls Try.prog 92 #[v1, v2] w fun e w' => e = .returned (.bool (decide (xs = ys))) ∧ Below w.heap.size w w' := by
  obtain ⟨A1, k1, rfl, hs1⟩ := hs1
  obtain ⟨A2, k2, rfl, hs2⟩ := hs2
  unfold maxLen at hn1 hn2
  have H1 := Lib.hid hs1
  have H2 := Lib.hid hs2
  clear hs1 hs2
  by_cases hl : xs.length = ys.length
  · have hl' : ((xs.length : Int) != (ys.length : Int)) = false := by rw [hl]; simp
    have HL := Lib.hid hl
    have hle1 : xs.length ≤ ys.length := by omega
    have hle2 : ys.length ≤ xs.length := by omega
    clear hl
    go_enter Try.func92, Try.ntmps92
    go_wp2
    go_loopw [13] (fun i wr => ∃ k : Nat, k ≤ xs.length ∧ i = .int .i64 k ∧ SameQ xs ys k ∧ Below w.heap.size w wr) (fun i _ => xs.length - (intOf i).toNat)
    case atStart => exact ⟨0, Nat.zero_le _, rfl, fun _ _ _ h => absurd h (Nat.not_lt_zero _), by first | exact Below.refl _ _ | exact below_drewN (Below.refl _ _) _⟩
    case round =>
      obtain ⟨k, hk, rfl, hsame, hb⟩ := hrel
      have HA := Lib.hid hsame
      clear hsame
      by_cases hlt : k < xs.length
      · have hlt2 : k < ys.length := by omega
        obtain ⟨g1, o1, rfl, hg1, ha1⟩ := H1.out (by omega)
        obtain ⟨g2, o2, rfl, hg2, ha2⟩ := H2.out (by omega)
        have p0 := ha1.below hb hg1 k hlt
        have q0 := ha2.below hb hg2 k hlt2
        by_cases he : xs[k] = ys[k]
        · have hq : (xs[k] != ys[k]) = false := by rw [he]; simp
          have HE := Lib.hid he
          clear ha1 ha2 he
          go_wp2
          go_quiet (fail)
          clear p0 q0 hq
          go_wp2
          go_roundw
          case rel => exact ⟨k + 1, by omega, by go_num, HA.out.succ hlt hlt2 HE.out, below_drewN hb _⟩
          case measure => simp [intOf]; omega
        · have hq : (xs[k] != ys[k]) = true := by simpa using he
          have HE := Lib.hid he
          clear ha1 ha2 he
          go_wp2
          go_quiet (fail)
          clear p0 q0 hq
          go_wp2
          go_ret
          refine ⟨?_, below_drewN hb _⟩
          rw [decide_eq_false (fun e => HE.out (by subst e; rfl))]
          rfl
      · obtain rfl : k = xs.length := by omega
        go_wp2
        go_ret
        refine ⟨?_, hb⟩
        rw [decide_eq_true (List.ext_getElem HL.out fun i h1 h2 => HA.out i h1 h2 h1)]
        rfl
    
  · have hl' : ((xs.length : Int) != (ys.length : Int)) = true := by rw [bne_iff_ne]; omega
    have HL := Lib.hid hl
    clear hl
    go_enter Try.func92, Try.ntmps92
    go_wp2
    go_ret
    refine ⟨?_, Below.refl _ _⟩
    rw [decide_eq_false (fun e => HL.out (by rw [e]))]
    rfl


set_option maxHeartbeats 4000000 in
theorem sameCopy_any (a b : Cp) (wa : a.Wf) (wb : b.Wf) (u1 u2 : Value) (w : World) (s1 : IntsOf .i8 w u1 a.q) (s2 : IntsOf .i8 w u2 b.q) (n1 : a.q.length ≤ maxLen) (n2 : b.q.length ≤ maxLen) :
    Calls Try.prog 56 #[.agg #[.int .i8 a.st, .int .i8 a.who, .int .i16 a.due, .int .i8 a.ren, u1], .agg #[.int .i8 b.st, .int .i8 b.who, .int .i16 b.due, .int .i8 b.ren, u2]] w fun e w' => e = .returned (.bool (decide (a = b))) ∧ Below w.heap.size w w' := by
  have H1 := Lib.hid s1
  have H2 := Lib.hid s2
  have WA := Lib.hid wa
  have WB := Lib.hid wb
  obtain ⟨A1, k1, rfl, -⟩ := s1
  obtain ⟨A2, k2, rfl, -⟩ := s2
  have SE := Lib.hid (fun W (hW : Below w.heap.size w W) => slicesEqual8_any _ _ a.q b.q W (H1.out.below hW) (H2.out.below hW) n1 n2)
  clear n1 n2 wa wb
  by_cases h : hdB a b
  · have EL := eqLoan a.st a.who a.due a.ren b.st b.who b.due b.ren true (decide_eq_true h)
    have E := Lib.hid (cp_eq_t h)
    obtain ⟨r, hr⟩ : ∃ r, decide (a.q = b.q) = r := ⟨_, rfl⟩
    rw [hr] at E SE
    clear hr
    clear h
    go_enter Try.func56, Try.ntmps56
    go_wp2_with fail
    generalize hW : World.alloc (World.alloc w _) _ = W
    have D0 := Lib.hid (show W.heap[w.heap.size]? = some (Obj.cells #[.int .i8 a.st, .int .i8 a.who, .int .i16 a.due, .int .i8 a.ren, .slice A1 a.q.length k1] 65 (0, 0)) by rw [← hW]; exact (alloc2 w _ _).1)
    have D1 := Lib.hid (show W.heap[w.heap.size + 1]? = some (Obj.cells #[.int .i8 b.st, .int .i8 b.who, .int .i16 b.due, .int .i8 b.ren, .slice A2 b.q.length k2] 65 (0, 0)) by rw [← hW]; exact (alloc2 w _ _).2)
    have G0 := Lib.hid (show Below w.heap.size w W by rw [← hW]; exact ((Below.refl _ _).alloc (Nat.le_refl _) _).alloc (by simp) _)
    have z1 : w.heap.size + 1 < W.heap.size := by rw [← hW]; simp
    have z0 : w.heap.size < W.heap.size := by omega
    clear hW
    have C1 := Lib.hid (fun (p : BelowBy W) => loanOf_any a WA.out (.slice A1 a.q.length k1) p.W)
    have C2 := Lib.hid (fun (p : BelowBy W) => loanOf_any b WB.out (.slice A2 b.q.length k2) p.W)
    have C3 := Lib.hid (fun (p : BelowBy W) => SE.out p.W (bnext G0.out p.h))
    have p0 := cell_of_row W _ 0 _ _ _ D0.out
    have q0 := cell_of_row W _ 0 _ _ _ D1.out
    have p1 := cell_of_row W _ 1 _ _ _ D0.out
    have q1 := cell_of_row W _ 1 _ _ _ D1.out
    have p2 := cell_of_row W _ 2 _ _ _ D0.out
    have q2 := cell_of_row W _ 2 _ _ _ D1.out
    have p3 := cell_of_row W _ 3 _ _ _ D0.out
    have q3 := cell_of_row W _ 3 _ _ _ D1.out
    have p4 := cell_of_row W _ 4 _ _ _ D0.out
    have q4 := cell_of_row W _ 4 _ _ _ D1.out
    simp only [List.getElem?_toArray, List.getElem?_cons_zero, List.getElem?_cons_succ] at p0 p1 p2 p3 p4 q0 q1 q2 q3 q4
    have p0 := belowBy_cell z0 p0; have q0 := belowBy_cell z1 q0
    have p1 := belowBy_cell z0 p1; have q1 := belowBy_cell z1 q1
    have p2 := belowBy_cell z0 p2; have q2 := belowBy_cell z1 q2
    have p3 := belowBy_cell z0 p3; have q3 := belowBy_cell z1 q3
    have p4 := belowBy_cell z0 p4; have q4 := belowBy_cell z1 q4
    refine wp_region_below (by kernel_rfl) (by kernel_rfl) ?_
    iterate 13 (first | go_big_quiet_step ((first | (go_at_call 85; first | with_reducible exact calls_below (C1.out _) | with_reducible exact calls_below (C2.out _)) | (go_at_call 92; exact calls_below (C3.out _)))) | quiet_step ((first | (go_at_call 85; first | with_reducible exact calls_below (C1.out _) | with_reducible exact calls_below (C2.out _)) | (go_at_call 92; exact calls_below (C3.out _)))))
    refine wpQuiet_nil ?_
    rintro wq ⟨⟨_, hq⟩, rfl⟩
    clear p0 q0 p1 q1 p2 q2 p3 q3 p4 q4
    go_wp2
    go_ret
    exact ⟨by rw [E.out]; rfl, bnext G0.out hq⟩
  · have EL := eqLoan a.st a.who a.due a.ren b.st b.who b.due b.ren false (decide_eq_false h)
    have E := Lib.hid (cp_eq_f h)
    clear h
    go_enter Try.func56, Try.ntmps56
    go_wp2_with fail
    generalize hW : World.alloc (World.alloc w _) _ = W
    have D0 := Lib.hid (show W.heap[w.heap.size]? = some (Obj.cells #[.int .i8 a.st, .int .i8 a.who, .int .i16 a.due, .int .i8 a.ren, .slice A1 a.q.length k1] 65 (0, 0)) by rw [← hW]; exact (alloc2 w _ _).1)
    have D1 := Lib.hid (show W.heap[w.heap.size + 1]? = some (Obj.cells #[.int .i8 b.st, .int .i8 b.who, .int .i16 b.due, .int .i8 b.ren, .slice A2 b.q.length k2] 65 (0, 0)) by rw [← hW]; exact (alloc2 w _ _).2)
    have G0 := Lib.hid (show Below w.heap.size w W by rw [← hW]; exact ((Below.refl _ _).alloc (Nat.le_refl _) _).alloc (by simp) _)
    have z1 : w.heap.size + 1 < W.heap.size := by rw [← hW]; simp
    have z0 : w.heap.size < W.heap.size := by omega
    clear hW
    have C1 := Lib.hid (fun (p : BelowBy W) => loanOf_any a WA.out (.slice A1 a.q.length k1) p.W)
    have C2 := Lib.hid (fun (p : BelowBy W) => loanOf_any b WB.out (.slice A2 b.q.length k2) p.W)
    have C3 := Lib.hid (fun (p : BelowBy W) => SE.out p.W (bnext G0.out p.h))
    have p0 := cell_of_row W _ 0 _ _ _ D0.out
    have q0 := cell_of_row W _ 0 _ _ _ D1.out
    have p1 := cell_of_row W _ 1 _ _ _ D0.out
    have q1 := cell_of_row W _ 1 _ _ _ D1.out
    have p2 := cell_of_row W _ 2 _ _ _ D0.out
    have q2 := cell_of_row W _ 2 _ _ _ D1.out
    have p3 := cell_of_row W _ 3 _ _ _ D0.out
    have q3 := cell_of_row W _ 3 _ _ _ D1.out
    have p4 := cell_of_row W _ 4 _ _ _ D0.out
    have q4 := cell_of_row W _ 4 _ _ _ D1.out
    simp only [List.getElem?_toArray, List.getElem?_cons_zero, List.getElem?_cons_succ] at p0 p1 p2 p3 p4 q0 q1 q2 q3 q4
    have p0 := belowBy_cell z0 p0; have q0 := belowBy_cell z1 q0
    have p1 := belowBy_cell z0 p1; have q1 := belowBy_cell z1 q1
    have p2 := belowBy_cell z0 p2; have q2 := belowBy_cell z1 q2
    have p3 := belowBy_cell z0 p3; have q3 := belowBy_cell z1 q3
    have p4 := belowBy_cell z0 p4; have q4 := belowBy_cell z1 q4
    refine wp_region_below (by kernel_rfl) (by kernel_rfl) ?_
    iterate 13 (first | go_big_quiet_step ((first | (go_at_call 85; first | with_reducible exact calls_below (C1.out _) | with_reducible exact calls_below (C2.out _)) | (go_at_call 92; exact calls_below (C3.out _)))) | quiet_step ((first | (go_at_call 85; first | with_reducible exact calls_below (C1.out _) | with_reducible exact calls_below (C2.out _)) | (go_at_call 92; exact calls_below (C3.out _)))))
    refine wpQuiet_nil ?_
    rintro wq ⟨⟨_, hq⟩, rfl⟩
    clear p0 q0 p1 q1 p2 q2 p3 q3 p4 q4
    go_wp2
    go_ret
    exact ⟨by rw [E.out]; rfl, bnext G0.out hq⟩
end Go.Proofs.Ytmafjncaigllbaa
