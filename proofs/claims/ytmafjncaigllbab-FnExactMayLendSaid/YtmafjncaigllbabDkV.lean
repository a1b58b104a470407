/- Whether a desk is valid, by the program: contracts. Condition: no longer than slices can be, numbers within their kinds. -/
import Derived.Test.YtmafjncaigllbabDkI3
namespace Go.Proofs.Ytmafjncaigllbab
set_option linter.unusedSimpArgs false
set_option linter.unusedVariables false
set_option maxRecDepth 100000
open Go.RowKit

theorem CRowK.in_ {w : World} {lo g n : Nat} {xs : List Cp} (h : CRowK w lo g xs xs.length n) {i : Nat} (hi : i < xs.length) :
    w.cell? ⟨g, i * 5, none⟩ = some (.int .i8 xs[i].st) ∧ w.cell? ⟨g, i * 5 + 1, none⟩ = some (.int .i8 xs[i].who) ∧ w.cell? ⟨g, i * 5 + 2, none⟩ = some (.int .i16 xs[i].due) ∧ w.cell? ⟨g, i * 5 + 3, none⟩ = some (.int .i8 xs[i].ren) ∧ ∃ gi, w.cell? ⟨g, i * 5 + 4, none⟩ = some (.slice (some ⟨gi, 0, none⟩) xs[i].q.length xs[i].q.length) ∧ IRow .i8 53 w gi xs[i].q := by
  obtain ⟨cs, h1, h2, h3⟩ := h
  obtain ⟨c0, c1, c2, c3, gi, e1, e2, e3⟩ := h3 i hi hi
  have e : ∀ j, w.cell? ⟨g, i * 5 + j, none⟩ = cs[i * 5 + j]? := fun j => cell_of_row w g _ cs _ _ h1
  exact ⟨(e 0).trans c0, (e 1).trans c1, (e 2).trans c2, (e 3).trans c3, gi, (e 4).trans e1, e3⟩
theorem CapOk.row (g n : Nat) : CapOk (.slice (some ⟨g, 0, none⟩) n n) := by
  intro A m k e
  cases e
  exact Nat.le_refl _

/-- How many of the first k copies are lent to each person. -/
def cntL (cs : List Cp) (k : Nat) : Nat → Int := fun i => ((whTo cs (lentTo i) k).length : Int)
theorem cntL_yes {cs : List Cp} {k n : Nat} (hk : k < cs.length) (h1 : cs[k].st = 1) (h2 : cs[k].who = (n : Int)) : cntL cs (k + 1) = fun h => if h = n then cntL cs k n + 1 else cntL cs k h := by
  funext h
  unfold cntL
  by_cases e : h = n
  · subst e
    rw [if_pos rfl, whTo_yes hk (by unfold lentTo; exact decide_eq_true ⟨h1, h2⟩)]
    simp
  · rw [if_neg e, whTo_no hk (by unfold lentTo; exact decide_eq_false (fun h3 => e (by have := h3.2; omega)))]
theorem cntL_no {cs : List Cp} {k : Nat} (hk : k < cs.length) (h1 : ¬ cs[k].st = 1) : cntL cs (k + 1) = cntL cs k := by
  funext h
  unfold cntL
  rw [whTo_no hk (by unfold lentTo; exact decide_eq_false (fun h3 => h1 h3.1))]
theorem cntL_zero (cs : List Cp) : cntL cs 0 = fun _ => 0 := by funext h; rfl
theorem cntL_le (cs : List Cp) (k h : Nat) : cntL cs k h ≤ k := by
  have := whTo_len cs (lentTo h) k
  unfold cntL
  omega
theorem cntL_nn (cs : List Cp) (k h : Nat) : 0 ≤ cntL cs k h := by unfold cntL; omega

def LnAt (w : World) (g : Nat) (f : Nat → Int) : Prop :=
  ∃ cs : Array Value, w.heap[g]? = some (.cells cs 81 (0, 0)) ∧ cs.size = 50 ∧ ∀ h : Nat, h < 50 → cs[h]? = some (.int .i64 (f h))
theorem LnAt.start {w : World} {g : Nat} (h : w.heap[g]? = some (.cells (Array.replicate 50 (.int .i64 0)) 81 (0, 0))) : LnAt w g (fun _ => 0) :=
  ⟨_, h, by simp, fun j hj => by rw [Array.getElem?_replicate, if_pos hj]⟩
theorem LnAt.cell {w : World} {g : Nat} {f : Nat → Int} (h : LnAt w g f) (j : Nat) (hj : j < 50) : w.cell? ⟨g, j, none⟩ = some (.int .i64 (f j)) := by
  obtain ⟨cs, h, _, h3⟩ := h
  rw [cell_of_row w g _ cs _ _ h]
  exact h3 j hj
theorem LnAt.frozen {w : World} {g : Nat} {f : Nat → Int} (h : LnAt w g f) (o : Nat) : w.frozen? ⟨g, o, none⟩ = false := by
  obtain ⟨cs, h, _⟩ := h
  exact frozen_of_row w g _ cs _ h
theorem LnAt.lt {w : World} {g : Nat} {f : Nat → Int} (h : LnAt w g f) : g < w.heap.size := by
  obtain ⟨cs, h, _⟩ := h
  exact (Array.getElem?_eq_some_iff.1 h).1
theorem LnAt.below {w w' : World} {B g : Nat} {f : Nat → Int} (h : LnAt w g f) (hb : Below B w w') (hg : g < B) : LnAt w' g f := by
  obtain ⟨cs, h, h2⟩ := h
  exact ⟨cs, (hb.block g hg).trans h, h2⟩
theorem LnAt.set {w : World} {g : Nat} {f : Nat → Int} (h : LnAt w g f) (n : Nat) (hn : n < 50) (x : Int) : LnAt (w.setCell ⟨g, n, none⟩ (.int .i64 x)) g (fun h => if h = n then x else f h) := by
  obtain ⟨cs, h1, h2, h3⟩ := h
  refine ⟨_, heap_setCell_same _ _ _ _ _ _ h1, by simpa using h2, fun j hj => ?_⟩
  rw [Array.getElem?_setIfInBounds]
  by_cases e : n = j
  · subst e
    rw [if_pos rfl, if_pos (by omega)]
    simp
  · rw [if_neg e, h3 j hj]
    simp only []
    rw [if_neg (by omega)]

def maxN (f : Nat → Int) : Nat → Int
  | 0 => f 0
  | k + 1 => if f k > maxN f k then f k else maxN f k
theorem maxN_ge (f : Nat → Int) : ∀ k i, i < k → f i ≤ maxN f k
  | k + 1, i, h => by
    rw [maxN]
    by_cases e : i = k
    · subst e; split <;> omega
    · have := maxN_ge f k i (by omega)
      split <;> omega
theorem maxN_some (f : Nat → Int) : ∀ k, ∃ i, (i < k ∨ i = 0) ∧ maxN f k = f i
  | 0 => ⟨0, .inr rfl, rfl⟩
  | k + 1 => by
    rw [maxN]
    split
    · exact ⟨k, .inl (by omega), rfl⟩
    · obtain ⟨i, h1, h2⟩ := maxN_some f k
      exact ⟨i, by omega, h2⟩
set_option maxHeartbeats 1000000 in
theorem max50_any (g : Nat) (f : Nat → Int) (w : World) (h : LnAt w g f) :
    Calls Try.prog 44 #[.slice (some ⟨g, 0, none⟩) 50 50] w fun e w' => e = .returned (.int .i64 (maxN f 50)) ∧ w = w' := by
  have HZ := Lib.hid (fun j hj => h.cell j hj)
  have p0 := h.cell 0 (by omega)
  have E1 := Lib.hid (show maxN f 1 = f 0 by rw [maxN, maxN]; split <;> rfl)
  clear h
  generalize f 0 = z0 at p0 E1
  go_enter Try.func44, Try.ntmps44
  go_wp2
  clear p0
  go_loopw [3, 4] (fun m_ i_ wr => ∃ k : Nat, k ≤ 50 ∧ 0 < k ∧ m_ = .int .i64 (maxN f k) ∧ i_ = .int .i64 (k : Int) ∧ wr = w) (fun _ i_ _ => 50 - (intOf i_).toNat)
  case atStart => exact ⟨1, by omega, by omega, by rw [E1.out], rfl, rfl⟩
  case round =>
    obtain ⟨k, hk, hk0, rfl, rfl, rfl⟩ := hrel
    by_cases hlt : k < 50
    · have p0 := HZ.out k hlt
      have ES := Lib.hid (show maxN f (k + 1) = if f k > maxN f k then f k else maxN f k from rfl)
      generalize f k = z at p0 ES
      generalize maxN f k = q at ES ⊢
      by_cases hq : q < z
      · have q1 : q ≤ z := by omega
        have q2 : ¬ z < q := by omega
        have q3 : ¬ z ≤ q := by omega
        have E := Lib.hid (show maxN f (k + 1) = z by rw [ES.out, if_pos hq])
        go_wp2
        go_roundw
        case rel => exact ⟨k + 1, by omega, by omega, by rw [E.out], by go_num, by first | rfl | trivial⟩
        case measure => simp [intOf]; omega
      · have q1 : z ≤ q := by omega
        have E := Lib.hid (show maxN f (k + 1) = q by rw [ES.out, if_neg hq])
        go_wp2
        go_roundw
        case rel => exact ⟨k + 1, by omega, by omega, by rw [E.out], by go_num, by first | rfl | trivial⟩
        case measure => simp [intOf]; omega
    · obtain rfl : k = 50 := by omega
      go_wp2
      go_ret
      exact ⟨rfl, rfl⟩
theorem max_loans (d : Dk) : decide (maxN (cntL d.cs d.cs.length) 50 ≤ 3) = true ↔ LoTo d 50 := by
  rw [decide_eq_true_eq]
  constructor
  · intro h n hn
    have := maxN_ge (cntL d.cs d.cs.length) 50 n hn
    unfold cntL at this h
    unfold wh
    omega
  · intro h
    obtain ⟨i, h1, h2⟩ := maxN_some (cntL d.cs d.cs.length) 50
    rw [h2]
    have := h i (by omega)
    unfold wh at this
    unfold cntL
    omega
theorem cp_who {c : Cp} {day : Int} (h : cpB c day = true) (h1 : c.st = 1) : ∃ n : Nat, c.who = (n : Int) ∧ n < 50 := by
  rw [cp_lent day h1] at h
  have h2 := (away_of (Bool.and_eq_true _ _ ▸ h : awayB c = true ∧ _).1).who
  unfold perB inB at h2
  have := of_decide_eq_true h2
  exact ⟨c.who.toNat, by omega, by omega⟩

set_option maxHeartbeats 16000000 in
theorem validDesk_any (d : Dk) (wf : d.Wf ∧ ∀ c ∈ d.cs, c.q.length ≤ maxLen) (g : Nat) (w : World) (hs : CRowK w g g d.cs d.cs.length d.cs.length) (hn : d.cs.length ≤ maxLen) :
    Calls Try.prog 36 #[.agg #[.int .i16 d.day, .slice (some ⟨g, 0, none⟩) d.cs.length d.cs.length]] w fun e w' => e = .returned (.bool (dkB d)) ∧ Below w.heap.size w w' := by
  have HS := Lib.hid hs
  clear hs
  obtain ⟨wf, hr⟩ := wf
  have WF := Lib.hid wf.cs
  obtain ⟨⟨y1, y2⟩, -⟩ := wf
  have HR := Lib.hid hr
  clear hr
  unfold maxLen at hn
  cases e1 : inB d.day 0 10000
  · have E := Lib.hid (dk_f (d := d) (fun h => by have := h.day; rw [e1] at this; cases this))
    go_enter Try.func36, Try.ntmps36
    go_wp2_with (go_at_call 42; refine (w16_any _ _ _ _).mono ?_; rintro e w' ⟨rfl, rfl⟩)
    go_ret
    exact ⟨by rw [E.out]; rfl, by go_grown⟩
  · by_cases e2 : d.cs.length ≤ 60
    · have e2d : ¬ (60 : Int) < (d.cs.length : Int) := by omega
      have DK := Lib.hid (fun h1 h2 => dk_t (d := d) ⟨e1, e2, h1, h2⟩)
      have DN := Lib.hid (fun (h : ¬ LoTo d 50) => dk_f (d := d) (fun hd => h hd.loans))
      go_enter Try.func36, Try.ntmps36
      go_wp2_with (go_at_call 42; refine (w16_any _ _ _ _).mono ?_; rintro e w' ⟨rfl, rfl⟩)
      generalize hW : World.alloc (World.alloc w _) _ = W2
      have D0 := Lib.hid (show W2.heap[w.heap.size]? = some (.cells #[.int .i16 d.day, .slice (some ⟨g, 0, none⟩) d.cs.length d.cs.length] 31 (0, 0)) by rw [← hW]; exact (alloc2 w _ _).1)
      have D1 := Lib.hid (show W2.heap[w.heap.size + 1]? = some (.cells (Array.replicate 50 (.int .i64 0)) 81 (0, 0)) by rw [← hW]; exact (alloc2 w _ _).2)
      have G0 := Lib.hid (show Below w.heap.size w W2 by rw [← hW]; exact ((Below.refl _ _).alloc (Nat.le_refl _) _).alloc (by simp) _)
      have Z0 := Lib.hid (show w.heap.size + 1 < W2.heap.size by rw [← hW]; simp)
      clear hW e1
      go_loopw [19] (fun i wr => ∃ k : Nat, k ≤ d.cs.length ∧ i = .int .i64 k ∧ CpTo d k ∧ LnAt wr (w.heap.size + 1) (cntL d.cs k) ∧ Below (w.heap.size + 1) W2 wr) (fun i _ => d.cs.length - (intOf i).toNat)
      case atStart => exact ⟨0, Nat.zero_le _, rfl, CpTo.zero _, by rw [cntL_zero]; exact LnAt.start D1.out, Below.refl _ _⟩
      case round =>
        obtain ⟨k, hk, rfl, hct, hln, hb⟩ := hrel
        have CT := Lib.hid hct
        have LN := Lib.hid hln
        have HB := Lib.hid hb
        have HW := Lib.hid (G0.out.trans (hb.mono (by omega)))
        have hz := Nat.lt_of_lt_of_le Z0.out hb.size
        clear hct hln hb
        by_cases hlt : k < d.cs.length
        · obtain ⟨p0, p1, p2, p3, gi, p4, hq⟩ := (HS.out.below HW.out).in_ hlt
          have HQ := Lib.hid hq
          have y0 : wr.cell? ⟨w.heap.size, 0, none⟩ = some (.int .i16 d.day) := (HB.out.cell (p := ⟨w.heap.size, 0, none⟩) (by show w.heap.size < _; omega)).trans (cell_of_row W2 _ 0 _ _ _ D0.out)
          have WK := Lib.hid (WF.out _ (List.getElem_mem hlt))
          have RK := Lib.hid (HR.out _ (List.getElem_mem hlt))
          have CS := Lib.hid (fun h => CT.out.succ hlt h)
          have CN := Lib.hid (fun (h : ¬ cpB d.cs[k] d.day = true) => dk_f (d := d) (fun hd => h (hd.cp k hlt)))
          have CY := Lib.hid (fun (n : Nat) h1 h2 => cntL_yes (n := n) hlt h1 h2)
          have CO := Lib.hid (fun h1 => cntL_no hlt h1)
          have CW := Lib.hid (@cp_who d.cs[k] d.day)
          clear hq
          obtain ⟨x, hx⟩ : ∃ x, x = d.cs[k] := ⟨_, rfl⟩
          rw [← hx] at p0 p1 p2 p3 p4 HQ WK RK CS CN CY CO CW
          clear hx
          have X0 := Lib.hid (heap_alloc_new wr (.cells #[.int .i8 x.st, .int .i8 x.who, .int .i16 x.due, .int .i8 x.ren, .slice (some ⟨gi, 0, none⟩) x.q.length x.q.length] 61))
          have A0 := Lib.hid (show Below wr.heap.size wr (wr.alloc (.cells #[.int .i8 x.st, .int .i8 x.who, .int .i16 x.due, .int .i8 x.ren, .slice (some ⟨gi, 0, none⟩) x.q.length x.q.length] 61)) from (Below.refl _ _).alloc (Nat.le_refl _) _)
          have A1 := Lib.hid (show wr.heap.size < (wr.alloc (.cells #[.int .i8 x.st, .int .i8 x.who, .int .i16 x.due, .int .i8 x.ren, .slice (some ⟨gi, 0, none⟩) x.q.length x.q.length] 61)).heap.size by simp)
          have hz0 : w.heap.size < wr.heap.size := by omega
          have y0' := (A0.out.cell (p := ⟨w.heap.size, 0, none⟩) hz0).trans y0
          go_wp2_with fail
          clear y0'
          generalize World.alloc wr _ = W3 at X0 A0 A1 ⊢
          refine (validCopy_any x WK.out d.day ⟨y1, y2⟩ _ W3 (IRow.slice (IRowK.below HQ.out A0.out (IRowK.lt HQ.out))) (CapOk.row _ _) RK.out).mono ?_
          rintro e w1 ⟨rfl, h1⟩
          have B1 := Lib.hid (bnext A0.out h1)
          have X1 := Lib.hid ((h1.block wr.heap.size A1.out).trans X0.out)
          have L1 := Lib.hid (LN.out.below B1.out (by omega))
          have H1 := Lib.hid (HB.out.trans (B1.out.mono (by omega)))
          have I1 := Lib.hid (HW.out.trans (B1.out.mono HW.out.size))
          have s0 : w1.cell? ⟨wr.heap.size, 0, none⟩ = some (.int .i8 x.st) := cell_of_row w1 _ 0 _ _ _ X1.out
          have s1 : w1.cell? ⟨wr.heap.size, 1, none⟩ = some (.int .i8 x.who) := cell_of_row w1 _ 1 _ _ _ X1.out
          clear h1 p0 p1 p2 p3 p4 y0
          cases hv : cpB x d.day
          · have E := Lib.hid (CN.out (by rw [hv]; simp))
            clear hv
            go_wp2
            go_ret
            exact ⟨by rw [E.out]; rfl, I1.out⟩
          · have C2 := Lib.hid (CS.out hv)
            by_cases hs : x.st = 1
            · obtain ⟨n, hn1, hn2⟩ := CW.out hv hs
              have CE := Lib.hid (CY.out n hs hn1)
              rw [hn1] at s1
              rw [hs] at s0
              have f0 := L1.out.cell n hn2
              have fz := L1.out.frozen
              have u1 := cntL_nn d.cs k n
              have u2 := cntL_le d.cs k n
              clear hv hs hn1
              generalize hcn : cntL d.cs k n = cn at f0 u1 u2
              have HC := Lib.hid hcn
              clear hcn
              go_wp2
              go_roundw
              case rel => exact ⟨k + 1, by omega, by go_num, C2.out, by rw [CE.out, HC.out]; exact L1.out.set n hn2 _, H1.out.setCell (p := ⟨w.heap.size + 1, n, none⟩) (Nat.le_refl _) _⟩
              case measure => simp [intOf]; omega
            · have CE := Lib.hid (CO.out hs)
              clear hv
              go_wp2
              go_roundw
              case rel => exact ⟨k + 1, by omega, by go_num, C2.out, by rw [CE.out]; exact L1.out, H1.out⟩
              case measure => simp [intOf]; omega
        · obtain rfl : k = d.cs.length := by omega
          have ML := Lib.hid (max_loans d)
          have MX := Lib.hid (max50_any _ _ wr LN.out)
          generalize maxN (cntL d.cs d.cs.length) 50 = m at ML MX
          go_wp2_with (go_at_call 44; refine MX.out.mono ?_; rintro e w' ⟨rfl, rfl⟩)
          go_ret
          refine ⟨?_, HW.out⟩
          by_cases hm : m ≤ 3
          · rw [DK.out (fun i hi => CT.out i hi hi) (ML.out.1 (decide_eq_true hm))]
            simp [hm]
          · rw [DN.out (fun h => hm (of_decide_eq_true (ML.out.2 h)))]
            simp [hm]
    · have e2d : (60 : Int) < (d.cs.length : Int) := by omega
      have E := Lib.hid (dk_f (d := d) (fun h => e2 h.len))
      go_enter Try.func36, Try.ntmps36
      go_wp2_with (go_at_call 42; refine (w16_any _ _ _ _).mono ?_; rintro e w' ⟨rfl, rfl⟩)
      go_ret
      exact ⟨by rw [E.out]; rfl, by go_grown⟩
end Go.Proofs.Ytmafjncaigllbab
