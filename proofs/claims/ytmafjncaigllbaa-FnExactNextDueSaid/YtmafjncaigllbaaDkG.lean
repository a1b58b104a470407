/- Places in queues, and how long to wait, by the program; how long to wait by the model: contracts. Condition: no longer than slices can be, numbers within their kinds. -/
import Derived.Test.YtmafjncaigllbaaDkF
namespace Go.Proofs.Ytmafjncaigllbaa
set_option linter.unusedSimpArgs false
set_option linter.unusedVariables false
set_option maxRecDepth 100000
open Go.RowKit

set_option maxHeartbeats 2000000 in
theorem index64_any (v : Value) (q : List Int) (who : Int) (w : World) (hs : IntsOf .i64 w v q) (hn : q.length ≤ maxLen) :
    Calls Try.prog 83 #[v, .int .i64 who] w fun e w' => e = .returned (.int .i64 (placeI q who)) ∧ w = w' := by
  obtain ⟨A, c, rfl, hs⟩ := hs
  have HS := Lib.hid hs
  unfold maxLen at hn
  clear hs
  go_enter Try.func83, Try.ntmps83
  go_wp2
  go_loopw [8] (fun i wr => ∃ k : Nat, k ≤ q.length ∧ i = .int .i64 k ∧ NoTo q who k ∧ wr = w) (fun i _ => q.length - (intOf i).toNat)
  case atStart => exact ⟨0, Nat.zero_le _, rfl, NoTo.zero _ _, rfl⟩
  case round =>
    obtain ⟨k, hk, rfl, hno, rfl⟩ := hrel
    have HN := Lib.hid hno
    clear hno
    by_cases hlt : k < q.length
    · obtain ⟨g, o, rfl, hg, hat⟩ := HS.out (by omega)
      have p0 := hat k hlt
      clear hat
      by_cases he : q[k] = who
      · have E := Lib.hid (placeI_at hlt HN.out he)
        rw [he] at p0
        clear he
        go_wp2
        go_ret
        exact ⟨by rw [E.out]; rfl, rfl⟩
      · have H1 := Lib.hid (HN.out.succ hlt he)
        have he' : ¬ who = q[k] := fun h => he h.symm
        go_wp2
        go_roundw
        case rel => exact ⟨k + 1, by omega, by go_num, H1.out, by first | rfl | trivial⟩
        case measure => simp [intOf]; omega
    · obtain rfl : k = q.length := by omega
      have E := Lib.hid (placeI_none HN.out)
      go_wp2
      go_ret
      exact ⟨by rw [E.out]; rfl, rfl⟩
set_option maxHeartbeats 1000000 in
theorem contains64_any (v : Value) (q : List Int) (who : Int) (w : World) (hs : IntsOf .i64 w v q) (hn : q.length ≤ maxLen) :
    Calls Try.prog 97 #[v, .int .i64 who] w fun e w' => e = .returned (.bool (decide (0 ≤ placeI q who))) ∧ w = w' := by
  have CI := Lib.hid (index64_any v q who w hs hn)
  clear hs
  generalize placeI q who = p at CI ⊢
  by_cases hp : (0 : Int) ≤ p
  · go_enter Try.func97, Try.ntmps97
    go_wp2_with fail
    refine CI.out.mono ?_
    rintro e w' ⟨rfl, rfl⟩
    go_wp2
    go_ret
    exact ⟨by first | rfl | simp [hp], rfl⟩
  · have hp2 : p < 0 := by omega
    go_enter Try.func97, Try.ntmps97
    go_wp2_with fail
    refine CI.out.mono ?_
    rintro e w' ⟨rfl, rfl⟩
    go_wp2
    go_ret
    exact ⟨by first | rfl | simp [hp], rfl⟩
theorem OwnQ.ints {w : World} {base : Nat} {u : Value} {q : List Int} (h : OwnQ w base u q) : IntsOf .i64 w u q := ownInts h
set_option maxHeartbeats 1000000 in
theorem waits_any (c : Cp) (u : Value) (who : Int) (w : World) (hs : IntsOf .i64 w u c.q) (hn : c.q.length ≤ maxLen) :
    Calls Try.prog 69 #[.agg #[.int .i64 c.st, .int .i64 c.who, .int .i64 c.due, .int .i64 c.ren, u], .int .i64 who] w fun e w' => e = .returned (.bool (decide (0 ≤ placeI c.q who))) ∧ Below w.heap.size w w' := by
  have HS := Lib.hid hs
  obtain ⟨A, k, rfl, -⟩ := hs
  have G0 := Lib.hid (show Below w.heap.size w (w.alloc (.cells #[.int .i64 c.st, .int .i64 c.who, .int .i64 c.due, .int .i64 c.ren, .slice A c.q.length k] 84)) from (Below.refl _ _).alloc (Nat.le_refl _) _)
  go_enter Try.func69, Try.ntmps69
  go_wp2_with fail
  refine (contains64_any _ c.q who _ (HS.out.below G0.out) hn).mono ?_
  rintro e w1 ⟨rfl, rfl⟩
  go_wp2
  go_ret
  exact ⟨rfl, G0.out⟩

theorem askP_q {d : Dk} (wf : ∀ c ∈ d.cs, c.q.length ≤ maxLen) (who book : Int) : (askP d who book).q.length ≤ maxLen := by
  rcases ask_cases2 d who book with ⟨_, h⟩ | ⟨_, _, _, _, n, hn, _, h⟩
  · rw [h]; simp [cp0]
  · rw [h]; exact wf _ (List.getElem_mem hn)
theorem placeV_eq (d : Dk) (who book : Int) (h : askC d who book = 0) : placeV d who book = (if placeI (askP d who book).q who < 0 then 0 else placeI (askP d who book).q who) := by unfold placeV; rw [if_pos h]
theorem placeC_eq (d : Dk) (who book : Int) (h : askC d who book = 0) : placeC d who book = (if placeI (askP d who book).q who < 0 then 6 else 0) := by unfold placeC; rw [if_pos h]
theorem placeV_ne (d : Dk) (who book : Int) (h : ¬ askC d who book = 0) : placeV d who book = 0 := by unfold placeV; rw [if_neg h]
theorem placeC_ne (d : Dk) (who book : Int) (h : ¬ askC d who book = 0) : placeC d who book = askC d who book := by unfold placeC; rw [if_neg h]

set_option maxHeartbeats 4000000 in
theorem placeInQueue_any (d : Dk) (wf : d.Wf ∧ ∀ c ∈ d.cs, c.q.length ≤ maxLen) (who book : Int) (g : Nat) (w : World) (hs : CRowK w g g d.cs d.cs.length d.cs.length) (hn : d.cs.length ≤ maxLen) :
    Calls Try.prog 42 #[.agg #[.int .i16 d.day, .slice (some ⟨g, 0, none⟩) d.cs.length d.cs.length], .int .i64 who, .int .i64 book] w fun e w' => e = .returned (.tuple #[.int .i64 (placeV d who book), .int .i64 (placeC d who book)]) ∧ Below w.heap.size w w' := by
  have CW := Lib.hid (fun W (h : Below w.heap.size w W) => counterWith_any d wf who book g W (hs.below h) hn)
  have QM := Lib.hid (askP_q wf.2 who book)
  have P0 := Lib.hid (placeV_ne d who book)
  have P1 := Lib.hid (placeC_ne d who book)
  have P2 := Lib.hid (placeV_eq d who book)
  have P3 := Lib.hid (placeC_eq d who book)
  clear wf hs
  generalize askP d who book = x at *
  generalize askDay d who book = y at *
  generalize askC d who book = k at *
  generalize placeV d who book = pv at *
  generalize placeC d who book = pc at *
  have G0 := Lib.hid (show Below w.heap.size w (w.alloc (.cells #[.int .i16 d.day, .slice (some ⟨g, 0, none⟩) d.cs.length d.cs.length] 30)) from (Below.refl _ _).alloc (Nat.le_refl _) _)
  by_cases hk : k = 0
  · have E2 := Lib.hid (P2.out hk)
    have E3 := Lib.hid (P3.out hk)
    subst hk
    clear P0 P1 P2 P3
    have PW := Lib.hid (fun W u (h : IntsOf .i64 W u x.q) => waits_any x u who W h QM.out)
    have PI := Lib.hid (fun W u (h : IntsOf .i64 W u x.q) => index64_any u x.q who W h QM.out)
    generalize placeI x.q who = p at *
    by_cases hp : p < 0
    · have hd : decide ((0 : Int) ≤ p) = false := decide_eq_false (by omega)
      rw [hd] at PW
      rw [E2.out, E3.out, if_pos hp, if_pos hp]
      go_enter Try.func42, Try.ntmps42
      go_wp2_with fail
      generalize World.alloc w _ = W at G0 ⊢
      refine (CW.out _ G0.out).mono ?_
      rintro e w1 ⟨v, u, rfl, hit, hq, k1⟩
      have HQ := Lib.hid hq.ints
      obtain ⟨A3, c3, rfl⟩ := hit.form
      obtain ⟨A4, c4, rfl⟩ := hq.form
      have G1 := Lib.hid (bnext G0.out k1)
      have GA := Lib.hid (show ∀ a b : Obj, Below w1.heap.size w1 ((w1.alloc a).alloc b) from fun a b => ((Below.refl _ _).alloc (Nat.le_refl _) _).alloc (by simp) _)
      clear hit hq k1
      go_wp2_with fail
      refine (PW.out _ _ (HQ.out.below (GA.out _ _))).mono ?_
      rintro e w2 ⟨rfl, k2⟩
      have G2 := Lib.hid (bnext (bnext G1.out (GA.out _ _)) k2)
      clear k2
      go_wp2
      go_ret2
      exact ⟨rfl, G2.out⟩
    · have hd : decide ((0 : Int) ≤ p) = true := decide_eq_true (by omega)
      rw [hd] at PW
      rw [E2.out, E3.out, if_neg hp, if_neg hp]
      go_enter Try.func42, Try.ntmps42
      go_wp2_with fail
      generalize World.alloc w _ = W at G0 ⊢
      refine (CW.out _ G0.out).mono ?_
      rintro e w1 ⟨v, u, rfl, hit, hq, k1⟩
      have HQ := Lib.hid hq.ints
      obtain ⟨A3, c3, rfl⟩ := hit.form
      obtain ⟨A4, c4, rfl⟩ := hq.form
      have G1 := Lib.hid (bnext G0.out k1)
      clear hit hq k1
      go_wp2_with fail
      generalize hW : World.alloc (World.alloc w1 _) _ = W2
      have D1 := Lib.hid (show W2.heap[w1.heap.size + 1]? = some (.cells #[.int .i64 x.st, .int .i64 x.who, .int .i64 x.due, .int .i64 x.ren, .slice A4 x.q.length c4] 84 (0, 0)) by rw [← hW]; exact (alloc2 w1 _ _).2)
      have B2 := Lib.hid (show Below w1.heap.size w1 W2 by rw [← hW]; exact ((Below.refl _ _).alloc (Nat.le_refl _) _).alloc (by simp) _)
      have Z2 := Lib.hid (show w1.heap.size + 1 < W2.heap.size by rw [← hW]; simp)
      clear hW
      refine (PW.out _ _ (HQ.out.below B2.out)).mono ?_
      rintro e w2 ⟨rfl, k2⟩
      have G2 := Lib.hid (bnext (bnext G1.out B2.out) k2)
      have H2 := Lib.hid (HQ.out.below (bnext B2.out k2))
      have t4 : w2.cell? ⟨w1.heap.size + 1, 4, none⟩ = some (.slice A4 x.q.length c4) := cell_of_row w2 _ 4 _ _ _ ((k2.block (w1.heap.size + 1) Z2.out).trans D1.out)
      clear k2
      go_wp2_with fail
      refine (PI.out _ _ H2.out).mono ?_
      rintro e w' ⟨rfl, rfl⟩
      go_wp2
      go_ret2
      exact ⟨rfl, G2.out⟩
  · rw [P0.out hk, P1.out hk]
    have hkb : (k != 0) = true := by simpa using hk
    clear hk P0 P1 P2 P3
    go_enter Try.func42, Try.ntmps42
    go_wp2_with fail
    generalize World.alloc w _ = W at G0 ⊢
    refine (CW.out _ G0.out).mono ?_
    rintro e w1 ⟨v, u, rfl, hit, hq, k1⟩
    obtain ⟨A3, c3, rfl⟩ := hit.form
    obtain ⟨A4, c4, rfl⟩ := hq.form
    have G1 := Lib.hid (bnext G0.out k1)
    have GA := Lib.hid (show ∀ a b : Obj, Below w1.heap.size w1 ((w1.alloc a).alloc b) from fun a b => ((Below.refl _ _).alloc (Nat.le_refl _) _).alloc (by simp) _)
    clear hit hq k1
    go_wp2
    go_ret2
    exact ⟨rfl, bnext G1.out (GA.out _ _)⟩
end Go.Proofs.Ytmafjncaigllbaa
