/- The text of moves, by the model and by the program: contracts. Condition: the table of powers of ten is as laid. -/
import Derived.Test.YtaahfcdpgcfmhaaDoorApB
import Derived.Test.YtaahfcdpgcfmhaaDoorMove
import Derived.Test.YtaahfcdpgcfmhaaDoorValid2
import Derived.Test.YtaahfcdpgcfmhaaDoorQuiet
import Derived.Deep.Cut
import Derived.Deep.CutRange
namespace Go.Proofs.YtaahfcdpgcfmhaaDoor
set_option linter.unusedSimpArgs false
set_option linter.unusedVariables false
set_option maxRecDepth 100000
open Go.RowKit

def moveT (m : Mv) : List UInt8 := dec m.f ++ ([62] ++ dec m.t)
/-- The text of the first k moves. -/
def movesTo (ms : List Mv) : Nat → List UInt8
  | 0 => []
  | k + 1 => movesTo ms k ++ ((if k = 0 then [] else [32]) ++ moveT (ms.getD k default))
theorem mvT_getD {ms : List Mv} {k : Nat} (h : k < ms.length) : ms.getD k default = ms[k] := by
  rw [List.getD_eq_getElem?_getD, List.getElem?_eq_getElem h]; rfl
theorem movesTo_first {ms : List Mv} (h : 0 < ms.length) : movesTo ms 1 = moveT ms[0] := by
  rw [movesTo, movesTo, mvT_getD h]; rfl
theorem movesTo_succ {ms : List Mv} {k : Nat} (h0 : k ≠ 0) (h : k < ms.length) : movesTo ms (k + 1) = movesTo ms k ++ ([32] ++ moveT ms[k]) := by
  rw [movesTo, mvT_getD h, if_neg h0]
def mvB (m : Mv) : Bool := inB m.f 0 99 && inB m.t 0 99
def MvTo (ms : List Mv) (k : Nat) : Prop := ∀ (i : Nat) (h : i < ms.length), i < k → mvB ms[i] = true
theorem MvTo.succ {ms : List Mv} {k : Nat} (h : MvTo ms k) (hk : k < ms.length) (hb : mvB ms[k] = true) : MvTo ms (k + 1) := by
  intro i hi hik
  by_cases e : i = k
  · subst e; exact hb
  · exact h i hi (by omega)
theorem mvB_bd {m : Mv} (h : mvB m = true) : (0 ≤ m.f ∧ m.f ≤ 99) ∧ (0 ≤ m.t ∧ m.t ≤ 99) := by
  unfold mvB inB at h
  simp only [Bool.and_eq_true, decide_eq_true_eq] at h
  exact h
theorem moveT_len {m : Mv} (h : mvB m = true) : (moveT m).length ≤ 41 := by
  obtain ⟨h1, h2⟩ := mvB_bd h
  have d1 := dec_len (z := m.f) (by omega)
  have d2 := dec_len (z := m.t) (by omega)
  unfold moveT
  simp only [List.length_append, List.length_cons, List.length_nil]
  omega
theorem movesTo_len {ms : List Mv} : ∀ k, k ≤ ms.length → MvTo ms k → (movesTo ms k).length ≤ 42 * k
  | 0, _, _ => by simp [movesTo]
  | k + 1, h, hm => by
    have h1 := movesTo_len k (by omega) (fun i hi hik => hm i hi (by omega))
    have h2 := moveT_len (hm k (by omega) (by omega))
    have h3 : (if k = 0 then [] else [32] : List UInt8).length ≤ 1 := by split <;> simp
    rw [movesTo, mvT_getD (by omega)]
    simp only [List.length_append]
    omega
/-- The moves have a text. -/
def mtxB (ms : List Mv) : Bool := ms.all mvB && decide (ms.length ≤ 200)
theorem mtx_bad {ms : List Mv} {k : Nat} (hk : k < ms.length) (h : mvB ms[k] = false) : mtxB ms = false := by
  unfold mtxB
  rw [show ms.all mvB = false from by rw [List.all_eq_false]; exact ⟨ms[k], List.getElem_mem hk, by rw [h]; simp⟩]
  rfl
theorem mtx_long {ms : List Mv} (h : 200 < ms.length) : mtxB ms = false := by
  unfold mtxB
  rw [decide_eq_false (by omega)]
  simp
theorem mtx_ok {ms : List Mv} (h1 : ms.length ≤ 200) (h : MvTo ms ms.length) : mtxB ms = true := by
  unfold mtxB
  rw [decide_eq_true h1, Bool.and_true, List.all_eq_true]
  intro z hz
  obtain ⟨k, hk, rfl⟩ := List.getElem_of_mem hz
  exact h k hk hk
theorem mtx_all {ms : List Mv} (h : mtxB ms = true) : MvTo ms ms.length ∧ ms.length ≤ 200 := by
  unfold mtxB at h
  rw [Bool.and_eq_true, List.all_eq_true, decide_eq_true_eq] at h
  exact ⟨fun i hi _ => h.1 _ (List.getElem_mem hi), h.2⟩
/-- What MovesText answers. -/
def movesS (ms : List Mv) : ByteArray := if mtxB ms then strOf (movesTo ms ms.length) else ⟨#[]⟩
set_option maxHeartbeats 8000000 in
theorem l03Text_any (v : Value) (ms : List Mv) (ha : MvTo ms ms.length) (w : World) (hs : MovesOf w v ms) (hn : ms.length ≤ 200) :
    Calls Tryd.prog 98 #[v] w fun e w' => e = .returned (.string (strOf (movesTo ms ms.length))) ∧ Below w.heap.size w w' := by
  obtain ⟨A, c, rfl, hs⟩ := hs
  have HS := Lib.hid hs
  have HA := Lib.hid ha
  clear hs ha
  go_enter Tryd.func98, Tryd.ntmps98
  go_wp2
  go_loopw [3, 4] (fun o i wr => ∃ k : Nat, k ≤ ms.length ∧ i = .int .i64 k ∧ o = .string (strOf (movesTo ms k)) ∧ Below w.heap.size w wr) (fun _ i _ => ms.length - (intOf i).toNat)
  case atStart => exact ⟨0, Nat.zero_le _, rfl, rfl, Below.refl _ _⟩
  case round =>
    obtain ⟨k, hk, rfl, rfl, hb⟩ := hrel
    have HB := Lib.hid hb
    by_cases hlt : k < ms.length
    · obtain ⟨ga, oa, rfl, hga, hat⟩ := HS.out (by omega)
      obtain ⟨c0, c1⟩ := hat.below hb hga k hlt
      have z1 := Nat.lt_of_lt_of_le hga hb.size
      have p0 := belowBy_cell z1 c0
      have p1 := belowBy_cell z1 c1
      obtain ⟨⟨f1, f2⟩, ⟨t1, t2⟩⟩ := mvB_bd (HA.out k hlt hlt)
      have D1 := Lib.hid (fun W => dec_any f1 (by omega) W)
      have D2 := Lib.hid (fun W => dec_any t1 (by omega) W)
      have l1 := movesTo_len k hk (fun i hi hik => HA.out i hi hi)
      have d1 := dec_len (z := ms[k].f) (by omega)
      have d2 := dec_len (z := ms[k].t) (by omega)
      have s0 := strOf_size (movesTo ms k)
      have s1 := strOf_size (dec ms[k].f)
      have s2 := strOf_size (dec ms[k].t)
      have a1 : ¬ (9223372036854775807 < (strOf (dec ms[k].f)).size + 1) := by omega
      have a2 : ¬ (9223372036854775807 < (strOf (dec ms[k].f)).size + 1 + (strOf (dec ms[k].t)).size) := by omega
      clear hat hb c0 c1
      by_cases h0 : k = 0
      · subst h0
        have ES := Lib.hid (movesTo_first hlt)
        have CT := Lib.hid (show strOf (movesTo ms 0) ++ (strOf (dec ms[0].f) ++ ⟨#[62]⟩ ++ strOf (dec ms[0].t)) = strOf (movesTo ms 1) by
          rw [ES.out, show (⟨#[62]⟩ : ByteArray) = strOf [62] from rfl]
          simp only [strOf_cat, List.append_assoc]
          rfl)
        have a3 : ¬ (9223372036854775807 < (strOf (movesTo ms 0)).size + ((strOf (dec ms[0].f)).size + 1 + (strOf (dec ms[0].t)).size)) := by omega
        rw [Nat.zero_mul, Nat.add_zero] at p0 p1
        generalize strOf (dec ms[0].f) = SF at *
        generalize strOf (dec ms[0].t) = ST at *
        generalize hS : strOf (movesTo ms 0) = S at *
        clear s0 s1 s2 d1 d2 l1 hS
        go_wp2
        refine wp_region_below (by kernel_rfl) (by kernel_rfl) ?_
        iterate 19 (first | go_big_quiet_step ((go_at_call 129; with_reducible first | exact calls_below (D1.out _) | exact calls_below (D2.out _))) | quiet_step ((go_at_call 129; with_reducible first | exact calls_below (D1.out _) | exact calls_below (D2.out _))))
        refine wpQuiet_nil ?_
        rintro w2 ⟨⟨_, hq⟩, rfl⟩
        have hb1 := bnext HB.out hq
        clear p0 p1 a1 a2 a3
        go_wp2
        exact ⟨⟨1, hlt, by simp, by rw [CT.out], hb1⟩, by simp only [intOf]; omega⟩
      · have ES := Lib.hid (movesTo_succ h0 hlt)
        have hpos : 0 < k := by omega
        have CT := Lib.hid (show strOf (movesTo ms k) ++ ⟨#[32]⟩ ++ (strOf (dec ms[k].f) ++ ⟨#[62]⟩ ++ strOf (dec ms[k].t)) = strOf (movesTo ms (k + 1)) by
          rw [ES.out, show (⟨#[62]⟩ : ByteArray) = strOf [62] from rfl, show (⟨#[32]⟩ : ByteArray) = strOf [32] from rfl]
          simp only [strOf_cat, List.append_assoc]
          rfl)
        have a3 : ¬ (9223372036854775807 < (strOf (movesTo ms k)).size + 1) := by omega
        have a4 : ¬ (9223372036854775807 < (strOf (movesTo ms k)).size + 1 + ((strOf (dec ms[k].f)).size + 1 + (strOf (dec ms[k].t)).size)) := by omega
        generalize strOf (dec ms[k].f) = SF at *
        generalize strOf (dec ms[k].t) = ST at *
        generalize hS : strOf (movesTo ms k) = S at *
        clear s0 s1 s2 d1 d2 l1 hS
        go_wp2
        refine wp_region_below (by kernel_rfl) (by kernel_rfl) ?_
        iterate 19 (first | go_big_quiet_step ((go_at_call 129; with_reducible first | exact calls_below (D1.out _) | exact calls_below (D2.out _))) | quiet_step ((go_at_call 129; with_reducible first | exact calls_below (D1.out _) | exact calls_below (D2.out _))))
        refine wpQuiet_nil ?_
        rintro w2 ⟨⟨_, hq⟩, rfl⟩
        have hb1 := bnext HB.out hq
        clear p0 p1 a1 a2 a3 a4
        go_wp2
        exact ⟨⟨k + 1, hlt, by simp, by rw [CT.out], hb1⟩, by simp only [intOf]; omega⟩
    · have ek : k = ms.length := by omega
      have EK := Lib.hid (show movesTo ms k = movesTo ms ms.length by rw [ek])
      go_wp2
      go_ret
      exact ⟨by rw [EK.out]; rfl, HB.out⟩
set_option maxHeartbeats 4000000 in
theorem specMovesText_any (v : Value) (ms : List Mv) (hw : ∀ m ∈ ms, m.Wf) (w : World) (hs : MovesOf w v ms) (hn : ms.length ≤ maxLen) :
    Calls Tryd.prog 41 #[v] w fun e w' => e = .returned (.string (movesS ms)) ∧ Below w.heap.size w w' := by
  have HM := Lib.hid hs
  obtain ⟨A, c, rfl, hs⟩ := hs
  have HS := Lib.hid hs
  have HW := Lib.hid hw
  unfold maxLen at hn
  clear hs hw
  go_enter Tryd.func41, Tryd.ntmps41
  go_wp2
  go_loopw [3] (fun i wr => ∃ k : Nat, k ≤ ms.length ∧ i = .int .i64 k ∧ MvTo ms k ∧ Below w.heap.size w wr) (fun i _ => ms.length - (intOf i).toNat)
  case atStart => exact ⟨0, Nat.zero_le _, rfl, fun _ _ h => absurd h (Nat.not_lt_zero _), Below.refl _ _⟩
  case round =>
    obtain ⟨k, hk, rfl, hno, hb⟩ := hrel
    have HN := Lib.hid hno
    have HB := Lib.hid hb
    clear hno hb
    by_cases hlt : k < ms.length
    · obtain ⟨ga, oa, rfl, hga, hat⟩ := HS.out (by omega)
      obtain ⟨p0, p1⟩ := hat.below HB.out hga k hlt
      obtain ⟨⟨w1, w2⟩, ⟨w3, w4⟩⟩ := HW.out _ (List.getElem_mem hlt)
      clear hat
      cases hf : inB ms[k].f 0 99
      · have E := Lib.hid (show movesS ms = ⟨#[]⟩ by unfold movesS; rw [mtx_bad hlt (by unfold mvB; rw [hf]; rfl)]; rfl)
        go_wp2_with (go_at_call 97; refine (l00In_any _ _ _ _).mono ?_; rintro e w' ⟨rfl, rfl⟩)
        go_ret
        exact ⟨by rw [E.out]; rfl, HB.out⟩
      · cases ht : inB ms[k].t 0 99
        · have E := Lib.hid (show movesS ms = ⟨#[]⟩ by unfold movesS; rw [mtx_bad hlt (by unfold mvB; rw [hf, ht]; rfl)]; rfl)
          go_wp2_with (go_at_call 97; refine (l00In_any _ _ _ _).mono ?_; rintro e w' ⟨rfl, rfl⟩)
          go_ret
          exact ⟨by rw [E.out]; rfl, HB.out⟩
        · have H1 := Lib.hid (HN.out.succ hlt (by unfold mvB; rw [hf, ht]; rfl))
          go_wp2_with (go_at_call 97; refine (l00In_any _ _ _ _).mono ?_; rintro e w' ⟨rfl, rfl⟩)
          exact ⟨⟨k + 1, by omega, by simp, H1.out, HB.out⟩, by simp only [intOf]; omega⟩
    · obtain rfl : k = ms.length := by omega
      by_cases h200 : 200 < ms.length
      · have E := Lib.hid (show movesS ms = ⟨#[]⟩ by unfold movesS; rw [mtx_long h200]; rfl)
        have g200 : (200 : Int) < (ms.length : Int) := by omega
        go_wp2
        go_ret
        exact ⟨by rw [E.out]; rfl, HB.out⟩
      · have E := Lib.hid (show movesS ms = strOf (movesTo ms ms.length) by unfold movesS; rw [mtx_ok (by omega) HN.out]; rfl)
        have g200 : ¬ (200 : Int) < (ms.length : Int) := by omega
        have LT := Lib.hid (l03Text_any _ ms HN.out wr (HM.out.below HB.out) (by omega))
        go_wp2_with fail
        refine LT.out.mono ?_
        rintro e w2 ⟨rfl, h2⟩
        go_wp2
        go_ret
        exact ⟨by rw [E.out]; rfl, bnext HB.out h2⟩
theorem tMove : (26 : Nat) ≠ 5 := by decide
set_option maxHeartbeats 8000000 in
theorem movesText_any (v : Value) (ms : List Mv) (hw : ∀ m ∈ ms, m.Wf) (w : World) (hs : MovesOf w v ms) (hn : ms.length ≤ maxLen) (htab : Tab w.heap.size w) :
    Calls Tryd.prog 43 #[v] w fun e w' => e = .returned (.string (movesS ms)) ∧ Below w.heap.size w w' := by
  obtain ⟨i0, hi0, hz0, hz1, hz2⟩ := info_parts infoByteT
  obtain ⟨A, c, rfl, hs⟩ := hs
  have HS := Lib.hid hs
  have HW := Lib.hid hw
  have HT := Lib.hid htab
  unfold maxLen at hn
  clear hs hw htab
  by_cases h200 : 200 < ms.length
  · have E := Lib.hid (show movesS ms = ⟨#[]⟩ by unfold movesS; rw [mtx_long h200]; rfl)
    have g200 : (200 : Int) < (ms.length : Int) := by omega
    go_enter Tryd.func43, Tryd.ntmps43
    go_wp2
    go_ret
    exact ⟨by rw [E.out]; rfl, Below.refl _ _⟩
  have g200 : ¬ (200 : Int) < (ms.length : Int) := by omega
  go_enter Tryd.func43, Tryd.ntmps43
  go_wp2
  go_loopw [3, 11] (fun o i wr => ∃ k : Nat, k ≤ ms.length ∧ i = .int .i64 k ∧ MvTo ms k ∧ Txt wr w.heap.size o (movesTo ms k) ∧ Kp w.heap.size w wr) (fun _ i _ => ms.length - (intOf i).toNat)
  case atStart => exact ⟨0, Nat.zero_le _, rfl, fun _ _ h => absurd h (Nat.not_lt_zero _), Txt.nil _ _, Kp.refl _ _⟩
  case round =>
    obtain ⟨k, hk, rfl, hno, ht, hb⟩ := hrel
    have HN := Lib.hid hno
    have TR := Lib.hid ht
    have KR := Lib.hid hb
    have zr := hb.size
    clear hno ht
    by_cases hlt : k < ms.length
    · obtain ⟨ga, oa, rfl, hga, hat⟩ := HS.out (by omega)
      obtain ⟨p0, p1⟩ := hat.below hb.b hga k hlt
      obtain ⟨⟨w1, w2⟩, ⟨w3, w4⟩⟩ := HW.out _ (List.getElem_mem hlt)
      have GX := Lib.hid (show Kp w.heap.size w (wr.alloc (.cells #[.int .i16 ms[k].f, .int .i16 ms[k].t] 26)) from KR.out.alloc zr _)
      have BX := Lib.hid (heap_alloc_new wr (.cells #[.int .i16 ms[k].f, .int .i16 ms[k].t] 26))
      have TX := Lib.hid (show Txt (wr.alloc (.cells #[.int .i16 ms[k].f, .int .i16 ms[k].t] 26)) w.heap.size u3 (movesTo ms k) from TR.out.below ((Below.refl _ _).alloc (Nat.le_refl _) _))
      have ZX := Lib.hid (show w.heap.size ≤ (wr.alloc (.cells #[.int .i16 ms[k].f, .int .i16 ms[k].t] 26)).heap.size by simp; omega)
      have l1 := movesTo_len k hk HN.out
      clear hat hb
      go_upto_region 7 with (fail)
      generalize World.alloc wr _ = W1 at GX BX TX ZX ⊢
      clear p0 p1
      have q0 := cell_of_row W1 _ 0 _ _ _ BX.out
      have q1 := cell_of_row W1 _ 1 _ _ _ BX.out
      simp only [List.getElem?_toArray, List.getElem?_cons_zero, List.getElem?_cons_succ] at q0 q1
      cases hf : inB ms[k].f 0 99
      · have E := Lib.hid (show movesS ms = ⟨#[]⟩ by unfold movesS; rw [mtx_bad hlt (by unfold mvB; rw [hf]; rfl)]; rfl)
        go_wp2_with (go_at_call 100; refine (within16_any _ _ _ _).mono ?_; rintro e w' ⟨rfl, rfl⟩)
        go_ret
        exact ⟨by rw [E.out]; rfl, GX.out.b⟩
      cases hft : inB ms[k].t 0 99
      · have E := Lib.hid (show movesS ms = ⟨#[]⟩ by unfold movesS; rw [mtx_bad hlt (by unfold mvB; rw [hf, hft]; rfl)]; rfl)
        go_wp2_with (go_at_call 100; refine (within16_any _ _ _ _).mono ?_; rintro e w' ⟨rfl, rfl⟩)
        go_ret
        exact ⟨by rw [E.out]; rfl, GX.out.b⟩
      have hb : mvB ms[k] = true := by unfold mvB; rw [hf, hft]; rfl
      have HN1 := Lib.hid (HN.out.succ hlt hb)
      obtain ⟨⟨f1, f2⟩, ⟨t1, t2⟩⟩ := mvB_bd hb
      have d1 := dec_len (z := ms[k].f) (by omega)
      clear hb
      by_cases h0 : k = 0
      · subst h0
        have ES := Lib.hid (movesTo_first hlt)
        go_upto_region 11 with (go_at_call 100; refine (within16_any _ _ _ _).mono ?_; rintro e w' ⟨rfl, rfl⟩)
        go_wp2_with fail
        refine (number_txt w.heap.size ms[0].f f1 (by omega) [62] (movesTo ms 0) _ _ TX.out ZX.out (by simp only [List.length_cons, List.length_nil]; omega) (HT.out.on GX.out.b)).mono ?_
        rintro e w5 ⟨v5, rfl, ht5, hk5⟩
        have T5 := Lib.hid ht5
        have G5 := Lib.hid (GX.out.trans hk5)
        have B5 := Lib.hid (hk5.box BX.out tMove)
        have z5 := hk5.size
        have zx := ZX.out
        clear ht5 hk5 q0 q1
        have q1 := cell_of_row w5 _ 1 _ _ _ B5.out
        simp only [List.getElem?_toArray, List.getElem?_cons_zero, List.getElem?_cons_succ] at q1
        go_wp2_with fail
        refine (number_txt w.heap.size ms[0].t t1 (by omega) [] (movesTo ms 0 ++ (dec ms[0].f ++ [62])) _ _ T5.out (by omega) (by simp only [List.length_append, List.length_cons, List.length_nil]; omega) (HT.out.on G5.out.b)).mono ?_
        rintro e w6 ⟨v6, rfl, ht6, hk6⟩
        have T6 := Lib.hid (show Txt w6 w.heap.size v6 (movesTo ms 1) by
          have h := ht6
          rw [List.append_nil, show movesTo ms 0 = [] from rfl, List.nil_append, List.append_assoc] at h
          rw [ES.out]
          exact h)
        have G6 := Lib.hid (G5.out.trans hk6)
        clear ht6 hk6 q1
        go_wp2
        exact ⟨⟨1, hlt, by simp, HN1.out, T6.out, G6.out⟩, by simp only [intOf]; omega⟩
      · have ES := Lib.hid (movesTo_succ h0 hlt)
        have hpos : 0 < k := by omega
        go_upto_region 10 with (go_at_call 100; refine (within16_any _ _ _ _).mono ?_; rintro e w' ⟨rfl, rfl⟩)
        have T4 := Lib.hid (show Txt (W1.alloc (.cells #[.int .u8 32] 5)) w.heap.size u3 (movesTo ms k) from TX.out.below ((Below.refl _ _).alloc (Nat.le_refl _) _))
        have zx := ZX.out
        go_wp2_with (at_builtin; refine wpList_append_own _ rfl (.tmp 28) (.tmp 29) _ rfl w.heap.size 5 i0 (.int .u8 0) 1 1 Tryd.underlying121 hi0 hz0 hz1 hz2 rfl (by decide) _ _ _ rfl T4.out ⟨W1.heap.size, 0, none⟩ 1 1 [.int .u8 32] rfl rfl (cellOne W1 _ _) ?d2a ?d3a ?d4a ?d5a ?_)
        case d2a => (intro u hu; simp at hu; subst hu; rfl)
        case d3a => (unfold maxLen; omega)
        case d4a => omega
        case d5a => (simp; omega)
        intro v3 w3 hown3 hgrow3 _
        have T3 := Lib.hid (show Txt w3 w.heap.size v3 (movesTo ms k ++ [32]) by
          refine Txt.of hown3 ?_ ?_
          · simp only [List.length_append, List.length_cons, List.length_nil]
          · rw [Lib.byteCells_append _ [32]]
            rfl)
        have k3 := Lib.hid (((Kp.refl w.heap.size W1).alloc zx (.cells #[.int .u8 32] 5)).grown T4.out hgrow3 (by simp; omega))
        have G3 := Lib.hid (GX.out.trans k3.out)
        have B3 := Lib.hid (k3.out.box BX.out tMove)
        have z3 := G3.out.size
        clear hown3 hgrow3 q0 q1 k3
        have q0 := cell_of_row w3 _ 0 _ _ _ B3.out
        simp only [List.getElem?_toArray, List.getElem?_cons_zero, List.getElem?_cons_succ] at q0
        go_wp2_with fail
        refine (number_txt w.heap.size ms[k].f f1 (by omega) [62] (movesTo ms k ++ [32]) _ _ T3.out z3 (by simp only [List.length_append, List.length_cons, List.length_nil]; omega) (HT.out.on G3.out.b)).mono ?_
        rintro e w5 ⟨v5, rfl, ht5, hk5⟩
        have T5 := Lib.hid ht5
        have G5 := Lib.hid (G3.out.trans hk5)
        have B5 := Lib.hid (hk5.box B3.out tMove)
        have z5 := hk5.size
        clear ht5 hk5 q0
        have q1 := cell_of_row w5 _ 1 _ _ _ B5.out
        simp only [List.getElem?_toArray, List.getElem?_cons_zero, List.getElem?_cons_succ] at q1
        go_wp2_with fail
        refine (number_txt w.heap.size ms[k].t t1 (by omega) [] (movesTo ms k ++ [32] ++ (dec ms[k].f ++ [62])) _ _ T5.out (by omega) (by simp only [List.length_append, List.length_cons, List.length_nil]; omega) (HT.out.on G5.out.b)).mono ?_
        rintro e w6 ⟨v6, rfl, ht6, hk6⟩
        have T6 := Lib.hid (show Txt w6 w.heap.size v6 (movesTo ms (k + 1)) by
          have h := ht6
          rw [List.append_nil, List.append_assoc, List.append_assoc, List.append_assoc] at h
          rw [ES.out]
          exact h)
        have G6 := Lib.hid (G5.out.trans hk6)
        clear ht6 hk6 q1
        go_wp2
        exact ⟨⟨k + 1, hlt, by simp, HN1.out, T6.out, G6.out⟩, by simp only [intOf]; omega⟩
    · obtain rfl : k = ms.length := by omega
      have E := Lib.hid (show movesS ms = strOf (movesTo ms ms.length) by unfold movesS; rw [mtx_ok (by omega) HN.out]; rfl)
      have DC := TR.out.string
      go_wp2
      go_ret
      exact ⟨by rw [E.out]; rfl, KR.out.b⟩
end Go.Proofs.YtaahfcdpgcfmhaaDoor
