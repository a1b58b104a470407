/- The text of an act, by the model and by the program: contracts. Condition: the table of powers of ten is as laid. -/
import Derived.Test.YtaahfcdpgcfmhaaDoorApB
import Derived.Test.YtaahfcdpgcfmhaaDoorAc
import Derived.Test.YtaahfcdpgcfmhaaDoorCaseOk
import Derived.Test.YtaahfcdpgcfmhaaDoorQuiet
import Derived.Laws.StructEq
import Derived.ChangeKeysEq
import Derived.Deep.RegionLaw
import Derived.Deep.AppendLies
import Derived.Deep.Cut
import Derived.Deep.CutRange
namespace Go.Proofs.YtaahfcdpgcfmhaaDoor
set_option linter.unusedSimpArgs false
set_option linter.unusedVariables false
set_option maxRecDepth 100000
open Go.RowKit

/-- append of a string at a step of a region that draws its order. -/
theorem step_append_txt {P : Program} {w : World} {ops : Array Oper} {o : Oper} {a : Act} {K : Act → World → Prop} {Q : Exit → Act → World → Prop} {E : Prop} (hgd : o.guard = none) (sl x : Operand) (t u : TypeId)
    (ho : o.op = .call { callee := .builtin .append, args := #[sl, x], argTypes := #[t, u] })
    (base : Nat) (e : TypeId) (i : TypeInfo) (ht : P.underlying t = some (.slice e)) (hu : P.underlying u = some .string) (hi : P.info? e = some i) (hz : i.zero = some (.int .u8 0))
    (hsize : i.size = 1) (hby : i.bytes = 1)
    (v : Value) (n : Nat) (xs : List Value) (hs : a.eval sl = v) (hown : w.ownsRow base e 1 v n xs) (s : ByteArray) (hx : a.eval x = .string s)
    (h63 : n + s.size ≤ maxLen) (hbytes : n + s.size ≤ 140737488355328) (hbase : base ≤ w.heap.size)
    (h : ∀ v' w', w'.ownsRow base e 1 v' (n + s.size) (xs ++ Lib.strCells s) → w.grownBy w' v.ownBlock → K (a.put o.dst v') w') :
    if Region.wanted o (yielded ops a.tmps) = true then Oper.wp P o a w K Q else E := by
  have hw : Region.wanted o (yielded ops a.tmps) = true := by simp [Region.wanted, hgd]
  rw [if_pos hw]
  obtain ⟨v', w', hr, h2, h3, h4⟩ := Lib.run_append_own_string (P := P) w base t u o.type e i ht hu hi hz hsize hby v n xs hown s h63 hbytes hbase
  unfold Oper.wp execOp
  simp only [ho, resolve, invoke, builtin, Sem.run_bind, Sem.run_pure, Result.andThen_ok, List.map_toArray, List.map_cons, List.map_nil, hs, hx, hr]
  exact h v' w' h2 h3

/-- The words of acts. -/
def wordT : Nat → List UInt8
  | 0 => [108, 101, 110, 100]
  | 1 => [114, 101, 116, 117, 114, 110]
  | 2 => [97, 115, 107]
  | 3 => [114, 101, 110, 101, 119]
  | 4 => [100, 114, 111, 112]
  | _ => [100, 97, 121]
theorem wordT_len (k : Nat) : (wordT k).length ≤ 6 := by
  unfold wordT
  split <;> simp
def personB (n : Int) : Bool := inB n 0 49
/-- An act is as told. -/
def actB (a : Ac) : Bool := if a.wt = 5 then decide (a.wo = 0) && decide (a.bo = 0) else inB a.wt 0 4 && (personB a.wo && inB a.bo 0 59)
def actT (a : Ac) : List UInt8 := wordT a.wt.toNat ++ (if a.wt = 5 then [] else [32] ++ (dec a.wo ++ ([32] ++ dec a.bo)))
/-- What ActText answers. -/
def actS (a : Ac) : ByteArray := if actB a then strOf (actT a) else ⟨#[]⟩
theorem actB_bd {a : Ac} (h : actB a = true) : (0 ≤ a.wt ∧ a.wt ≤ 5) ∧ (0 ≤ a.wo ∧ a.wo ≤ 49) ∧ (0 ≤ a.bo ∧ a.bo ≤ 59) := by
  unfold actB personB inB at h
  split at h
  · simp only [Bool.and_eq_true, decide_eq_true_eq] at h; omega
  · simp only [Bool.and_eq_true, decide_eq_true_eq] at h; omega
theorem actT_len {a : Ac} (h : actB a = true) : (actT a).length ≤ 50 := by
  obtain ⟨_, h2, h3⟩ := actB_bd h
  have d1 := dec_len (z := a.wo) (by omega)
  have d2 := dec_len (z := a.bo) (by omega)
  have d3 := wordT_len a.wt.toNat
  unfold actT
  split
  · simp only [List.length_append, List.length_nil]; omega
  · simp only [List.length_append, List.length_cons, List.length_nil]; omega
theorem l06PersonT (n : Int) (w : World) :
    Calls Tryd.prog 149 #[.int .i64 n] w fun e w' => e = .returned (.bool (personB n)) ∧ w = w' := by
  go_enter Tryd.func149, Tryd.ntmps149
  go_wp2_with fail
  refine (l00In_any _ _ _ _).mono ?_
  rintro e w' ⟨rfl, rfl⟩
  go_wp2
  go_ret
  exact ⟨rfl, rfl⟩
theorem isPersonT (n : Int) (w : World) :
    Calls Tryd.prog 152 #[.int .i64 n] w fun e w' => e = .returned (.bool (personB n)) ∧ w = w' := by
  go_enter Tryd.func152, Tryd.ntmps152
  go_wp2_with fail
  refine (within64_any _ _ _ _).mono ?_
  rintro e w' ⟨rfl, rfl⟩
  go_wp2
  go_ret
  exact ⟨rfl, rfl⟩
set_option maxHeartbeats 400000 in
theorem withinI8_any (n low high : Int) (w : World) :
    Calls Tryd.prog 151 #[.int .i8 n, .int .i8 low, .int .i8 high] w fun e w' => e = .returned (.bool (inB n low high)) ∧ w = w' := by
  by_cases h1 : low ≤ n
  · by_cases h2 : n ≤ high
    · go_enter Tryd.func151, Tryd.ntmps151
      go_wp2
      go_ret
      exact ⟨by simp [inB, h1, h2], rfl⟩
    · go_enter Tryd.func151, Tryd.ntmps151
      go_wp2
      go_ret
      exact ⟨by simp [inB, h1, h2], rfl⟩
  · have h1' : n < low := by omega
    go_enter Tryd.func151, Tryd.ntmps151
    go_wp2
    go_ret
    exact ⟨by simp [inB, show ¬ low ≤ n from by omega], rfl⟩
theorem eqAct_run (a0 a1 a2 b0 b1 b2 : Int) (r : Bool) (hr : decide (a0 = b0 ∧ a1 = b1 ∧ a2 = b2) = r) (w : World) : (binOp .eql 89 (.agg #[.int .i8 a0, .int .i8 a1, .int .i8 a2]) (.agg #[.int .i8 b0, .int .i8 b1, .int .i8 b2])).run Tryd.prog w = .ok (.bool r) w := by
  have hS : Tryd.prog.underlying 89 = some (.struct (Tryd.prog.fieldsOf 89)) := by kernel_rfl
  have hp : Tryd.prog.stoodInHeld 89 = false := by kernel_rfl
  rw [run_eql_struct, show (10000 : Nat) = 9999 + 1 from rfl, run_equalIn_agg w 9999 89 _ _ hS hp]
  subst hr
  simp only [Program.fieldsOf, Tryd.underlying89]
  go_simp
  by_cases h0 : a0 = b0 <;> by_cases h1 : a1 = b1 <;> by_cases h2 : a2 = b2
  all_goals simp [h0, h1, h2]
/-- The words in memory. -/
structure WordsAt (w : World) (g : Nat) : Prop where
  c : ∀ k, k < 6 → w.cell? ⟨g, k, none⟩ = some (.string (strOf (wordT k)))
  lt : g < w.heap.size
theorem words_new (w : World) (t : TypeId) : WordsAt (w.alloc (.cells #[.string (strOf (wordT 0)), .string (strOf (wordT 1)), .string (strOf (wordT 2)), .string (strOf (wordT 3)), .string (strOf (wordT 4)), .string (strOf (wordT 5))] t)) w.heap.size := by
  refine ⟨fun k hk => ?_, by simp⟩
  rw [cell_of_row _ _ k _ _ _ (heap_alloc_new w _)]
  match k, hk with
  | 0, _ => rfl
  | 1, _ => rfl
  | 2, _ => rfl
  | 3, _ => rfl
  | 4, _ => rfl
  | 5, _ => rfl
set_option maxHeartbeats 1000000 in
theorem l06Words_any (w : World) : Calls Tryd.prog 150 #[] w fun e w' => ∃ g, e = .returned (.slice (some ⟨g, 0, none⟩) 6 6) ∧ WordsAt w' g ∧ Below w.heap.size w w' := by
  have HW := Lib.hid (words_new w 9)
  have HB := Lib.hid ((Below.refl w.heap.size w).alloc (Nat.le_refl _) (.cells #[.string (strOf (wordT 0)), .string (strOf (wordT 1)), .string (strOf (wordT 2)), .string (strOf (wordT 3)), .string (strOf (wordT 4)), .string (strOf (wordT 5))] 9))
  go_enter Tryd.func150, Tryd.ntmps150
  go_wp2
  go_ret
  exact ⟨_, rfl, HW.out, HB.out⟩
set_option maxHeartbeats 1000000 in
theorem actWords_any (w : World) : Calls Tryd.prog 153 #[] w fun e w' => ∃ g, e = .returned (.slice (some ⟨g, 0, none⟩) 6 6) ∧ WordsAt w' g ∧ Below w.heap.size w w' := by
  have HW := Lib.hid (words_new w 9)
  have HB := Lib.hid ((Below.refl w.heap.size w).alloc (Nat.le_refl _) (.cells #[.string (strOf (wordT 0)), .string (strOf (wordT 1)), .string (strOf (wordT 2)), .string (strOf (wordT 3)), .string (strOf (wordT 4)), .string (strOf (wordT 5))] 9))
  go_enter Tryd.func153, Tryd.ntmps153
  go_wp2
  go_ret
  exact ⟨_, rfl, HW.out, HB.out⟩
theorem actB_day {a : Ac} (h : a.wt = 5) : actB a = (decide (a.wo = 0) && decide (a.bo = 0)) := by unfold actB; rw [if_pos h]
theorem actB_other {a : Ac} (h : a.wt ≠ 5) : actB a = (inB a.wt 0 4 && (personB a.wo && inB a.bo 0 59)) := by unfold actB; rw [if_neg h]
set_option maxHeartbeats 4000000 in
theorem l06Act_any (a : Ac) (wa : a.Wf) (w : World) :
    Calls Tryd.prog 110 #[.agg #[.int .i8 a.wt, .int .i8 a.wo, .int .i8 a.bo]] w fun e w' => e = .returned (.bool (actB a)) ∧ Below w.heap.size w w' := by
  obtain ⟨⟨w1, w2⟩, ⟨w3, w4⟩, ⟨w5, w6⟩⟩ := wa
  have G0 := Lib.hid (show Below w.heap.size w (w.alloc (.cells #[.int .i8 a.wt, .int .i8 a.wo, .int .i8 a.bo] 89)) from (Below.refl _ _).alloc (Nat.le_refl _) _)
  have BX := Lib.hid (heap_alloc_new w (.cells #[.int .i8 a.wt, .int .i8 a.wo, .int .i8 a.bo] 89))
  by_cases h5 : a.wt = 5
  · have E := Lib.hid (actB_day h5)
    have h5b : (a.wt == 5) = true := by simpa using h5
    by_cases ho : a.wo = 0
    · have hob : (a.wo == 0) = true := by simpa using ho
      by_cases hb : a.bo = 0
      · have hbb : (a.bo == 0) = true := by simpa using hb
        have E2 := Lib.hid (show actB a = true by rw [E.out, decide_eq_true ho, decide_eq_true hb]; rfl)
        clear h5 ho hb
        go_enter Tryd.func110, Tryd.ntmps110
        go_upto_region 1 with (fail)
        generalize World.alloc _ _ = W0 at G0 BX ⊢
        have q0 := cell_of_row W0 _ 0 _ _ _ BX.out
        have q1 := cell_of_row W0 _ 1 _ _ _ BX.out
        have q2 := cell_of_row W0 _ 2 _ _ _ BX.out
        simp only [List.getElem?_toArray, List.getElem?_cons_zero, List.getElem?_cons_succ] at q0 q1 q2
        go_wp2
        go_ret
        exact ⟨by rw [E2.out]; rfl, G0.out⟩
      · have hbb : (a.bo == 0) = false := by simpa using hb
        have E2 := Lib.hid (show actB a = false by rw [E.out, decide_eq_false hb]; simp)
        clear h5 ho hb
        go_enter Tryd.func110, Tryd.ntmps110
        go_upto_region 1 with (fail)
        generalize World.alloc _ _ = W0 at G0 BX ⊢
        have q0 := cell_of_row W0 _ 0 _ _ _ BX.out
        have q1 := cell_of_row W0 _ 1 _ _ _ BX.out
        have q2 := cell_of_row W0 _ 2 _ _ _ BX.out
        simp only [List.getElem?_toArray, List.getElem?_cons_zero, List.getElem?_cons_succ] at q0 q1 q2
        go_wp2
        go_ret
        exact ⟨by rw [E2.out]; rfl, G0.out⟩
    · have hob : (a.wo == 0) = false := by simpa using ho
      have E2 := Lib.hid (show actB a = false by rw [E.out, decide_eq_false ho]; simp)
      clear h5 ho
      go_enter Tryd.func110, Tryd.ntmps110
      go_upto_region 1 with (fail)
      generalize World.alloc _ _ = W0 at G0 BX ⊢
      have q0 := cell_of_row W0 _ 0 _ _ _ BX.out
      have q1 := cell_of_row W0 _ 1 _ _ _ BX.out
      have q2 := cell_of_row W0 _ 2 _ _ _ BX.out
      simp only [List.getElem?_toArray, List.getElem?_cons_zero, List.getElem?_cons_succ] at q0 q1 q2
      go_wp2
      go_ret
      exact ⟨by rw [E2.out]; rfl, G0.out⟩
  · have E := Lib.hid (actB_other h5)
    have h5b : (a.wt == 5) = false := by simpa using h5
    clear h5
    rcases chain3 (inB a.wt 0 4) (personB a.wo) (inB a.bo 0 59) with e1 | ⟨e1, e2⟩ | ⟨e1, e2, e3⟩ | ⟨e1, e2, e3⟩
    all_goals
      have E2 := Lib.hid E.out
      rw [e1] at E2
      try rw [e2] at E2
      try rw [e3] at E2
      go_enter Tryd.func110, Tryd.ntmps110
      go_upto_region 1 with (fail)
      generalize World.alloc _ _ = W0 at G0 BX ⊢
      have q0 := cell_of_row W0 _ 0 _ _ _ BX.out
      have q1 := cell_of_row W0 _ 1 _ _ _ BX.out
      have q2 := cell_of_row W0 _ 2 _ _ _ BX.out
      simp only [List.getElem?_toArray, List.getElem?_cons_zero, List.getElem?_cons_succ] at q0 q1 q2
      go_wp2_with (first | (go_at_call 97; refine (l00In_any _ _ _ _).mono ?_; rintro e w' ⟨rfl, rfl⟩) | (go_at_call 149; refine (l06PersonT _ _).mono ?_; rintro e w' ⟨rfl, rfl⟩))
      go_ret
      exact ⟨by rw [E2.out]; rfl, G0.out⟩
set_option maxHeartbeats 4000000 in
theorem isAct_any (a : Ac) (wa : a.Wf) (w : World) :
    Calls Tryd.prog 112 #[.agg #[.int .i8 a.wt, .int .i8 a.wo, .int .i8 a.bo], .int .i64 60] w fun e w' => e = .returned (.bool (actB a)) ∧ Below w.heap.size w w' := by
  obtain ⟨⟨w1, w2⟩, ⟨w3, w4⟩, ⟨w5, w6⟩⟩ := wa
  have G0 := Lib.hid (show Below w.heap.size w (w.alloc (.cells #[.int .i8 a.wt, .int .i8 a.wo, .int .i8 a.bo] 89)) from (Below.refl _ _).alloc (Nat.le_refl _) _)
  have BX := Lib.hid (heap_alloc_new w (.cells #[.int .i8 a.wt, .int .i8 a.wo, .int .i8 a.bo] 89))
  by_cases h5 : a.wt = 5
  · have E := Lib.hid (actB_day h5)
    have h5b : (a.wt == 5) = true := by simpa using h5
    have EQ := fun W => eqAct_run a.wt a.wo a.bo 5 0 0 (actB a) (by rw [E.out, h5]; by_cases ho : a.wo = 0 <;> by_cases hb : a.bo = 0 <;> simp [ho, hb]) W
    clear h5
    go_enter Tryd.func112, Tryd.ntmps112
    go_upto_region 1 with (fail)
    generalize World.alloc _ _ = W0 at G0 BX ⊢
    have q0 := cell_of_row W0 _ 0 _ _ _ BX.out
    have q1 := cell_of_row W0 _ 1 _ _ _ BX.out
    have q2 := cell_of_row W0 _ 2 _ _ _ BX.out
    simp only [List.getElem?_toArray, List.getElem?_cons_zero, List.getElem?_cons_succ] at q0 q1 q2
    go_wp2
    go_ret
    exact ⟨rfl, G0.out⟩
  · have E := Lib.hid (actB_other h5)
    have h5b : (a.wt == 5) = false := by simpa using h5
    clear h5
    rcases chain3 (inB a.wt 0 4) (personB a.wo) (inB a.bo 0 59) with e1 | ⟨e1, e2⟩ | ⟨e1, e2, e3⟩ | ⟨e1, e2, e3⟩
    all_goals
      have E2 := Lib.hid E.out
      rw [e1] at E2
      try rw [e2] at E2
      try rw [e3] at E2
      go_enter Tryd.func112, Tryd.ntmps112
      go_upto_region 1 with (fail)
      generalize World.alloc _ _ = W0 at G0 BX ⊢
      have q0 := cell_of_row W0 _ 0 _ _ _ BX.out
      have q1 := cell_of_row W0 _ 1 _ _ _ BX.out
      have q2 := cell_of_row W0 _ 2 _ _ _ BX.out
      simp only [List.getElem?_toArray, List.getElem?_cons_zero, List.getElem?_cons_succ] at q0 q1 q2
      go_wp2_with (first | (go_at_call 151; refine (withinI8_any _ _ _ _).mono ?_; rintro e w' ⟨rfl, rfl⟩) | (go_at_call 152; refine (isPersonT _ _).mono ?_; rintro e w' ⟨rfl, rfl⟩) | (go_at_call 94; refine (withinI_any _ _ _ _).mono ?_; rintro e w' ⟨rfl, rfl⟩))
      go_ret
      exact ⟨by rw [E2.out]; rfl, G0.out⟩
end Go.Proofs.YtaahfcdpgcfmhaaDoor
