/- Which desks are valid, by the model: contracts. Condition: no longer than slices can be, numbers within their kinds. -/
import Derived.Test.YtmafjncaigllbabDkS
import Derived.Test.YtmafjncaigllbabOwn
import Derived.Maps.AppendAt
namespace Go.Proofs.Ytmafjncaigllbab
set_option linter.unusedSimpArgs false
set_option linter.unusedVariables false
set_option maxRecDepth 100000
open Go.RowKit

theorem infoI64d : (Try.prog.info? 2).map (fun i => (i.zero, i.size, i.bytes)) = some (some (.int .i64 0), 1, 8) := by kernel_rfl

/-- A desk lies in block g. -/
def DkAt (w : World) (g : Nat) (d : Dk) (hv : Value) : Prop := w.cell? ⟨g, 0, none⟩ = some (.int .i16 d.day) ∧ w.cell? ⟨g, 1, none⟩ = some hv ∧ g < w.heap.size ∧ CpsOf w hv d.cs
theorem DkAt.below {w w' : World} {g : Nat} {d : Dk} {hv : Value} (h : DkAt w g d hv) (hb : Below w.heap.size w w') : DkAt w' g d hv :=
  ⟨(hb.cell (p := ⟨g, 0, none⟩) h.2.2.1).trans h.1, (hb.cell (p := ⟨g, 1, none⟩) h.2.2.1).trans h.2.1, Nat.lt_of_lt_of_le h.2.2.1 hb.size, h.2.2.2.below hb⟩
theorem DkAt.new {w : World} {d : Dk} {hv : Value} {t : TypeId} (h : CpsOf w hv d.cs) : DkAt (w.alloc (.cells #[.int .i16 d.day, hv] t)) w.heap.size d hv :=
  ⟨cell_of_row _ _ 0 _ _ _ (heap_alloc_new w _), cell_of_row _ _ 1 _ _ _ (heap_alloc_new w _), by simp, h.below ((Below.refl _ _).alloc (Nat.le_refl _) _)⟩

set_option maxHeartbeats 8000000 in
theorem l06Loans_any (d : Dk) (hv : Value) (wf : d.Wf) (who : Int) (g : Nat) (w : World) (hd : DkAt w g d hv) (h60 : d.cs.length ≤ 1048576) :
    Calls Try.prog 20 #[.pointer (some ⟨g, 0, none⟩), .int .i64 who] w fun e w' => ∃ v, e = .returned v ∧ w'.ownsRow w.heap.size 2 1 v (wh d.cs (lentTo who)).length ((wh d.cs (lentTo who)).map (Value.int .i64)) ∧ Below w.heap.size w w' := by
  have HD := Lib.hid hd
  obtain ⟨-, -, hg, A, c, rfl, -⟩ := hd
  have WF := Lib.hid wf.cs
  obtain ⟨i0, hi0, hz0, hz1, hz2⟩ := info_parts infoI64d
  have H0 := Lib.hid (show (w.alloc (.cells #[] 2)).ownsRow w.heap.size 2 1 (.slice (some ⟨w.heap.size, 0, none⟩) 0 0) (whTo d.cs (lentTo who) 0).length ((whTo d.cs (lentTo who) 0).map (Value.int .i64)) from
    ⟨rfl, .inr ⟨w.heap.size, 0, #[], rfl, Nat.le_refl _, heap_alloc_new w _, Nat.le_refl _, Nat.zero_le _, rfl, rfl⟩⟩)
  clear wf
  go_enter Try.func20, Try.ntmps20
  go_wp2
  go_loopw [5, 6] (fun v_ i_ wr => ∃ i : Nat, i ≤ d.cs.length ∧ i_ = .int .i64 (i : Int) ∧ wr.ownsRow w.heap.size 2 1 v_ (whTo d.cs (lentTo who) i).length ((whTo d.cs (lentTo who) i).map (Value.int .i64)) ∧ Below w.heap.size w wr) (fun _ i_ _ => d.cs.length - (intOf i_).toNat)
  case atStart => exact ⟨0, Nat.zero_le _, rfl, H0.out, (Below.refl _ _).alloc (Nat.le_refl _) _⟩
  case round =>
    obtain ⟨i, hi, rfl, hown, hb⟩ := hrel
    have OW := Lib.hid hown
    obtain ⟨A3, c3, rfl⟩ := vlen_own1 hown
    have WL := Lib.hid (whTo_len d.cs (lentTo who) i)
    have HB := Lib.hid hb
    have hsz := hb.size
    obtain ⟨-, b1, hg2, A', c', e, hh⟩ := HD.out.below hb
    cases e
    clear hown hb
    by_cases hlt : i < d.cs.length
    · obtain ⟨ga, oa, rfl, hga, hat⟩ := hh (by omega)
      obtain ⟨p0, p1, p2, p3, u, p4, -⟩ := hat i hlt
      obtain ⟨⟨x1, x2⟩, ⟨x3, x4⟩, -, -, -⟩ := WF.out _ (List.getElem_mem hlt)
      have WY := Lib.hid (fun h => whTo_yes (p := lentTo who) hlt h)
      have WN := Lib.hid (fun h => whTo_no (p := lentTo who) hlt h)
      clear hat hh p2 p3 p4
      generalize d.cs[i] = x at *
      have wno : ¬ (x.st = 1 ∧ x.who = who) → whTo d.cs (lentTo who) (i + 1) = whTo d.cs (lentTo who) i := fun h => WN.out (by unfold lentTo; exact decide_eq_false h)
      have NO := Lib.hid wno
      clear wno
      by_cases s1 : x.st = 1
      · by_cases s2 : x.who = who
        · have YS := Lib.hid (WY.out (by unfold lentTo; exact decide_eq_true ⟨s1, s2⟩))
          clear WY WN NO
          have hml := WL.out
          generalize whTo d.cs (lentTo who) i = L at OW YS hml ⊢
          go_wp2_with (at_builtin; refine wpList_append_own _ rfl (.tmp 39) (.tmp 41) _ rfl w.heap.size 2 i0 (.int .i64 0) 1 8 Try.underlying45 hi0 hz0 hz1 hz2 rfl (by decide) _ _ _ rfl (OW.out.alloc _) ⟨wr.heap.size, 0, none⟩ 1 1 [.int .i64 (i : Int)] rfl rfl ?c1 ?c2 ?c3 ?c4 ?c5 ?_)
          case c1 => exact cell_one_new _ _ _
          case c2 => (intro u hu; simp at hu; subst hu; rfl)
          case c3 => (unfold maxLen; omega)
          case c4 => omega
          case c5 => (simp; omega)
          intro v' w4 hown' hgrow' _
          have OW' := Lib.hid hown'
          have g4 : Below w.heap.size w w4 := (HB.out.alloc hsz _).grown hgrow' (by simp; omega) (fun k hk => (OW.out.lt k hk).1)
          clear hown' hgrow'
          go_wp2
          go_roundw
          case rel => exact ⟨i + 1, by omega, by go_num, by rw [YS.out]; simpa using OW'.out, g4⟩
          case measure => simp [intOf]; omega
        · have NN := Lib.hid (NO.out (fun h => s2 h.2))
          clear WY WN NO
          go_wp2
          go_roundw
          case rel => exact ⟨i + 1, by omega, by go_num, by rw [NN.out]; exact OW.out, HB.out⟩
          case measure => simp [intOf]; omega
      · have NN := Lib.hid (NO.out (fun h => s1 h.1))
        clear WY WN NO
        go_wp2
        go_roundw
        case rel => exact ⟨i + 1, by omega, by go_num, by rw [NN.out]; exact OW.out, HB.out⟩
        case measure => simp [intOf]; omega
    · obtain rfl : i = d.cs.length := by omega
      go_wp2
      go_ret
      exact ⟨_, rfl, OW.out, HB.out⟩

def CpTo (d : Dk) (k : Nat) : Prop := ∀ (i : Nat) (hi : i < d.cs.length), i < k → cpB d.cs[i] d.day = true
theorem CpTo.zero (d : Dk) : CpTo d 0 := fun _ _ h => absurd h (Nat.not_lt_zero _)
theorem CpTo.succ {d : Dk} {k : Nat} (h : CpTo d k) (hk : k < d.cs.length) (h1 : cpB d.cs[k] d.day = true) : CpTo d (k + 1) := by
  intro i hi hik
  by_cases e : i = k
  · subst e; exact h1
  · exact h i hi (by omega)
def LoTo (d : Dk) (k : Nat) : Prop := ∀ n : Nat, n < k → (wh d.cs (lentTo n)).length ≤ 3
theorem LoTo.zero (d : Dk) : LoTo d 0 := fun _ h => absurd h (Nat.not_lt_zero _)
theorem LoTo.succ {d : Dk} {k : Nat} (h : LoTo d k) (h1 : (wh d.cs (lentTo k)).length ≤ 3) : LoTo d (k + 1) := by
  intro i hik
  by_cases e : i = k
  · subst e; exact h1
  · exact h i (by omega)
theorem CpsOf.in_ {w : World} {A : Option Addr} {c : Nat} {xs : List Cp} (h : CpsOf w (.slice A xs.length c) xs) {i : Nat} (hi : i < xs.length) : ∃ g o, A = some ⟨g, o, none⟩ ∧ g < w.heap.size ∧ CpIn w g (o + i * 5) xs[i] := by
  obtain ⟨A', c', e, h⟩ := h
  cases e
  obtain ⟨g, o, rfl, hg, hat⟩ := h (by omega)
  exact ⟨g, o, rfl, hg, hat i hi⟩

set_option maxHeartbeats 8000000 in
theorem l06Ok_any (d : Dk) (hv : Value) (wf : d.Wf ∧ ∀ c ∈ d.cs, c.q.length ≤ maxLen) (g : Nat) (w : World) (hd : DkAt w g d hv) (hn : d.cs.length ≤ maxLen) :
    Calls Try.prog 17 #[.pointer (some ⟨g, 0, none⟩)] w fun e w' => e = .returned (.bool (dkB d)) ∧ Below w.heap.size w w' := by
  have HD := Lib.hid hd
  obtain ⟨c0, c1, hg, A, c, rfl, -⟩ := hd
  obtain ⟨wf, hr⟩ := wf
  have WF := Lib.hid wf
  obtain ⟨⟨y1, y2⟩, -⟩ := wf
  have HR := Lib.hid hr
  clear hr
  unfold maxLen at hn
  cases e1 : inB d.day 0 10000
  · have E := Lib.hid (dk_f (d := d) (fun h => by have := h.day; rw [e1] at this; cases this))
    go_enter Try.func17, Try.ntmps17
    go_wp2_with (go_at_call 19; refine (l00In_any _ _ _ _).mono ?_; rintro e w' ⟨rfl, rfl⟩)
    go_ret
    exact ⟨by rw [E.out]; rfl, Below.refl _ _⟩
  · by_cases e2 : d.cs.length ≤ 60
    · have e2d : ¬ (60 : Int) < (d.cs.length : Int) := by omega
      have DK := Lib.hid (fun h1 h2 => dk_t (d := d) ⟨e1, e2, h1, h2⟩)
      go_enter Try.func17, Try.ntmps17
      go_wp2_with (go_at_call 19; refine (l00In_any _ _ _ _).mono ?_; rintro e w' ⟨rfl, rfl⟩)
      clear c0 c1
      go_loopw [3] (fun i wr => ∃ k : Nat, k ≤ d.cs.length ∧ i = .int .i64 k ∧ CpTo d k ∧ Below w.heap.size w wr) (fun i _ => d.cs.length - (intOf i).toNat)
      case atStart => exact ⟨0, Nat.zero_le _, rfl, CpTo.zero _, Below.refl _ _⟩
      case round =>
        obtain ⟨k, hk, rfl, hct, hb⟩ := hrel
        have CT := Lib.hid hct
        have HB := Lib.hid hb
        obtain ⟨c0, c1, hg2, hs⟩ := HD.out.below hb
        have HS := Lib.hid hs
        clear hct hb hs
        by_cases hlt : k < d.cs.length
        · obtain ⟨ga, oa, rfl, hga, hin⟩ := HS.out.in_ hlt
          have HI := Lib.hid hin
          have WK := Lib.hid (WF.out.cs _ (List.getElem_mem hlt))
          have RK := Lib.hid (HR.out _ (List.getElem_mem hlt))
          have CF := Lib.hid (fun (p : BelowBy wr) => l06Copy_any d.cs[k] WK.out d.day ⟨y1, y2⟩ ga (oa + k * 5) p.W (HI.out.below p.h hga) (Nat.lt_of_lt_of_le hga p.h.size) RK.out)
          have c0 := belowBy_cell hg2 c0
          have c1 := belowBy_cell hg2 c1
          clear hin
          have CS := Lib.hid (fun h => CT.out.succ hlt h)
          have CN := Lib.hid (fun (h : ¬ cpB d.cs[k] d.day = true) => dk_f (d := d) (fun hd => h (hd.cp k hlt)))
          generalize cpB d.cs[k] d.day = r at *
          go_wp2
          refine wp_region_below (by kernel_rfl) (by kernel_rfl) ?_
          repeat (first | go_big_quiet_step ((go_at_call 34; exact calls_below (CF.out _))) | quiet_step ((go_at_call 34; exact calls_below (CF.out _))))
          refine wpQuiet_nil ?_
          rintro wq ⟨⟨_, hq⟩, rfl⟩
          clear c0 c1
          cases r
          · have E := Lib.hid (CN.out (by simp))
            go_wp2
            go_ret
            exact ⟨by rw [E.out]; rfl, bnext HB.out hq⟩
          · have C2 := Lib.hid (CS.out rfl)
            go_wp2
            go_roundw
            case rel => exact ⟨k + 1, by omega, by go_num, C2.out, bnext HB.out hq⟩
            case measure => simp [intOf]; omega
        · obtain rfl : k = d.cs.length := by omega
          have D2 := Lib.hid (fun h => DK.out (fun i hi => CT.out i hi hi) h)
          clear DK CT HS
          obtain ⟨wo, rfl⟩ : ∃ wo : World, wo = wr := ⟨_, rfl⟩
          go_wp2
          go_loopw [4] (fun i wr => ∃ k : Nat, k ≤ 50 ∧ i = .int .i64 k ∧ LoTo d k ∧ Below w.heap.size w wr) (fun i _ => 50 - (intOf i).toNat)
          case atStart => exact ⟨0, Nat.zero_le _, rfl, LoTo.zero _, HB.out⟩
          case round =>
            obtain ⟨k, hk, rfl, hlo, hb⟩ := hrel
            have LO := Lib.hid hlo
            have HB2 := Lib.hid hb
            clear hlo hb
            by_cases hlt : k < 50
            · have CN := Lib.hid (fun (h : ¬ (wh d.cs (lentTo (k : Int))).length ≤ 3) => dk_f (d := d) (fun hd => h (hd.loans k hlt)))
              have CS := Lib.hid (fun h => LO.out.succ h)
              go_wp2_with fail
              refine (l06Loans_any d _ WF.out (k : Int) g wr (HD.out.below HB2.out) (by omega)).mono ?_
              rintro e w1 ⟨v, rfl, ho, h1⟩
              obtain ⟨A3, c3, rfl⟩ := vlen_own1 ho
              have B1 := Lib.hid (bnext HB2.out h1)
              clear ho h1
              generalize (wh d.cs (lentTo (k : Int))).length = m at *
              by_cases hm : m ≤ 3
              · have hm2 : ¬ (3 : Int) < (m : Int) := by omega
                have C2 := Lib.hid (CS.out hm)
                go_wp2
                go_roundw
                case rel => exact ⟨k + 1, by omega, by go_num, C2.out, B1.out⟩
                case measure => simp [intOf]; omega
              · have hm2 : (3 : Int) < (m : Int) := by omega
                have E := Lib.hid (CN.out hm)
                go_wp2
                go_ret
                exact ⟨by rw [E.out]; rfl, B1.out⟩
            · obtain rfl : k = 50 := by omega
              have E := Lib.hid (D2.out LO.out)
              go_wp2
              go_ret
              exact ⟨by rw [E.out]; rfl, HB2.out⟩
    · have e2d : (60 : Int) < (d.cs.length : Int) := by omega
      have E := Lib.hid (dk_f (d := d) (fun h => e2 h.len))
      go_enter Try.func17, Try.ntmps17
      go_wp2_with (go_at_call 19; refine (l00In_any _ _ _ _).mono ?_; rintro e w' ⟨rfl, rfl⟩)
      go_ret
      exact ⟨by rw [E.out]; rfl, Below.refl _ _⟩

end Go.Proofs.Ytmafjncaigllbab
