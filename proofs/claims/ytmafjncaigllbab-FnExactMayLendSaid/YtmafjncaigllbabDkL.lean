/- MayLend: whether a person may borrow a copy; by the model: contracts. Condition: no longer than slices can be, numbers within their kinds. -/
import Derived.Test.YtmafjncaigllbabDkQ
import Derived.Deep.Quiet
namespace Go.Proofs.Ytmafjncaigllbab
set_option linter.unusedSimpArgs false
set_option linter.unusedVariables false
set_option maxRecDepth 100000
open Go.RowKit

def ovAt (day : Int) (cs : List Cp) (x : Int) : Bool := overB day (cs.getD x.toNat cp0)
theorem ovAt_nat {day : Int} {cs : List Cp} {j : Nat} (h : j < cs.length) : ovAt day cs (j : Int) = overB day cs[j] := by
  unfold ovAt
  simp [List.getD, List.getElem?_eq_getElem h]
def ovAny (day : Int) (cs : List Cp) (l : List Int) : Bool := l.any (ovAt day cs)
theorem ovAny_snoc (day : Int) (cs : List Cp) (l : List Int) (x : Int) : ovAny day cs (l ++ [x]) = (ovAny day cs l || ovAt day cs x) := by simp [ovAny]
theorem ovAny_take {day : Int} {cs : List Cp} {l : List Int} {k : Nat} (hk : k < l.length) : ovAny day cs (l.take (k + 1)) = (ovAny day cs (l.take k) || ovAt day cs l[k]) := by
  rw [List.take_succ_eq_append_getElem hk, ovAny_snoc]
theorem ovAny_yes {day : Int} {cs : List Cp} {l : List Int} {k : Nat} (hk : k < l.length) (h : ovAt day cs l[k] = true) : ovAny day cs l = true := by
  unfold ovAny
  rw [List.any_eq_true]
  exact ⟨_, List.getElem_mem hk, h⟩
def headB (who : Int) (c : Cp) : Bool := decide (c.st = 0) || heldFor who c
noncomputable def lendsB (d : Dk) (who : Int) (c : Cp) : Bool := headB who c && (!ovAny d.day d.cs (wh d.cs (lentTo who)) && decide ((wh d.cs (lentTo who)).length < 3))
noncomputable def mayB (d : Dk) (who book : Int) : Bool := if askC d who book = 0 then lendsB d who (askP d who book) else false

set_option maxHeartbeats 8000000 in
theorem l06Lends_any (d : Dk) (hv : Value) (wf : d.Wf ∧ ∀ c ∈ d.cs, c.q.length ≤ maxLen) (who : Int) (n : Nat) (hlt : n < d.cs.length) (g : Nat) (w : World) (hd : DkAt w g d hv) (h60 : d.cs.length ≤ 60) :
    Calls Try.prog 11 #[.pointer (some ⟨g, 0, none⟩), .int .i64 who, .int .i64 (n : Int)] w fun e w' => e = .returned (.bool (lendsB d who d.cs[n])) ∧ Below w.heap.size w w' := by
  have HD := Lib.hid hd
  have LO := Lib.hid (l06Loans_any d hv wf.1 who g w hd (by omega))
  obtain ⟨b0, b1, hg, hs⟩ := hd
  obtain ⟨A, c, rfl, -⟩ := id hs
  obtain ⟨ga, oa, rfl, hga, p0, p1, -, -, -⟩ := hs.in0 hlt
  obtain ⟨t1, t2⟩ := (wf.1.cs _ (List.getElem_mem hlt)).who
  have WF := Lib.hid wf
  obtain ⟨y1, y2⟩ := wf.1.day
  clear hs wf
  have HH : (headB who d.cs[n] = false ∧ (d.cs[n].st != 0) = true ∧ ((d.cs[n].st != 2) = true ∨ (d.cs[n].st != 2) = false ∧ (d.cs[n].who != who) = true)) ∨ (headB who d.cs[n] = true ∧ ((d.cs[n].st != 0) = false ∨ (d.cs[n].st != 0) = true ∧ (d.cs[n].st != 2) = false ∧ (d.cs[n].who != who) = false)) := by
    unfold headB heldFor
    by_cases h0 : d.cs[n].st = 0
    · exact .inr ⟨by simp [h0], .inl (by simp [h0])⟩
    · by_cases h2 : d.cs[n].st = 2
      · by_cases h3 : d.cs[n].who = who
        · exact .inr ⟨by simp [h2, h3], .inr ⟨by simp [h2], by simp [h2], by simp [h3]⟩⟩
        · exact .inl ⟨by simp [h2, h3], by simp [h2], .inr ⟨by simp [h2], by simpa using h3⟩⟩
      · exact .inl ⟨by simp [h0, h2], by simpa using h0, .inl (by simpa using h2)⟩
  have EL := Lib.hid (show lendsB d who d.cs[n] = (headB who d.cs[n] && (!ovAny d.day d.cs (wh d.cs (lentTo who)) && decide ((wh d.cs (lentTo who)).length < 3))) from rfl)
  have WM := Lib.hid (fun (x : Int) (hx : x ∈ wh d.cs (lentTo who)) => (whTo_mem d.cs.length x hx).2.2)
  have WL := Lib.hid (wh_len d.cs (lentTo who))
  generalize lendsB d who d.cs[n] = res at EL ⊢
  generalize headB who d.cs[n] = hh at HH EL
  generalize d.cs[n].st = st at *
  generalize d.cs[n].who = wo at *
  rcases HH with ⟨rfl, c0, hc⟩ | ⟨rfl, hc⟩
  · have E := Lib.hid (show res = false by rw [EL.out]; rfl)
    rcases hc with c2 | ⟨c2, c3⟩ <;>
    · go_enter Try.func11, Try.ntmps11
      go_wp2
      go_ret
      exact ⟨by rw [E.out]; rfl, Below.refl _ _⟩
  · have E := Lib.hid (show res = (!ovAny d.day d.cs (wh d.cs (lentTo who)) && decide ((wh d.cs (lentTo who)).length < 3)) by rw [EL.out]; rfl)
    clear EL
    generalize wh d.cs (lentTo who) = L at *
    have lb : L.length ≤ 60 := by have := WL.out; omega
    rcases hc with c0 | ⟨c0, c2, c3⟩ <;>
    · go_enter Try.func11, Try.ntmps11
      go_wp2_with fail
      refine LO.out.mono ?_
      rintro e w1 ⟨v, rfl, ho, g1⟩
      have HO := Lib.hid (ownInts ho)
      obtain ⟨A3, c3', rfl⟩ := vlen_own1 ho
      have G1 := Lib.hid g1
      have HD1 := Lib.hid (HD.out.below g1)
      clear ho g1 b0 b1 p0 p1
      go_wp2
      go_loopw [9] (fun i_ wr => ∃ i : Nat, i ≤ L.length ∧ i_ = .int .i64 (i : Int) ∧ ovAny d.day d.cs (L.take i) = false ∧ Below w1.heap.size w1 wr) (fun i_ _ => L.length - (intOf i_).toNat)
      case atStart => exact ⟨0, Nat.zero_le _, rfl, rfl, Below.refl _ _⟩
      case round =>
        obtain ⟨i, hi, rfl, hno, hb⟩ := hrel
        have NO := Lib.hid hno
        have HB := Lib.hid hb
        obtain ⟨b0, b1, hg2, hs⟩ := HD1.out.below hb
        obtain ⟨A4, c4, e4, hat⟩ := HO.out.below hb
        cases e4
        clear hno hb
        by_cases hlt2 : i < L.length
        · obtain ⟨gl, ol, rfl, hgl, hcl⟩ := hat (by omega)
          have r0 := hcl i hlt2
          obtain ⟨j, hj, je, -⟩ := WM.out _ (List.getElem_mem hlt2)
          have OT := Lib.hid (ovAny_take (day := d.day) (cs := d.cs) hlt2)
          have OY := Lib.hid (fun h => ovAny_yes (day := d.day) (cs := d.cs) hlt2 h)
          rw [je, ovAt_nat hj] at OY
          rw [je, ovAt_nat hj, NO.out] at OT
          rw [je] at r0
          clear je hat hcl
          obtain ⟨ga2, oa2, e5, hga2, hin⟩ := hs.in0 hj
          cases e5
          have HI := Lib.hid hin
          have CF := Lib.hid (fun (p : BelowBy wr) => l06Overdue_any d.cs[j] d.day ga (oa + j * 5) p.W (HI.out.below p.h hga2))
          generalize overB d.day d.cs[j] = r at CF OT OY
          have b0 := belowBy_cell hg2 b0
          have b1 := belowBy_cell hg2 b1
          have r0 := belowBy_cell hgl r0
          clear hin hs
          go_wp2
          refine wp_region_below (by kernel_rfl) (by kernel_rfl) ?_
          iterate 14 (first | go_big_quiet_step ((go_at_call 21; with_reducible exact calls_same_below (CF.out _))) | quiet_step ((go_at_call 21; with_reducible exact calls_same_below (CF.out _))))
          refine wpQuiet_nil ?_
          rintro wq ⟨⟨_, hq⟩, rfl⟩
          clear b0 b1 r0
          have HBQ := Lib.hid (bnext HB.out hq)
          cases r
          · have O2 := Lib.hid (OT.out.trans rfl)
            go_wp2
            go_roundw
            case rel => exact ⟨i + 1, by omega, by go_num, O2.out, HBQ.out⟩
            case measure => simp [intOf]; omega
          · have O2 := Lib.hid (OY.out rfl)
            go_wp2
            go_ret
            exact ⟨by rw [E.out, O2.out]; rfl, bnext G1.out HBQ.out⟩
        · obtain rfl : i = L.length := by omega
          have O2 := Lib.hid (show ovAny d.day d.cs L = false by have := NO.out; rwa [List.take_length] at this)
          by_cases h3 : L.length < 3
          · have h3' : (L.length : Int) < 3 := by omega
            go_wp2
            go_ret
            exact ⟨by rw [E.out, O2.out, decide_eq_true h3]; rfl, bnext G1.out HB.out⟩
          · have h3' : ¬ (L.length : Int) < 3 := by omega
            go_wp2
            go_ret
            exact ⟨by rw [E.out, O2.out, decide_eq_false h3]; rfl, bnext G1.out HB.out⟩

set_option maxHeartbeats 4000000 in
theorem specMayLend_any (d : Dk) (hv : Value) (wf : d.Wf ∧ ∀ c ∈ d.cs, c.q.length ≤ maxLen) (who book : Int) (w : World) (hs : CpsOf w hv d.cs) (hn : d.cs.length ≤ maxLen) :
    Calls Try.prog 5 #[.agg #[.int .i16 d.day, hv], .int .i64 who, .int .i64 book] w fun e w' => e = .returned (.tuple #[.bool (mayB d who book), .int .i64 (askC d who book)]) ∧ Below w.heap.size w w' := by
  have HD := Lib.hid (DkAt.new (t := 31) hs)
  have WF := Lib.hid wf
  have AK := Lib.hid (fun W (h : DkAt W w.heap.size d hv) => l06Asked_any d hv wf who book w.heap.size W h hn)
  have LE := Lib.hid (fun (n : Nat) (hlt : n < d.cs.length) (h : d.cs.length ≤ 60) W (hd : DkAt W w.heap.size d hv) => l06Lends_any d hv wf who n hlt w.heap.size W hd h)
  obtain ⟨A, c, rfl, -⟩ := hs
  have G0 := Lib.hid (show Below w.heap.size w (w.alloc (.cells #[.int .i16 d.day, .slice A d.cs.length c] 31)) from (Below.refl _ _).alloc (Nat.le_refl _) _)
  clear wf
  rcases ask_cases2 d who book with ⟨h1, -⟩ | ⟨h0, -, -, h1, n, hlt, rfl, h2⟩
  · rw [show mayB d who book = false from if_neg h1]
    generalize askC d who book = k at h1 AK ⊢
    have hk : (k != 0) = true := by simpa using h1
    clear h1
    go_enter Try.func5, Try.ntmps5
    go_wp2_with fail
    generalize World.alloc w _ = W at HD G0 ⊢
    refine (AK.out _ HD.out).mono ?_
    rintro e w1 ⟨rfl, g1⟩
    have G1 := Lib.hid (bnext G0.out g1)
    go_wp2
    go_ret2
    exact ⟨rfl, G1.out⟩
  · rw [show mayB d who (n : Int) = lendsB d who d.cs[n] by unfold mayB; rw [if_pos h1, h2]]
    rw [h1] at AK ⊢
    have h60 := dk_60 h0
    have L2 := Lib.hid (LE.out n hlt h60)
    clear h0 h1 h2 LE
    generalize lendsB d who d.cs[n] = r at L2 ⊢
    go_enter Try.func5, Try.ntmps5
    go_wp2_with fail
    generalize World.alloc w _ = W at HD G0 ⊢
    refine (AK.out _ HD.out).mono ?_
    rintro e w1 ⟨rfl, g1⟩
    have G1 := Lib.hid (bnext G0.out g1)
    have HD1 := Lib.hid (HD.out.below g1)
    clear g1
    go_wp2_with fail
    refine (L2.out _ HD1.out).mono ?_
    rintro e w2 ⟨rfl, g2⟩
    have G2 := Lib.hid (bnext G1.out g2)
    clear g2
    go_wp2
    go_ret2
    exact ⟨rfl, G2.out⟩
end Go.Proofs.Ytmafjncaigllbab
