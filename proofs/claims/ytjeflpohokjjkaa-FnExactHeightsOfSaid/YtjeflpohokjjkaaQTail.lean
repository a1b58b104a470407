/- A region that draws its order, whose operations but the last are quiet in a class of worlds, and whose last one waits for all of them: one walk serves every order. No condition; nothing of the project. -/
import Derived.Test.YtjeflpohokjjkaaQuiet
namespace Go.Proofs.Ytjeflpohokjjkaa
set_option linter.unusedSimpArgs false
set_option linter.unusedVariables false
set_option maxRecDepth 100000
open Go.RowKit

section
variable {P : Program} {md : Region.Mode} {C : World → Prop}
/-- What is asked of the operations ahead of the last one: no guards; each waits only for such as stand ahead of it. -/
def headB (l : List Oper) : Bool := (List.range l.length).all fun i => match l[i]? with
  | none => false
  | some o => o.guard.isNone && o.after.all fun e => decide (e.on < i)
/-- The last one waits for all n of them, and for no other. -/
def lastB (md : Region.Mode) (n : Nat) (t : Oper) : Bool := ((List.range n).all fun j => t.after.any fun e => Region.binds md e && e.on == j) && t.after.all fun e => decide (e.on < n)
theorem headB_at {l : List Oper} (h : headB l = true) {i : Nat} (hi : i < l.length) : (l[i]).guard = none ∧ ∀ e ∈ (l[i]).after, e.on < i := by
  unfold headB at h
  rw [List.all_eq_true] at h
  have h1 := h i (List.mem_range.2 hi)
  rw [List.getElem?_eq_getElem hi] at h1
  simp only [Bool.and_eq_true, Option.isNone_iff_eq_none, Array.all_eq_true_iff_forall_mem, decide_eq_true_eq] at h1
  exact h1
theorem wanted_none {o : Oper} (h : o.guard = none) (y : Nat → Option Bool) : Region.wanted o y = true := by
  unfold Region.wanted
  rw [h]
theorem push_at {l : List Oper} {t : Oper} {i : Nat} (hi : i < l.length) : (l ++ [t]).toArray[i]? = some l[i] := by
  rw [List.getElem?_toArray, List.getElem?_append_left hi, List.getElem?_eq_getElem hi]
theorem push_last (l : List Oper) (t : Oper) : (l ++ [t]).toArray[l.length]? = some t := by
  rw [List.getElem?_toArray, List.getElem?_append_right (Nat.le_refl _), Nat.sub_self]; rfl
theorem qOp_push {l : List Oper} {t : Oper} (hb : headB l = true) {i : Nat} (hi : i < l.length) {K : Act → Prop} {a : Act} (h : qOp P l.toArray C i K a) : qOp P (l ++ [t]).toArray C i K a := by
  unfold qOp at *
  rw [push_at hi]
  have e : l.toArray[i]? = some l[i] := by rw [List.getElem?_toArray, List.getElem?_eq_getElem hi]
  rw [e] at h
  have g := (headB_at hb hi).1
  simp only [wanted_none g, if_true] at h ⊢
  exact h
/-- Some of the first n have not come up. -/
theorem ready_some {l : List Oper} (hb : headB l = true) {listed : Array Bool} (hs : listed.size = l.length) : ∀ (k : Nat), k ≤ l.length → (∃ j, j < k ∧ listed.getD j true = false) → ∃ i, i ∈ Region.ready md l.toArray listed
  | 0, _, ⟨j, h, _⟩ => absurd h (Nat.not_lt_zero _)
  | k + 1, hk, ⟨j, hj, hl⟩ => by
    by_cases c : ∃ j, j < k ∧ listed.getD j true = false
    · exact ready_some hb hs k (by omega) c
    · have ek : j = k := by
        by_cases d : j = k
        · exact d
        · exact absurd ⟨j, by omega, hl⟩ c
      subst ek
      have hi : j < l.length := by omega
      refine ⟨j, mem_ready.2 ⟨hl, l[j], by rw [List.getElem?_toArray, List.getElem?_eq_getElem hi], fun e he _ => ?_⟩⟩
      have h1 := (headB_at hb hi).2 e he
      by_cases d : listed.getD e.on true = false
      · exact absurd ⟨e.on, h1, d⟩ c
      · have h2 : e.on < listed.size := by omega
        simp only [Array.getD_eq_getD_getElem?, Array.getElem?_eq_getElem h2, Option.getD_some] at d ⊢
        simpa using d
theorem getD_push {listed : Array Bool} {b d : Bool} {j : Nat} (h : j < listed.size) : (listed.push b).getD j d = listed.getD j d := by
  simp only [Array.getD_eq_getD_getElem?, Array.getElem?_push, if_neg (Nat.ne_of_lt h)]
theorem getD_push_last {listed : Array Bool} {b d : Bool} : (listed.push b).getD listed.size d = b := by
  simp [Array.getD_eq_getD_getElem?]
theorem wpAny_of_quiet_last {Q : Exit → Act → World → Prop} {Qh : Act → Prop} {l : List Oper} {t : Oper} (hb : headB l = true) (ht : lastB md l.length t = true)
    (hQ : ∀ a w, C w → Qh a → wpOp P (l ++ [t]).toArray Q l.length (fun a w => Q .normal a w) a w) :
    ∀ (fuel : Nat) (listed : Array Bool) (a : Act) (w : World), listed.size = l.length → C w → wpAnyQ P md l.toArray C Qh fuel listed a → wpAny P md (l ++ [t]).toArray Q (fuel + 1) (listed.push false) a w := by
  simp only [lastB, Bool.and_eq_true, List.all_eq_true, List.mem_range, Array.all_eq_true_iff_forall_mem, beq_iff_eq, decide_eq_true_eq] at ht
  obtain ⟨ht1, ht2⟩ := ht
  -- the ready ones among the first are ready in the whole
  have back : ∀ (listed : Array Bool), listed.size = l.length → ∀ i, i < l.length → i ∈ Region.ready md (l ++ [t]).toArray (listed.push false) → i ∈ Region.ready md l.toArray listed := by
    intro listed hs i hi h
    obtain ⟨h1, o, h2, h3⟩ := mem_ready.1 h
    rw [push_at hi] at h2
    obtain rfl : l[i] = o := Option.some.inj h2
    rw [getD_push (by omega)] at h1
    refine mem_ready.2 ⟨h1, l[i], by rw [List.getElem?_toArray, List.getElem?_eq_getElem hi], fun e he hbd => ?_⟩
    have h4 := h3 e he hbd
    have h5 := (headB_at hb hi).2 e he
    rwa [getD_push (by omega)] at h4
  have lt : ∀ (x : Array Bool) i, i ∈ Region.ready md (l ++ [t]).toArray x → i < l.length + 1 := by
    intro x i h
    obtain ⟨_, o, h2, _⟩ := mem_ready.1 h
    have := (List.getElem?_eq_some_iff.1 (by rwa [List.getElem?_toArray] at h2)).1
    simpa using this
  have all : ∀ (listed : Array Bool), listed.size = l.length → Region.ready md l.toArray listed = [] → ∀ j, j < l.length → listed.getD j false = true := by
    intro listed hs h0 j hj
    by_cases c : ∃ j, j < l.length ∧ listed.getD j true = false
    · obtain ⟨i, hi⟩ := ready_some (md := md) hb hs l.length (Nat.le_refl _) c
      rw [h0] at hi; cases hi
    · have h2 : j < listed.size := by omega
      by_cases d : listed.getD j true = false
      · exact absurd ⟨j, hj, d⟩ c
      · simp only [Array.getD_eq_getD_getElem?, Array.getElem?_eq_getElem h2, Option.getD_some] at d ⊢
        simpa using d
  -- behind the last one nothing is left
  have done : ∀ (fuel : Nat) (listed : Array Bool) (a : Act) (w : World), listed.size = l.length → (∀ j, j < l.length → listed.getD j false = true) → Q .normal a w → wpAny P md (l ++ [t]).toArray Q fuel ((listed.push false).setIfInBounds l.length true) a w := by
    intro fuel listed a w hs h1 h
    have h0 : Region.ready md (l ++ [t]).toArray ((listed.push false).setIfInBounds l.length true) = [] := by
      rw [List.eq_nil_iff_forall_not_mem]
      intro i hi
      have hi1 := lt _ i hi
      obtain ⟨h2, _⟩ := mem_ready.1 hi
      by_cases c : i = l.length
      · subst c
        rw [← hs] at h2
        simp [Array.getD_eq_getD_getElem?] at h2
      · rw [getD_set_ne true (Ne.symm c), getD_push (by omega)] at h2
        have h3 := h1 i (by omega)
        have h4 : i < listed.size := by omega
        simp only [Array.getD_eq_getD_getElem?, Array.getElem?_eq_getElem h4, Option.getD_some] at h2 h3
        rw [h2] at h3; cases h3
    cases fuel with
    | zero => exact ⟨h0, h⟩
    | succ f => exact ⟨fun _ => h, fun i hi => by rw [h0] at hi; cases hi⟩
  have last : ∀ (fuel : Nat) (listed : Array Bool) (a : Act) (w : World), listed.size = l.length → C w → Region.ready md l.toArray listed = [] → Qh a → wpAny P md (l ++ [t]).toArray Q (fuel + 1) (listed.push false) a w := by
    intro fuel listed a w hs hw h0 h
    have h1 := all listed hs h0
    have hn : l.length ∈ Region.ready md (l ++ [t]).toArray (listed.push false) := by
      refine mem_ready.2 ⟨by rw [← hs]; exact getD_push_last, t, push_last l t, fun e he _ => ?_⟩
      rw [getD_push (by have := ht2 e he; omega)]
      exact h1 _ (ht2 e he)
    refine ⟨fun h2 => (by rw [h2] at hn; cases hn), fun i hi => ?_⟩
    by_cases c : i = l.length
    · subst c
      exact wpOp_mono (fun a' w' h' => done fuel listed a' w' hs h1 h') (hQ a w hw h)
    · have := back listed hs i (by have := lt _ i hi; omega) hi
      rw [h0] at this; cases this
  intro fuel
  induction fuel with
  | zero =>
    intro listed a w hs hw h
    exact last 0 listed a w hs hw h.1 h.2
  | succ fuel ih =>
    intro listed a w hs hw h
    by_cases h0 : Region.ready md l.toArray listed = []
    · exact last (fuel + 1) listed a w hs hw h0 (h.1 h0)
    · obtain ⟨i0, hi0⟩ := List.exists_mem_of_ne_nil _ h0
      have hnot : ∀ i, i ∈ Region.ready md (l ++ [t]).toArray (listed.push false) → i < l.length := by
        intro i hi
        have h1 := lt _ i hi
        by_cases c : i = l.length
        · subst c
          exfalso
          obtain ⟨_, o, h2, h3⟩ := mem_ready.1 hi
          rw [push_last] at h2
          obtain rfl := Option.some.inj h2
          obtain ⟨g1, _, g2, _⟩ := mem_ready.1 hi0
          have g3 : i0 < l.length := (List.getElem?_eq_some_iff.1 (by rwa [List.getElem?_toArray] at g2)).1
          obtain ⟨e, he, hp⟩ := Array.any_eq_true'.1 (ht1 i0 g3)
          simp only [Bool.and_eq_true, beq_iff_eq] at hp
          obtain ⟨hbd, hon⟩ := hp
          have h4 := h3 e he hbd
          rw [hon, getD_push (by omega)] at h4
          have h5 : i0 < listed.size := by omega
          simp only [Array.getD_eq_getD_getElem?, Array.getElem?_eq_getElem h5, Option.getD_some] at g1 h4
          rw [g1] at h4; cases h4
        · omega
      have hr : i0 ∈ Region.ready md (l ++ [t]).toArray (listed.push false) := by
        obtain ⟨g1, o, g2, g4⟩ := mem_ready.1 hi0
        have g3 : i0 < l.length := (List.getElem?_eq_some_iff.1 (by rwa [List.getElem?_toArray] at g2)).1
        rw [List.getElem?_toArray, List.getElem?_eq_getElem g3] at g2
        refine mem_ready.2 ⟨by rw [getD_push (by omega)]; exact g1, l[i0], push_at g3, fun e he hbd => ?_⟩
        obtain rfl : l[i0] = o := Option.some.inj g2
        rw [getD_push (by have := (headB_at hb g3).2 e he; omega)]
        exact g4 e he hbd
      refine ⟨fun h2 => (by rw [h2] at hr; cases hr), fun i hi => ?_⟩
      have hil := hnot i hi
      refine wpOp_of_qOp hw (fun a' w' hw' h' => ?_) (qOp_push hb hil (h.2 i (back listed hs i hil hi)))
      have e : (listed.push false).setIfInBounds i true = (listed.setIfInBounds i true).push false := by
        apply Array.ext'
        simp [List.set_append, hs, hil]
      rw [e]
      exact ih _ a' w' (by simpa using hs) hw' h'
theorem wpQuiet_imp {ops : Array Oper} {Q Q' : Act → Prop} (hq : ∀ a, Q a → Q' a) : ∀ {l : List Oper} {a : Act}, wpQuiet P ops C Q l a → wpQuiet P ops C Q' l a
  | [], _, h => hq _ h
  | o :: r, a, h => by
    unfold wpQuiet at *
    split
    · rename_i hw
      simp only [hw, if_true] at h
      exact Oper.quiet_mono (fun a' h' => wpQuiet_imp hq h') h
    · rename_i hw
      simp only [hw] at h
      exact wpQuiet_imp hq h
/-- THE LAW. -/
theorem wp_region_quiet_last {id : Nat} {Q : Exit → Act → World → Prop} {a : Act} {w : World} {l : List Oper} {t : Oper} (hm : P.follows .mixedOrders = true) (hB : Region.lexB .any l.toArray = true) (hb : headB l = true) (ht : lastB .any l.length t = true) (hC : C w.drew)
    (h : wpQuiet P l.toArray C (fun a' => ∀ w', C w' → wpOp P (l ++ [t]).toArray Q l.length (fun a w => Q .normal a w) a' w') l a) : (Code.region id (l ++ [t]).toArray true).wp P Q a w := by
  simp only [Region.lexB, Bool.and_eq_true] at hB
  refine wp_region_any hm ?_
  have h1 := wpAnyQ_lex (C := C) (md := .any) hB.1 l 0 (Array.replicate l.length false) a (by simp) (by simpa using hB.2) h
  have h2 := wpAny_of_quiet_last (md := .any) (Q := Q) hb ht (fun a w hw hq => hq w hw) l.length (Array.replicate l.length false) a w.drew (by simp) hC h1
  have e : Array.replicate (l ++ [t]).toArray.size false = (Array.replicate l.length false).push false := by
    simp [Array.replicate_succ]
  rw [e]
  have e2 : (l ++ [t]).toArray.size = l.length + 1 := by simp
  rw [e2]
  exact h2
/-- The law at a region that is written out: n operations, then the last one. -/
theorem wp_region_last {id : Nat} {Q : Exit → Act → World → Prop} {a : Act} {w : World} {L : List Oper} {t : Oper} (n : Nat) (hs : L.take n ++ [t] = L) (hn : (L.take n).length = n) (hm : P.follows .mixedOrders = true) (hB : Region.lexB .any (L.take n).toArray = true) (hb : headB (L.take n) = true) (ht : lastB .any n t = true)
    (h : wpQuiet P (L.take n).toArray (fun w' => ∃ p : BelowBy w, w' = p.W) (fun a' => ∀ w', (∃ p : BelowBy w, w' = p.W) → ∀ K : Act → World → Prop, (∀ a w, Q .normal a w → K a w) → if Region.wanted t (yielded L.toArray a'.tmps) = true then Oper.wp P t a' w' K Q else K (a'.put t.dst undef) w') (L.take n) a) : (Code.region id L.toArray true).wp P Q a w := by
  have e : (L.take n ++ [t]).toArray[n]? = some t := by have := push_last (L.take n) t; rwa [hn] at this
  have h1 := wp_region_quiet_last (C := fun w' => ∃ p : BelowBy w, w' = p.W) (id := id) (Q := Q) (a := a) (w := w) (l := L.take n) (t := t) hm hB hb (by rw [hn]; exact ht) ⟨⟨w.drew, (Below.refl _ _).drew⟩, rfl⟩ (by
    rw [hn]
    have he : ∀ a' : Act, (∀ w', (∃ p : BelowBy w, w' = p.W) → ∀ K : Act → World → Prop, (∀ a w, Q .normal a w → K a w) → if Region.wanted t (yielded L.toArray a'.tmps) = true then Oper.wp P t a' w' K Q else K (a'.put t.dst undef) w') → ∀ w', (∃ p : BelowBy w, w' = p.W) → wpOp P (L.take n ++ [t]).toArray Q n (fun a w => Q .normal a w) a' w' := by
      intro a' h w' hw'
      exact wpOp_step e (fun K hK => by rw [hs]; exact h w' hw' K hK)
    exact wpQuiet_imp he h)
  rwa [hs] at h1
end
end Go.Proofs.Ytjeflpohokjjkaa
