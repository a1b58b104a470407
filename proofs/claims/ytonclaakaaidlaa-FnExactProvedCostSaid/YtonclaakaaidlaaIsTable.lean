/- Whether a table is of the right form, by the program: contracts. Condition: a valid case and list, a table no longer than slices can be. -/
import Derived.Test.YtonclaakaaidlaaProof
namespace Go.Proofs.Ytonclaakaaidlaa
set_option linter.unusedSimpArgs false
set_option linter.unusedVariables false
set_option maxRecDepth 100000
open Go.RowKit

def minTo (zs : List Int) : Nat → Int
  | 0 => zs.getD 0 0
  | k + 1 => if zs.getD k 0 < minTo zs k then zs.getD k 0 else minTo zs k
theorem minTo_le (zs : List Int) : ∀ k i, i < k → minTo zs k ≤ zs.getD i 0
  | k + 1, i, h => by
    rw [minTo]
    by_cases e : i = k
    · subst e; split <;> omega
    · have := minTo_le zs k i (by omega)
      split <;> omega
theorem minTo_some (zs : List Int) : ∀ k, ∃ i, (i < k ∨ i = 0) ∧ minTo zs k = zs.getD i 0
  | 0 => ⟨0, .inr rfl, rfl⟩
  | k + 1 => by
    rw [minTo]
    split
    · exact ⟨k, .inl (by omega), rfl⟩
    · obtain ⟨i, h1, h2⟩ := minTo_some zs k
      exact ⟨i, by omega, h2⟩

set_option maxHeartbeats 1000000 in
theorem min64_any (g o n c : Nat) (zs : List Int) (w : World) (hn : zs.length = n) (h0 : 0 < n) (hm : n ≤ 100) (hz : ∀ i, i < n → w.cell? ⟨g, o + i, none⟩ = some (.int .i64 (zs.getD i 0))) :
    Calls Try.prog 134 #[.slice (some ⟨g, o, none⟩) n c] w fun e w' => e = .returned (.int .i64 (minTo zs n)) ∧ w = w' := by
  have HZ := Lib.hid hz
  have p0 := hz 0 h0
  have hne : ¬ ((n : Int) < 1) := by omega
  have E1 := Lib.hid (show minTo zs 1 = zs.getD 0 0 by rw [minTo, minTo]; split <;> rfl)
  rw [Nat.add_zero] at p0
  generalize zs.getD 0 0 = z0 at p0 E1
  clear hz hn
  go_enter Try.func134, Try.ntmps134
  go_wp2
  clear p0
  go_loopw [3, 4] (fun m_ i_ wr => ∃ k : Nat, k ≤ n ∧ 0 < k ∧ m_ = .int .i64 (minTo zs k) ∧ i_ = .int .i64 (k : Int) ∧ wr = w) (fun _ i_ _ => n - (intOf i_).toNat)
  case atStart => exact ⟨1, h0, by omega, by rw [E1.out], rfl, rfl⟩
  case round =>
    obtain ⟨k, hk, hk0, rfl, rfl, rfl⟩ := hrel
    by_cases hlt : k < n
    · have p0 := HZ.out k hlt
      have ES := Lib.hid (show minTo zs (k + 1) = if zs.getD k 0 < minTo zs k then zs.getD k 0 else minTo zs k from rfl)
      generalize zs.getD k 0 = z at p0 ES
      generalize minTo zs k = q at ES ⊢
      by_cases hq : z < q
      · have q1 : z ≤ q := by omega
        have q2 : ¬ q < z := by omega
        have q3 : ¬ q ≤ z := by omega
        have E := Lib.hid (show minTo zs (k + 1) = z by rw [ES.out, if_pos hq])
        go_wp2
        go_roundw
        case rel => exact ⟨k + 1, by omega, by omega, by rw [E.out], by go_num, by first | rfl | trivial⟩
        case measure => simp [intOf]; omega
      · have q1 : q ≤ z := by omega
        have E := Lib.hid (show minTo zs (k + 1) = q by rw [ES.out, if_neg hq])
        go_wp2
        go_roundw
        case rel => exact ⟨k + 1, by omega, by omega, by rw [E.out], by go_num, by first | rfl | trivial⟩
        case measure => simp [intOf]; omega
    · obtain rfl : k = n := by omega
      go_wp2
      go_ret
      exact ⟨rfl, rfl⟩

set_option maxHeartbeats 400000 in
theorem behindAll_any (A : Option Addr) (n m i : Nat) (w : World) (hn : n ≤ 60) (hi : i ≤ 60) :
    Calls Try.prog 110 #[.slice A n m, .int .i64 (i : Int)] w fun e w' => e = .returned (.int .i64 (endI n i)) ∧ w = w' := by
  by_cases h : i = n
  · have d : ((i : Int) == (n : Int)) = true := by rw [beq_iff_eq]; omega
    have E := Lib.hid (show endI n i = 0 by unfold endI; rw [if_pos h])
    clear h
    go_enter Try.func110, Try.ntmps110
    go_wp2
    go_ret
    exact ⟨by rw [E.out]; rfl, rfl⟩
  · have d : ((i : Int) == (n : Int)) = false := by rw [beq_eq_false_iff_ne]; omega
    have E := Lib.hid (show endI n i = -1 by unfold endI; rw [if_neg h])
    clear h
    go_enter Try.func110, Try.ntmps110
    go_wp2
    go_ret
    exact ⟨by rw [E.out]; rfl, rfl⟩

/-- The right form. -/
structure FormP (c : Cs) (xs : List Bk) (t : List (List Int)) : Prop where
  len : t.length = c.hs.length + 1
  rows : ∀ s, s < c.hs.length + 1 → (t.getD s []).length = xs.length + 1
  last : ∀ i, i < xs.length + 1 → tv t c.hs.length i = endI xs.length i
  least : ∀ s, s < c.hs.length + 1 → ∀ i, i < xs.length + 1 → -1 ≤ tv t s i
noncomputable def formB (c : Cs) (xs : List Bk) (t : List (List Int)) : Bool := @decide (FormP c xs t) (Classical.propDecidable _)
theorem formB_yes {c : Cs} {xs : List Bk} {t : List (List Int)} (h : FormP c xs t) : formB c xs t = true := by unfold formB; exact @decide_eq_true _ (Classical.propDecidable _) h
theorem formB_no {c : Cs} {xs : List Bk} {t : List (List Int)} (h : ¬ FormP c xs t) : formB c xs t = false := by unfold formB; exact @decide_eq_false _ (Classical.propDecidable _) h
theorem formB_out {c : Cs} {xs : List Bk} {t : List (List Int)} (h : formB c xs t = true) : FormP c xs t := by unfold formB at h; exact @of_decide_eq_true _ (Classical.propDecidable _) h
theorem formB_not {c : Cs} {xs : List Bk} {t : List (List Int)} (h : formB c xs t = false) : ¬ FormP c xs t := by unfold formB at h; exact @of_decide_eq_false _ (Classical.propDecidable _) h
theorem endI_least (n i : Nat) : -1 ≤ endI n i := by unfold endI; split <;> omega
theorem ProofP.form {c : Cs} {xs : List Bk} {t : List (List Int)} (h : ProofP c xs t) : FormP c xs t :=
  ⟨h.len, h.rows, h.last, fun s hs i hi => by
    by_cases e : s = c.hs.length
    · subst e; rw [h.last i hi]; exact endI_least _ _
    · exact (h.cells s (by omega) i hi).1⟩

set_option maxHeartbeats 8000000 in
theorem isTable_any (c : Cs) (hv : Value) (A : Option Addr) (m : Nat) (v : Value) (xs : List Bk) (t : List (List Int)) (w : World) (sc : IntsOf .i16 w hv c.hs) (h1 : caseB c = true) (h2 : okB xs = true) (ht : TabOf w v t) (mt : t.length ≤ maxLen) :
    Calls Try.prog 116 #[.agg #[.int .i16 c.wi, .int .i32 c.lo, hv], .slice A xs.length m, v] w fun e w' => e = .returned (.bool (formB c xs t)) ∧ Below w.heap.size w w' := by
  obtain ⟨cl1, cl2⟩ := caseB_lens h1
  have h60 := okB_len h2
  have HC := Lib.hid (CaseAt.new (t := 53) sc)
  have G0 := Lib.hid (show Below w.heap.size w (w.alloc (.cells #[.int .i16 c.wi, .int .i32 c.lo, hv] 53)) by go_grown)
  have HT := Lib.hid ht
  obtain ⟨T, cT, rfl, -⟩ := ht
  obtain ⟨H, qh, rfl, -⟩ := sc
  unfold maxLen at mt
  clear h1 h2
  by_cases e : t.length = c.hs.length + 1
  · obtain ⟨g0, o0, rfl, hg0⟩ := HT.out.some_ (by omega)
    have EL := Lib.hid e
    rw [e] at HT ⊢
    have d0 : ((((c.hs.length + 1 : Nat) : Int)) != (c.hs.length : Int) + 1) = false := by simp
    clear e mt
    go_enter Try.func116, Try.ntmps116
    go_wp2
    clear d0
    generalize World.alloc _ _ = W0 at HC G0 ⊢
    go_loopw [20] (fun s_ wr => ∃ j : Nat, j ≤ c.hs.length + 1 ∧ s_ = .int .i64 (j : Int) ∧ (∀ s, s < j → (t.getD s []).length = xs.length + 1) ∧ (∀ s, s < j → ∀ i, i < xs.length + 1 → -1 ≤ tv t s i) ∧ wr = W0) (fun s_ _ => c.hs.length + 1 - (intOf s_).toNat)
    case atStart => exact ⟨0, by omega, rfl, fun _ h => absurd h (Nat.not_lt_zero _), fun _ h => absurd h (Nat.not_lt_zero _), rfl⟩
    case round =>
      obtain ⟨j, hj, rfl, hrows, hleast, rfl⟩ := hrel
      have HR := Lib.hid hrows
      have HLE := Lib.hid hleast
      clear hrows hleast
      by_cases hlt : j < c.hs.length + 1
      · have hlt' : (j : Int) < (((c.hs.length + 1 : Nat) : Int)) := by omega
        obtain ⟨As, cs, p0, hp⟩ := HT.out.row G0.out (s := j) (by have := EL.out; omega)
        have HP := Lib.hid hp
        clear hp
        by_cases hq : (t.getD j []).length = xs.length + 1
        · rw [hq] at HP p0
          obtain ⟨gs, os, rfl, hgs, -⟩ := HP.out 0 (by omega)
          have PI : Hid (∀ i, i < xs.length + 1 → wr.cell? ⟨gs, os + i, none⟩ = some (.int .i64 ((t.getD j []).getD i 0))) := Lib.hid (fun i hi => by
            obtain ⟨gs', os', e, -, h4⟩ := HP.out i hi
            injection e with e
            injection e with e1 e2 e3
            subst e1 e2
            exact h4)
          have HQ := Lib.hid hq
          have d1 : (((xs.length + 1 : Nat) : Int) != (xs.length : Int) + 1) = false := by simp
          have CM := Lib.hid (min64_any gs os (xs.length + 1) cs (t.getD j []) wr hq (by omega) (by omega) PI.out)
          have ML := Lib.hid (fun i (hi : i < xs.length + 1) => show minTo (t.getD j []) (xs.length + 1) ≤ tv t j i from minTo_le _ _ i hi)
          have MS := Lib.hid (show ∃ i, i < xs.length + 1 ∧ minTo (t.getD j []) (xs.length + 1) = tv t j i from (minTo_some (t.getD j []) (xs.length + 1)).imp fun i h => ⟨by omega, h.2⟩)
          clear hq
          generalize minTo (t.getD j []) (xs.length + 1) = q at CM ML MS
          by_cases hq : q < -1
          · have E := Lib.hid (formB_no (c := c) (xs := xs) (t := t) (fun h => by obtain ⟨i, h1, h2⟩ := MS.out; have := h.least j hlt i h1; omega))
            go_wp2_with fail
            refine CM.out.mono ?_
            rintro e w' ⟨rfl, rfl⟩
            go_wp2
            go_ret
            exact ⟨by rw [E.out]; rfl, G0.out⟩
          · go_wp2_with fail
            refine CM.out.mono ?_
            rintro e w' ⟨rfl, rfl⟩
            go_wp2
            go_roundw
            case rel => exact ⟨j + 1, by omega, by go_num, all_succ HR.out HQ.out, all_succ HLE.out (fun i hi => by have := ML.out i hi; omega), by first | rfl | trivial⟩
            case measure => simp [intOf]; omega
        · have E := Lib.hid (formB_no (c := c) (xs := xs) (t := t) (fun h => hq (h.rows j hlt)))
          generalize (t.getD j []).length = q at p0 hq
          have d1 : (((q : Nat) : Int) != (xs.length : Int) + 1) = true := by rw [bne_iff_ne]; omega
          clear hq
          go_wp2
          go_ret
          exact ⟨by rw [E.out]; rfl, G0.out⟩
      · have hlt' : ¬ ((j : Int) < (((c.hs.length + 1 : Nat) : Int))) := by omega
        obtain rfl : j = c.hs.length + 1 := by omega
        obtain ⟨c0, c1, c2, cz, -⟩ := HC.out
        obtain ⟨gs, os, cs, p0, hgs, hp⟩ := HT.out.num2 G0.out (s := c.hs.length) (by have := EL.out; omega) (HR.out c.hs.length (by omega)) (by omega)
        have HP := Lib.hid hp
        clear hj hlt hp c0 c1 cz
        go_wp2
        clear hlt' p0 c2
        go_loopw [43] (fun i_ ws => ∃ i : Nat, i ≤ xs.length + 1 ∧ i_ = .int .i64 (i : Int) ∧ (∀ i', i' < i → tv t c.hs.length i' = endI xs.length i') ∧ ws = wr) (fun i_ _ => xs.length + 1 - (intOf i_).toNat)
        case atStart => exact ⟨0, by omega, rfl, fun _ h => absurd h (Nat.not_lt_zero _), rfl⟩
        case round =>
          obtain ⟨i, hi, rfl, hlast, rfl⟩ := hrel
          have HLA := Lib.hid hlast
          clear hlast
          by_cases hlt : i < xs.length + 1
          · have hlt' : (i : Int) < (((xs.length + 1 : Nat) : Int)) := by omega
            have p1 := HP.out i hlt
            generalize hz : tv t c.hs.length i = z at p1
            have HZ := Lib.hid hz
            clear hz
            have CB := Lib.hid (behindAll_any A xs.length m i wr h60 (by omega))
            generalize hq : endI xs.length i = q at CB
            have HQ := Lib.hid hq
            clear hq
            by_cases hz : z = q
            · have d3 : (z != q) = false := by rw [hz]; simp
              have EZ := Lib.hid (show tv t c.hs.length i = endI xs.length i by rw [HZ.out, HQ.out]; exact hz)
              clear hz
              go_wp2_with fail
              refine CB.out.mono ?_
              rintro e w' ⟨rfl, rfl⟩
              go_wp2
              go_roundw
              case rel => exact ⟨i + 1, by omega, by go_num, all_succ HLA.out EZ.out, by first | rfl | trivial⟩
              case measure => simp [intOf]; omega
            · have d3 : (z != q) = true := by rw [bne_iff_ne]; exact hz
              have E := Lib.hid (formB_no (c := c) (xs := xs) (t := t) (fun h => hz (by rw [← HZ.out, ← HQ.out]; exact h.last i hlt)))
              clear hz
              go_wp2_with fail
              refine CB.out.mono ?_
              rintro e w' ⟨rfl, rfl⟩
              go_wp2
              go_ret
              exact ⟨by rw [E.out]; rfl, G0.out⟩
          · have hlt' : ¬ ((i : Int) < (((xs.length + 1 : Nat) : Int))) := by omega
            obtain rfl : i = xs.length + 1 := by omega
            have E := Lib.hid (formB_yes (c := c) (xs := xs) (t := t) ⟨EL.out, HR.out, HLA.out, HLE.out⟩)
            go_wp2
            go_ret
            exact ⟨by rw [E.out]; rfl, G0.out⟩
  · have d0 : (((t.length : Nat) : Int) != (c.hs.length : Int) + 1) = true := by rw [bne_iff_ne]; omega
    have E := Lib.hid (formB_no (c := c) (xs := xs) (t := t) (fun h => e h.len))
    clear e
    go_enter Try.func116, Try.ntmps116
    go_wp2
    go_ret
    exact ⟨by rw [E.out]; rfl, G0.out⟩

end Go.Proofs.Ytonclaakaaidlaa
