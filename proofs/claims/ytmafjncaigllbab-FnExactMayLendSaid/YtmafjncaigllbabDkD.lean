/- The counter of a desk for a person, by the program: a contract. Condition: no longer than slices can be, numbers within their kinds. -/
import Derived.Test.YtmafjncaigllbabDkC
import Derived.Deep.RegionLaw
namespace Go.Proofs.Ytmafjncaigllbab
set_option linter.unusedSimpArgs false
set_option linter.unusedVariables false
set_option maxRecDepth 100000
open Go.RowKit

noncomputable def cnG (d : Dk) (who : Int) : Bool := dkB d && perB who
noncomputable def cnC (d : Dk) (who : Int) : Int := if dkB d then (if perB who then 0 else 2) else 1
noncomputable def cnDay (d : Dk) (who : Int) : Int := if cnG d who then d.day else 0
noncomputable def cnCs (d : Dk) (who : Int) : List Cp := if cnG d who then d.cs else []
theorem cn_cases (d : Dk) (who : Int) : (dkB d = false ∧ cnC d who = 1 ∧ cnDay d who = 0 ∧ cnCs d who = []) ∨ (dkB d = true ∧ perB who = false ∧ cnC d who = 2 ∧ cnDay d who = 0 ∧ cnCs d who = []) ∨ (dkB d = true ∧ perB who = true ∧ cnC d who = 0 ∧ cnDay d who = d.day ∧ cnCs d who = d.cs) := by
  unfold cnC cnDay cnCs cnG
  cases h1 : dkB d
  · exact .inl ⟨rfl, rfl, rfl, rfl⟩
  · cases h2 : perB who
    · exact .inr (.inl ⟨rfl, rfl, rfl, rfl, rfl⟩)
    · exact .inr (.inr ⟨rfl, rfl, rfl, rfl, rfl⟩)
theorem cp_q4 {c : Cp} {day : Int} (h : cpB c day = true) : c.q.length ≤ 4 := by
  unfold cpB at h
  by_cases h0 : c.st = 0
  · rw [if_pos h0] at h
    have := of_decide_eq_true h
    omega
  · rw [if_neg h0] at h
    by_cases h1 : c.st = 1
    · rw [if_pos h1, Bool.and_eq_true] at h
      exact (away_of h.1).len
    · rw [if_neg h1] at h
      by_cases h2 : c.st = 2
      · rw [if_pos h2, Bool.and_eq_true] at h
        exact (away_of h.1).len
      · rw [if_neg h2] at h
        cases h
theorem cell5_new (w : World) (a b c d e : Value) (t : TypeId) : ∀ (j : Nat) (u : Value), [a, b, c, d, e][j]? = some u → (w.alloc (.cells #[a, b, c, d, e] t)).cell? (Addr.add ⟨w.heap.size, 0, none⟩ j) = some u := by
  intro j u hu
  rw [Addr.add_lit, Nat.zero_add, cell_of_row _ _ j _ _ _ (heap_alloc_new w _)]
  match j, hu with
  | 0, hu => simpa using hu
  | 1, hu => simpa using hu
  | 2, hu => simpa using hu
  | 3, hu => simpa using hu
  | 4, hu => simpa using hu
theorem one5 (a b c d : Int) (A : Option Addr) (n k : Nat) : ∀ u ∈ [Value.int .i64 a, .int .i64 b, .int .i64 c, .int .i64 d, .slice A n k], u.oneCell' = true := by
  intro u hu
  simp at hu
  rcases hu with rfl | rfl | rfl | rfl | rfl <;> rfl

/-- A row of items, one more. -/
theorem ItsL.append {w9 w4 : World} {base : Nat} {vv u9 : Value} {L : List (Cp × Value)} {x : Cp} {o : Obj} {g4 cap q0 : Nat} (h : ItsL w9 base vv L) (h9 : OwnQ w9 q0 u9 x.q) (hq : base ≤ q0) (hlo : ∀ k, vv.ownBlock = some k → k < q0)
    (ho : w4.ownsRow base 47 5 (.slice (some ⟨g4, 0, none⟩) (L.length + 1) cap) (L.length + 1) (flI L ++ [.int .i64 x.st, .int .i64 x.who, .int .i64 x.due, .int .i64 x.ren, u9])) (hg : (w9.alloc o).grownBy w4 vv.ownBlock) (ha : vv.ownBlock = some g4 ∨ g4 = (w9.alloc o).heap.size) :
    ItsL w4 base (.slice (some ⟨g4, 0, none⟩) (L.length + 1) cap) (L ++ [(x, u9)]) := by
  have hb : Below w9.heap.size w9 (w9.alloc o) := (Below.refl _ _).alloc (Nat.le_refl _) _
  refine ⟨by rw [flI_snoc, List.length_append]; exact ho, fun p hp => ?_⟩
  rcases List.mem_append.1 hp with hp | hp
  · obtain ⟨h1, h2⟩ := h.2 p hp
    refine ⟨ownOther (ownBelow h1 hb) hg (fun k hk e => h2 k e.symm hk), ?_⟩
    intro k hk e
    have hk' : g4 = k := by injection hk
    subst hk'
    rcases ha with ha | ha
    · exact h2 _ ha e
    · have := (h1.lt _ e).2
      simp at ha
      omega
  · obtain rfl := List.mem_singleton.1 hp
    refine ⟨ownMono (ownOther (ownBelow h9 hb) hg (fun k hk e => by have h1 := (h9.lt k hk).1; have := hlo k e.symm; omega)) hq, ?_⟩
    intro k hk e
    have hk' : g4 = k := by injection hk
    subst hk'
    rcases ha with ha | ha
    · have h1 := (h9.lt _ e).1
      have := hlo _ ha
      omega
    · have := (h9.lt _ e).2
      simp at ha
      omega
theorem ItsL.far {w : World} {base : Nat} {v : Value} {L : List (Cp × Value)} (h : ItsL w base v L) (g o : Nat) (u : Value) (hg : g < base) : ItsL (w.setCell ⟨g, o, none⟩ u) base v L :=
  ⟨own_cell h.1 _ _ _ (fun k hk => by have := (h.1.lt k hk).1; omega), fun p hp => ⟨own_cell (h.2 p hp).1 _ _ _ (fun k hk => by have := ((h.2 p hp).1.lt k hk).1; omega), (h.2 p hp).2⟩⟩

set_option maxHeartbeats 16000000 in
theorem counterOf_any (d : Dk) (wf : d.Wf ∧ ∀ c ∈ d.cs, c.q.length ≤ maxLen) (who : Int) (g : Nat) (w : World) (hs : CRowK w g g d.cs d.cs.length d.cs.length) (hn : d.cs.length ≤ maxLen) :
    Calls Try.prog 23 #[.agg #[.int .i16 d.day, .slice (some ⟨g, 0, none⟩) d.cs.length d.cs.length], .int .i64 who] w fun e w' => ∃ v, e = .returned (.tuple #[.agg #[.int .i64 (cnDay d who), v, .int .i64 0], .int .i64 (cnC d who)]) ∧ ItsOf w' w.heap.size v (cnCs d who) ∧ Below w.heap.size w w' := by
  have HS := Lib.hid hs
  have VD := Lib.hid (fun W (h : Below w.heap.size w W) => validDesk_any d wf g W (hs.below h) hn)
  have WF := Lib.hid wf
  obtain ⟨y1, y2⟩ := wf.1.day
  clear wf hs
  obtain ⟨i0, hi0, hz0, hz1, hz2⟩ := info_parts infoItem
  have GW := Lib.hid (show ∀ a b : Obj, Below w.heap.size w ((w.alloc a).alloc b) from fun a b => ((Below.refl _ _).alloc (Nat.le_refl _) _).alloc (by simp) _)
  rcases cn_cases d who with ⟨h1, h2, h3, h4⟩ | ⟨h1, hp, h2, h3, h4⟩ | ⟨h1, hp, h2, h3, h4⟩
  · rw [h2, h3, h4]
    rw [h1] at VD
    clear h1 h2 h3 h4
    go_enter Try.func23, Try.ntmps23
    go_wp2_with fail
    generalize hW : World.alloc (World.alloc w _) _ = W2
    have D1 := Lib.hid (show W2.heap[w.heap.size + 1]? = some (.cells #[.int .i64 0, .slice none 0 0, .int .i64 0] 42 (0, 0)) by rw [← hW]; exact (alloc2 w _ _).2)
    have G0 := Lib.hid (show Below w.heap.size w W2 by rw [← hW]; exact GW.out _ _)
    have Z0 := Lib.hid (show w.heap.size + 1 < W2.heap.size by rw [← hW]; simp)
    clear hW
    refine (VD.out _ G0.out).mono ?_
    rintro e w1 ⟨rfl, k1⟩
    have R1 := (k1.block (w.heap.size + 1) Z0.out).trans D1.out
    have r0 : w1.cell? ⟨w.heap.size + 1, 0, none⟩ = some (.int .i64 0) := cell_of_row w1 _ 0 _ _ _ R1
    have r1 : w1.cell? ⟨w.heap.size + 1, 1, none⟩ = some (.slice none 0 0) := cell_of_row w1 _ 1 _ _ _ R1
    have r2 : w1.cell? ⟨w.heap.size + 1, 2, none⟩ = some (.int .i64 0) := cell_of_row w1 _ 2 _ _ _ R1
    have fr := fun j => frozen_of_row w1 (w.heap.size + 1) j _ _ R1
    have G1 := Lib.hid (bnext G0.out k1)
    clear R1 k1
    go_wp2
    refine bodyPost_ret (v := .tuple #[.agg #[.int .i64 0, .slice none 0 0, .int .i64 0], .int .i64 1]) (by simp [results, Try.results23, go_sem, r0, r1, r2]) rfl ?_
    refine ⟨_, rfl, ⟨[], rfl, ItsL.nil _ _⟩, ?_⟩
    repeat (refine Below.setCell ?_ (by first | (simp; done) | (simp; omega) | omega) _)
    exact G1.out
  · rw [h2, h3, h4]
    rw [h1] at VD
    clear h1 h2 h3 h4
    go_enter Try.func23, Try.ntmps23
    go_wp2_with fail
    generalize hW : World.alloc (World.alloc w _) _ = W2
    have D1 := Lib.hid (show W2.heap[w.heap.size + 1]? = some (.cells #[.int .i64 0, .slice none 0 0, .int .i64 0] 42 (0, 0)) by rw [← hW]; exact (alloc2 w _ _).2)
    have G0 := Lib.hid (show Below w.heap.size w W2 by rw [← hW]; exact GW.out _ _)
    have Z0 := Lib.hid (show w.heap.size + 1 < W2.heap.size by rw [← hW]; simp)
    clear hW
    refine (VD.out _ G0.out).mono ?_
    rintro e w1 ⟨rfl, k1⟩
    have R1 := (k1.block (w.heap.size + 1) Z0.out).trans D1.out
    have r0 : w1.cell? ⟨w.heap.size + 1, 0, none⟩ = some (.int .i64 0) := cell_of_row w1 _ 0 _ _ _ R1
    have r1 : w1.cell? ⟨w.heap.size + 1, 1, none⟩ = some (.slice none 0 0) := cell_of_row w1 _ 1 _ _ _ R1
    have r2 : w1.cell? ⟨w.heap.size + 1, 2, none⟩ = some (.int .i64 0) := cell_of_row w1 _ 2 _ _ _ R1
    have fr := fun j => frozen_of_row w1 (w.heap.size + 1) j _ _ R1
    have G1 := Lib.hid (bnext G0.out k1)
    clear R1 k1
    go_wp2_with fail
    refine (isPerson_any _ _).mono ?_
    rintro e w' ⟨rfl, rfl⟩
    rw [hp]
    go_wp2
    refine bodyPost_ret (v := .tuple #[.agg #[.int .i64 0, .slice none 0 0, .int .i64 0], .int .i64 2]) (by simp [results, Try.results23, go_sem, r0, r1, r2]) rfl ?_
    refine ⟨_, rfl, ⟨[], rfl, ItsL.nil _ _⟩, ?_⟩
    repeat (refine Below.setCell ?_ (by first | (simp; done) | (simp; omega) | omega) _)
    exact G1.out
  · rw [h2, h3, h4]
    rw [h1] at VD
    have OK := Lib.hid (dk_of h1)
    have h60 := (dk_of h1).len
    clear h1 h2 h3 h4
    go_enter Try.func23, Try.ntmps23
    go_wp2_with fail
    generalize hW : World.alloc (World.alloc w _) _ = W2
    have D0 := Lib.hid (show W2.heap[w.heap.size]? = some (.cells #[.int .i16 d.day, .slice (some ⟨g, 0, none⟩) d.cs.length d.cs.length] 31 (0, 0)) by rw [← hW]; exact (alloc2 w _ _).1)
    have D1 := Lib.hid (show W2.heap[w.heap.size + 1]? = some (.cells #[.int .i64 0, .slice none 0 0, .int .i64 0] 42 (0, 0)) by rw [← hW]; exact (alloc2 w _ _).2)
    have G0 := Lib.hid (show Below w.heap.size w W2 by rw [← hW]; exact GW.out _ _)
    have Z0 := Lib.hid (show w.heap.size + 1 < W2.heap.size by rw [← hW]; simp)
    clear hW
    refine (VD.out _ G0.out).mono ?_
    rintro e w1 ⟨rfl, k1⟩
    have R1 := Lib.hid ((k1.block (w.heap.size + 1) Z0.out).trans D1.out)
    have R0 := Lib.hid ((k1.block w.heap.size (by have := Z0.out; omega)).trans D0.out)
    have a0 : w1.cell? ⟨w.heap.size, 0, none⟩ = some (.int .i16 d.day) := cell_of_row w1 _ 0 _ _ _ R0.out
    have a1 : w1.cell? ⟨w.heap.size, 1, none⟩ = some (.slice (some ⟨g, 0, none⟩) d.cs.length d.cs.length) := cell_of_row w1 _ 1 _ _ _ R0.out
    have G1 := Lib.hid (bnext G0.out k1)
    have Z1 := Lib.hid (Nat.lt_of_lt_of_le Z0.out k1.size)
    have z1 := Z1.out
    clear k1
    go_wp2_with fail
    refine (isPerson_any _ _).mono ?_
    rintro e w' ⟨rfl, rfl⟩
    rw [hp]
    have A0 := Lib.hid (show Below w1.heap.size w1 (w1.alloc (.cells #[.int .i64 d.day, .slice none 0 0, .int .i64 0] 42)) from (Below.refl _ _).alloc (Nat.le_refl _) _)
    have X0 := Lib.hid (heap_alloc_new w1 (.cells #[.int .i64 d.day, .slice none 0 0, .int .i64 0] 42))
    have a1' := (A0.out.cell (p := ⟨w.heap.size, 1, none⟩) (by show w.heap.size < _; omega)).trans a1
    go_wp2
    generalize hW : World.alloc w1 _ = W3 at A0 X0 a1' ⊢
    have S3 := Lib.hid (show w1.heap.size < W3.heap.size by rw [← hW]; simp)
    clear hW a0 a1 a1'
    go_loopw [24] (fun i wr => ∃ (k : Nat) (vv : Value) (L : List (Cp × Value)), k ≤ d.cs.length ∧ i = .int .i64 (k : Int) ∧ L.map (·.1) = d.cs.take k ∧ ItsL wr (w1.heap.size + 1) vv L ∧ wr.heap[w1.heap.size]? = some (.cells #[.int .i64 d.day, vv, .int .i64 0] 42 (0, 0)) ∧ Below w1.heap.size W3 wr) (fun i _ => d.cs.length - (intOf i).toNat)
    case atStart => exact ⟨0, _, [], Nat.zero_le _, rfl, by simp, ItsL.nil _ _, X0.out, Below.refl _ _⟩
    case round =>
      obtain ⟨k, vv, L, hk, rfl, hl, hit, hbx, hb⟩ := hrel
      obtain ⟨A3, c3, rfl⟩ := hit.form
      have HL := Lib.hid hl
      have hlen : L.length = k := by have := congrArg List.length hl; simp at this; omega
      rw [hlen] at hit hbx
      have LE := Lib.hid hlen
      have IT := Lib.hid hit
      have BX := Lib.hid hbx
      have HB := Lib.hid hb
      have z3 := S3.out
      have zb := hb.size
      have GW1 := Lib.hid (show Below w.heap.size w wr from (bnext G1.out A0.out).trans (hb.mono G1.out.size))
      clear hl hit hbx hb hlen
      by_cases hlt : k < d.cs.length
      · obtain ⟨p0, p1, p2, p3, gi, p4, hq⟩ := (HS.out.below GW1.out).in_ hlt
        have WK := Lib.hid (WF.out.1.cs _ (List.getElem_mem hlt))
        have Q4 := Lib.hid (cp_q4 (OK.out.cp k hlt))
        have LS := Lib.hid (show d.cs.take (k + 1) = d.cs.take k ++ [d.cs[k]] from List.take_succ_eq_append_getElem hlt)
        have HQ := Lib.hid hq
        clear hq
        obtain ⟨x, hx⟩ : ∃ x, x = d.cs[k] := ⟨_, rfl⟩
        rw [← hx] at p0 p1 p2 p3 p4 HQ WK Q4 LS
        clear hx
        have A5 := Lib.hid (show Below wr.heap.size wr (wr.alloc (.cells #[.int .i8 x.st, .int .i8 x.who, .int .i16 x.due, .int .i8 x.ren, .slice (some ⟨gi, 0, none⟩) x.q.length x.q.length] 61)) from (Below.refl _ _).alloc (Nat.le_refl _) _)
        have X5 := Lib.hid (heap_alloc_new wr (.cells #[.int .i8 x.st, .int .i8 x.who, .int .i16 x.due, .int .i8 x.ren, .slice (some ⟨gi, 0, none⟩) x.q.length x.q.length] 61))
        go_wp2
        generalize hW : World.alloc wr _ = Wb at A5 X5 ⊢
        have S5 := Lib.hid (show wr.heap.size < Wb.heap.size by rw [← hW]; simp)
        clear hW p0 p1 p2 p3 p4
        have b0 := Lib.hid (show Below Wb.heap.size Wb Wb.drew from (Below.refl _ _).drew)
        have s5 := S5.out
        have t1 : Wb.drew.cell? ⟨w1.heap.size, 1, none⟩ = some (.slice A3 k c3) := ((bnext A5.out b0.out).cell (p := ⟨w1.heap.size, 1, none⟩) (by show w1.heap.size < _; omega)).trans (cell_of_row wr _ 1 _ _ _ BX.out)
        have q0 : Wb.drew.cell? ⟨wr.heap.size, 0, none⟩ = some (.int .i8 x.st) := (b0.out.cell (p := ⟨wr.heap.size, 0, none⟩) s5).trans (cell_of_row Wb _ 0 _ _ _ X5.out)
        have q1 : Wb.drew.cell? ⟨wr.heap.size, 1, none⟩ = some (.int .i8 x.who) := (b0.out.cell (p := ⟨wr.heap.size, 1, none⟩) s5).trans (cell_of_row Wb _ 1 _ _ _ X5.out)
        have q2 : Wb.drew.cell? ⟨wr.heap.size, 2, none⟩ = some (.int .i16 x.due) := (b0.out.cell (p := ⟨wr.heap.size, 2, none⟩) s5).trans (cell_of_row Wb _ 2 _ _ _ X5.out)
        have q3 : Wb.drew.cell? ⟨wr.heap.size, 3, none⟩ = some (.int .i8 x.ren) := (b0.out.cell (p := ⟨wr.heap.size, 3, none⟩) s5).trans (cell_of_row Wb _ 3 _ _ _ X5.out)
        have q4 : Wb.drew.cell? ⟨wr.heap.size, 4, none⟩ = some (.slice (some ⟨gi, 0, none⟩) x.q.length x.q.length) := (b0.out.cell (p := ⟨wr.heap.size, 4, none⟩) s5).trans (cell_of_row Wb _ 4 _ _ _ X5.out)
        have IQ := Lib.hid (itemOf_any x WK.out (.slice (some ⟨gi, 0, none⟩) x.q.length x.q.length) Wb.drew (IRow.slice (IRowK.below (IRowK.below HQ.out A5.out (IRowK.lt HQ.out)) b0.out (IRowK.lt (IRowK.below HQ.out A5.out (IRowK.lt HQ.out))))) Q4.out)
        go_region_law (first
          | (refine step_append_lies _ (by rfl) (.tmp 29) (.tmp 32) _ (by rfl) (w1.heap.size + 1) 47 i0 (.agg #[.int .i64 0, .int .i64 0, .int .i64 0, .int .i64 0, .slice none 0 0]) 5 56 Try.underlying40 hi0 hz0 hz1 hz2 rfl (by decide) (.slice A3 k c3) _ _ (by rfl) ((ownBelow IT.out.1 H9.out).alloc _) ⟨w9.heap.size, 0, none⟩ 1 1 [.int .i64 x.st, .int .i64 x.who, .int .i64 x.due, .int .i64 x.ren, .slice A9 x.q.length c9] (by rfl) rfl (cell5_new _ _ _ _ _ _ _) (one5 _ _ _ _ _ _ _) (by decide) (by have := LE.out; unfold maxLen; omega) (by have := LE.out; omega) (by have := H9.out.size; simp; omega) _ rfl ?_
             intro g4 cap w4 ho4 hg4 ha4 hl4
             have hne : some w1.heap.size ≠ (Value.slice A3 k c3).ownBlock := fun e => by have := (IT.out.1.lt _ e.symm).1; omega
             have BX4 := Lib.hid ((hg4.block w1.heap.size (by have := H9.out.size; simp; omega) hne).trans ((Below.heap_alloc w9 _ w1.heap.size (by have := H9.out.size; omega)).trans ((H9.out.block w1.heap.size (by omega)).trans BX.out)))
             have x4 : w4.cell? ⟨w1.heap.size, 1, none⟩ = some (.slice A3 k c3) := cell_of_row w4 _ 1 _ _ _ BX4.out
             have f4 := fun j => frozen_of_row w4 w1.heap.size j _ _ BX4.out
             have I4 := Lib.hid (ItsL.append (x := x) (u9 := .slice A9 x.q.length c9) (q0 := Wb.drew.heap.size) (IT.out.below H9.out) O9.out (by show w1.heap.size + 1 ≤ Wb.drew.heap.size; have := b0.out.size; omega) (fun q hq => by have := (IT.out.1.lt q hq).2; have := b0.out.size; omega) ho4 hg4 ha4)
             have g5 := Lib.hid (show Below w1.heap.size W3 w4 from (((HB.out.trans (H9.out.mono (by omega))).alloc (by have := H9.out.size; omega) _).grown hg4 (by have := H9.out.size; simp; omega) (fun q hq => by have := (IT.out.1.lt q hq).1; omega)))
             clear ho4 hg4 ha4 hl4 hne)
          | (go_simp
             go_at_call 38
             refine IQ.out.mono ?_
             rintro e w9 ⟨u9, rfl, ho9, hq9⟩
             obtain ⟨A9, c9, rfl⟩ := vlen_own1 ho9
             have H9 := Lib.hid (bnext A5.out (bnext b0.out hq9))
             have O9 := Lib.hid ho9
             have x9 : w9.cell? ⟨w1.heap.size, 1, none⟩ = some (.slice A3 k c3) := (H9.out.cell (p := ⟨w1.heap.size, 1, none⟩) (by show w1.heap.size < _; omega)).trans (cell_of_row wr _ 1 _ _ _ BX.out)
             have n9 := hq9.size
             have x9a : (w9.alloc (.cells #[.int .i64 x.st, .int .i64 x.who, .int .i64 x.due, .int .i64 x.ren, .slice A9 x.q.length c9] 47)).cell? ⟨w1.heap.size, 1, none⟩ = some (.slice A3 k c3) := (((Below.refl w9.heap.size w9).alloc (Nat.le_refl _) _).cell (p := ⟨w1.heap.size, 1, none⟩) (by have := H9.out.size; show w1.heap.size < _; omega)).trans x9
             clear ho9 hq9))
        all_goals
          go_wp2
          go_roundw
          case rel =>
            refine ⟨k + 1, .slice (some ⟨g4, 0, none⟩) (L.length + 1) cap, L ++ [(x, .slice A9 x.q.length c9)], by omega, by go_num, ?_, ?_, ?_, ?_⟩
            · rw [LS.out, List.map_append, HL.out]; rfl
            · exact I4.out.far w1.heap.size 1 (.slice (some ⟨g4, 0, none⟩) (L.length + 1) cap) (by omega)
            · have := heap_setCell_same _ w1.heap.size 1 _ _ (.slice (some ⟨g4, 0, none⟩) (L.length + 1) cap) BX4.out
              simpa using this
            · exact g5.out.setCell (p := ⟨w1.heap.size, 1, none⟩) (Nat.le_refl _) _
          case measure => simp [intOf]; omega
      · obtain rfl : k = d.cs.length := by omega
        have t0 : wr.cell? ⟨w1.heap.size, 0, none⟩ = some (.int .i64 d.day) := cell_of_row wr _ 0 _ _ _ BX.out
        have t1 : wr.cell? ⟨w1.heap.size, 1, none⟩ = some (.slice A3 d.cs.length c3) := cell_of_row wr _ 1 _ _ _ BX.out
        have t2 : wr.cell? ⟨w1.heap.size, 2, none⟩ = some (.int .i64 0) := cell_of_row wr _ 2 _ _ _ BX.out
        have RR := Lib.hid ((HB.out.block (w.heap.size + 1) (by omega)).trans ((A0.out.block (w.heap.size + 1) (by omega)).trans R1.out))
        have r0 : wr.cell? ⟨w.heap.size + 1, 0, none⟩ = some (.int .i64 0) := cell_of_row wr _ 0 _ _ _ RR.out
        have r1 : wr.cell? ⟨w.heap.size + 1, 1, none⟩ = some (.slice none 0 0) := cell_of_row wr _ 1 _ _ _ RR.out
        have r2 : wr.cell? ⟨w.heap.size + 1, 2, none⟩ = some (.int .i64 0) := cell_of_row wr _ 2 _ _ _ RR.out
        have fr := fun j => frozen_of_row wr (w.heap.size + 1) j _ _ RR.out
        go_wp2
        refine bodyPost_ret (v := .tuple #[.agg #[.int .i64 d.day, .slice A3 d.cs.length c3, .int .i64 0], .int .i64 0]) (by simp [results, Try.results23, go_sem, r0, r1, r2]) rfl ?_
        refine ⟨_, rfl, ⟨L, by rw [HL.out, List.take_length], ?_⟩, ?_⟩
        · refine ItsL.mono ?_ (show w.heap.size ≤ w1.heap.size + 1 by omega)
          repeat (refine ItsL.far ?_ _ _ _ (by omega))
          exact IT.out
        · repeat (refine Below.setCell ?_ (by first | (simp; done) | (simp; omega) | omega) _)
          exact GW1.out
end Go.Proofs.Ytmafjncaigllbab
