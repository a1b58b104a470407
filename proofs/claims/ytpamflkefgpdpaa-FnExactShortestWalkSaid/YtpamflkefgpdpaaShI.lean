/- Shortest walks by the program: contracts. Condition: stops within 0 and 999, at most 60. -/
import Derived.Test.YtpamflkefgpdpaaShB
import Derived.Test.YtpamflkefgpdpaaWkI
import Derived.ScopeJumps
import Derived.WalkMore
namespace Go.Proofs.Ytpamflkefgpdpaa
set_option linter.unusedSimpArgs false
set_option linter.unusedVariables false
set_option maxRecDepth 100000
open Go.RowKit Go.Shelf

/-- Ways out of a scope: by a goto, J of its label. -/
def Exit.jumpsW (J : Nat → Act → World → Prop) (Q : Exit → Act → World → Prop) : Exit → Act → World → Prop
  | .goto l, a, w => J l a w
  | e, a, w => Q e a w
theorem wp_scope_labels {P : Program} {a : Act} {w : World} {Q : Exit → Act → World → Prop} {c : Code} (J : Nat → Act → World → Prop) (μ : Nat → Act → World → Nat)
    (first : c.wp P (Exit.jumpsW J Q) a w)
    (pass : ∀ l a w, J l a w → ∃ rest, findLabel c l = some rest ∧ rest.wp P (Exit.jumpsW (fun l' a' w' => J l' a' w' ∧ μ l' a' w' < μ l a w) Q) a w) : (Code.scope c).wp P Q a w := by
  intro b k cs
  have go : ∀ n l a w, μ l a w = n → J l a w → ∃ rest, findLabel c l = some rest ∧ ∃ e a' w', Q e a' w' ∧ Arrives P (lone (b.at a (.code rest :: .inScope c :: k)) cs w) b k cs e a' w' := by
    intro n
    induction n using Nat.strongRecOn with
    | _ n ih =>
      intro l a w hn hJ
      obtain ⟨rest, hf, hp⟩ := pass l a w hJ
      refine ⟨rest, hf, ?_⟩
      obtain ⟨e, a1, w1, hq, harr⟩ := hp b (.inScope c :: k) cs
      cases e with
      | goto l' =>
        obtain ⟨hJ', hlt⟩ := hq
        obtain ⟨rest', hf', e2, a2, w2, hq2, harr2⟩ := ih _ (by omega) l' a1 w1 rfl hJ'
        exact ⟨e2, a2, w2, hq2, .of_steps (harr _ (by simp [gotoIn, hf'])) harr2⟩
      | normal => exact ⟨_, a1, w1, hq, Steps.trans harr (.one step_inScope)⟩
      | exit id => exact ⟨.exit id, a1, w1, hq, fun k' hk => harr k' (by simp [exitTo, hk])⟩
      | ret => exact ⟨_, a1, w1, hq, harr⟩
      | panic ch => exact ⟨_, a1, w1, hq, harr⟩
      | outgrown => exact ⟨_, a1, w1, hq, harr⟩
  obtain ⟨e, a1, w1, hq, harr⟩ := first b (.inScope c :: k) cs
  cases e with
  | goto l' =>
    obtain ⟨rest', hf', e2, a2, w2, hq2, harr2⟩ := go _ l' a1 w1 rfl hq
    exact ⟨e2, a2, w2, hq2, .of_steps (.head step_scope (harr _ (by simp [gotoIn, hf']))) harr2⟩
  | normal => exact ⟨_, a1, w1, hq, .head step_scope (Steps.trans harr (.one step_inScope))⟩
  | exit id => exact ⟨.exit id, a1, w1, hq, fun k' hk => .head step_scope (harr k' (by simp [exitTo, hk]))⟩
  | ret => exact ⟨_, a1, w1, hq, .of_steps (.one step_scope) harr⟩
  | panic ch => exact ⟨_, a1, w1, hq, .of_steps (.one step_scope) harr⟩
  | outgrown => exact ⟨_, a1, w1, hq, .of_steps (.one step_scope) harr⟩
theorem wp_jumps_mono {P : Program} {a : Act} {w : World} {Q : Exit → Act → World → Prop} {c : Code} {J J' : Nat → Act → World → Prop} (h : c.wp P (Exit.jumpsW J Q) a w) (hJ : ∀ l a w, J l a w → J' l a w) : c.wp P (Exit.jumpsW J' Q) a w := by
  intro b k cs
  obtain ⟨e, a1, w1, hq, harr⟩ := h b k cs
  refine ⟨e, a1, w1, ?_, harr⟩
  cases e with
  | goto l => exact hJ l _ _ hq
  | normal => exact hq
  | exit id => exact hq
  | ret => exact hq
  | panic ch => exact hq
  | outgrown => exact hq

/-- The walk when all stops from i on have been taken. -/
def walkT (row : List Int) (f i : Nat) : List Int := row.drop f ++ ((row.take f).drop i).reverse
theorem walkT_f (row : List Int) (f : Nat) : walkT row f f = row.drop f := by
  unfold walkT
  have h : (row.take f).drop f = [] := List.drop_eq_nil_of_le (by rw [List.length_take]; omega)
  rw [h]
  simp
theorem walkT_zero (row : List Int) (s : Int) (f : Nat) : walkT row f 0 = walkL row s f := by unfold walkT walkL; simp
theorem walkT_step {row : List Int} {f i : Nat} (hi : i < f) (hf : f ≤ row.length) : walkT row f i = walkT row f (i + 1) ++ [row[i]'(by omega)] := by
  unfold walkT
  rw [List.append_assoc]
  congr 1
  rw [List.drop_eq_getElem_cons (by rw [List.length_take]; omega), List.reverse_cons]
  congr 2
  simp
theorem walkT_length {row : List Int} {f i : Nat} (hi : i ≤ f) (hf : f ≤ row.length) : (walkT row f i).length = row.length - i := by
  unfold walkT
  simp
  omega
/-- The frame at both labels. -/
def ShFr (a' : Act) (A : Option Addr) (n c : Nat) (a : Int) (row vv : Value) (x6 x8 : Int) : Prop :=
  ∃ u9 u10 u11 u12 u13 u14 u15 u16 u17 u18 u19 u20 u21 u22 u23 u24 u25 u26 u27 u28 u29 u30 u31 u32 u33 u34 u35 u36 u37 u38 u39 u40 u41 u42 u43 u44 u45 u46 u47 u48 u49 u50 u51 u52 u53 u54 u55 u56 u57 u58 u59 u60 u61 u62 : Value, a' = { tmps := #[.slice A n c, .int .i64 a, undef, undef, .slice none 0 0, row, .int .i64 x6, vv, .int .i64 x8, u9, u10, u11, u12, u13, u14, u15, u16, u17, u18, u19, u20, u21, u22, u23, u24, u25, u26, u27, u28, u29, u30, u31, u32, u33, u34, u35, u36, u37, u38, u39, u40, u41, u42, u43, u44, u45, u46, u47, u48, u49, u50, u51, u52, u53, u54, u55, u56, u57, u58, u59, u60, u61, u62], defers := [] }
def m6 (a' : Act) : Nat := (intOf (a'.tmps.getD 6 undef)).toNat
def m8 (a' : Act) : Nat := (intOf (a'.tmps.getD 8 undef)).toNat

theorem wp_scope_labels2 {P : Program} {a : Act} {w : World} {Q : Exit → Act → World → Prop} {c : Code} (J : Nat → Act → World → Prop) (μ : Nat → Act → World → Nat)
    (pass : ∀ l a w, J l a w → ∃ rest, findLabel c l = some (Code.skip.seq rest) ∧ rest.wp P (Exit.jumpsW (fun l' a' w' => J l' a' w' ∧ μ l' a' w' < μ l a w) Q) a w)
    (first : (∀ l a w, J l a w → ∀ rest, findLabel c l = some (Code.skip.seq rest) → rest.wp P (Exit.jumpsW J Q) a w) → c.wp P (Exit.jumpsW J Q) a w) : (Code.scope c).wp P Q a w :=
  wp_scope_labels J μ (first fun l a w h rest hr => by
    obtain ⟨r, h1, h2⟩ := pass l a w h
    rw [hr] at h1
    injection h1 with h1
    injection h1 with _ h1
    subst h1
    exact wp_jumps_mono h2 fun l a w h => h.1) fun l a w h => by
    obtain ⟨r, h1, h2⟩ := pass l a w h
    exact ⟨_, h1, wp_seq (wp_skip h2)⟩
theorem jumpsW_ret {J : Nat → Act → World → Prop} {Q : Exit → Act → World → Prop} {a : Act} {w : World} : Exit.jumpsW J Q .ret a w = Q .ret a w := rfl
/-- At the first label. -/
def ShJ0 (w : World) (A : Option Addr) (n c : Nat) (a : Int) (row : List Int) (ff : Nat) (a' : Act) (w' : World) : Prop :=
  ∃ (next : Nat) (vv : Value) (Au : Option Addr) (cu : Nat) (w1 : World), ff ≤ next ∧ next ≤ row.length ∧ ShFr a' A n c a (.slice Au row.length cu) vv (ff : Int) (next : Int) ∧ IntsOf .i64 w1 (.slice Au row.length cu) row ∧ Below w.heap.size w w1 ∧ Below w1.heap.size w1 w' ∧ w'.ownsRow w1.heap.size 2 1 vv (next - ff) (((row.drop ff).take (next - ff)).map (Value.int .i64))
/-- At the second label. -/
def ShJ1 (w : World) (A : Option Addr) (n c : Nat) (a : Int) (row : List Int) (ff : Nat) (a' : Act) (w' : World) : Prop :=
  ∃ (i : Nat) (x8 : Int) (vv : Value) (Au : Option Addr) (cu : Nat) (w1 : World), i ≤ ff ∧ ShFr a' A n c a (.slice Au row.length cu) vv (i : Int) x8 ∧ IntsOf .i64 w1 (.slice Au row.length cu) row ∧ Below w.heap.size w w1 ∧ Below w1.heap.size w1 w' ∧ w'.ownsRow w1.heap.size 2 1 vv (row.length - i) ((walkT row ff i).map (Value.int .i64))

set_option maxRecDepth 1000000 in
set_option maxHeartbeats 16000000 in
theorem shortestOf_any (v : Value) (zs : List Int) (a : Int) (w : World) (hs : IntsOf .i64 w v zs) (hb : ∀ x ∈ zs, 0 ≤ x ∧ x ≤ 999) (h0 : 0 ≤ a ∧ a ≤ 999) (h60 : zs.length ≤ 60) :
    Calls Try.prog 38 #[v, .int .i64 a] w fun e w' => ∃ u, e = .returned u ∧ w'.ownsRow w.heap.size 2 1 u zs.length ((walkI zs a).map (Value.int .i64)) ∧ Below w.heap.size w w' := by
  obtain ⟨A, c, rfl, hat⟩ := hs
  have HAT := Lib.hid hat
  obtain ⟨i0, hi0, hz0, hz1, hz2⟩ := info_parts infoIntS
  have X1 := Lib.hid (heap_alloc_new w (.cells #[.slice A zs.length c] 22))
  have D1 := Lib.hid ((Below.refl w.heap.size w).alloc (Nat.le_refl _) (.cells #[.slice A zs.length c] 22))
  have S1 := Lib.hid (show (w.alloc (.cells #[.slice A zs.length c] 22)).heap.size = w.heap.size + 1 by simp)
  have IV := Lib.hid (show IntsV (w.alloc (.cells #[.slice A zs.length c] 22)) (w.alloc (.cells #[.slice A zs.length c] 22)).heap.size A zs from fun hp => by
    obtain ⟨g, o, e, hg, hc⟩ := hat hp
    exact ⟨g, o, e, by simp; omega, fun k hk => ((D1.out.cell (p := ⟨g, o + k, none⟩) hg).trans (hc k hk))⟩)
  have RL := Lib.hid (rowI_length zs)
  have RS := Lib.hid (rowI_sorted zs)
  have RB := Lib.hid (show ∀ x ∈ rowI zs, 0 ≤ x ∧ x ≤ 999 from fun x hx => hb x ((rowI_perm zs).mem_iff.1 hx))
  have FE := Lib.hid (show walkI zs a = walkL (rowI zs) a (fstI zs a) from rfl)
  have FF := Lib.hid (show fstI zs a = if turnB (rowI zs) a then lbI (rowI zs) a else 0 from rfl)
  have LB := Lib.hid (lbI_le (rowI zs) a)
  generalize hrow : rowI zs = row at *
  have HROW := Lib.hid hrow
  clear hrow
  generalize walkI zs a = WW at *
  generalize fstI zs a = ff at *
  clear hat hb
  go_enter Try.func38, Try.ntmps38
  go_wp2_with fail
  have FFL := Lib.hid (show ff ≤ row.length by rw [FF.out]; have := LB.out; split <;> omega)
  refine wp_scope_labels2 (fun l a' w' => (l = 0 ∧ ShJ0 w A zs.length c a row ff a' w') ∨ (l = 1 ∧ ShJ1 w A zs.length c a row ff a' w')) (fun l a' _ => if l = 0 then 1000 - m8 a' else m6 a') ?pass ?first
  case pass =>
    rintro l a' w' (⟨rfl, next, vv, Au, cu, w1, hfn, hnl, hfr, hr, bw1, bb, ow⟩ | ⟨rfl, i, x8, vv, Au, cu, w1, hif, hfr, hr, bw1, bb, ow⟩)
    · refine ⟨_, rfl, ?_⟩
      obtain ⟨u9, u10, u11, u12, u13, u14, u15, u16, u17, u18, u19, u20, u21, u22, u23, u24, u25, u26, u27, u28, u29, u30, u31, u32, u33, u34, u35, u36, u37, u38, u39, u40, u41, u42, u43, u44, u45, u46, u47, u48, u49, u50, u51, u52, u53, u54, u55, u56, u57, u58, u59, u60, u61, u62, rfl⟩ := hfr
      have HR := Lib.hid hr
      have BW1 := Lib.hid bw1
      have BB := Lib.hid bb
      have OW := Lib.hid ow
      have hfl := FFL.out
      have r60 : row.length ≤ 60 := by rw [RL.out]; exact h60
      obtain ⟨A', c', e', hrx⟩ := hr
      obtain ⟨rfl, rfl⟩ : Au = A' ∧ cu = c' := by injection e' with q1 q2 q3; exact ⟨q1, q3⟩
      have HRX := Lib.hid hrx
      clear bw1 bb ow hrx e'
      by_cases hnx : next < row.length
      · have hnx2 : (next : Int) < (row.length : Int) := by omega
        obtain ⟨g, o, hAu, hg, hcs⟩ := HRX.out (by omega)
        subst hAu
        have p0 := (BB.out.cell (p := ⟨g, o + next, none⟩) hg).trans (hcs next hnx)
        have ST := Lib.hid (show (row.drop ff).take (next + 1 - ff) = (row.drop ff).take (next - ff) ++ [row[next]] by
          rw [show next + 1 - ff = (next - ff) + 1 by omega, List.take_succ_eq_append_getElem (by rw [List.length_drop]; omega), List.getElem_drop]
          congr 2
          simp only [show ff + (next - ff) = next by omega])
        generalize row[next] = x at p0 ST
        clear hcs
        have hsz := BB.out.size
        have OA := Lib.hid (OW.out.alloc (.cells #[.int .i64 (x)] 2))
        have BA := Lib.hid (BB.out.alloc hsz (.cells #[.int .i64 (x)] 2))
        have hbz : w1.heap.size ≤ (w'.alloc (.cells #[.int .i64 (x)] 2)).heap.size := BA.out.size
        go_wp2_with (at_builtin; refine wpList_append_own _ rfl (.tmp 42) (.tmp 47) _ rfl w1.heap.size 2 i0 (.int .i64 0) 1 8 Try.underlying22 hi0 hz0 hz1 hz2 rfl (by decide) _ _ _ rfl OA.out ⟨w'.heap.size, 0, none⟩ 1 1 [.int .i64 (x)] rfl rfl ?c1bq1 ?c2bq1 ?c3bq1 ?c4bq1 ?c5bq1 ?_)
        case c1bq1 => exact cell_one_new _ _ _
        case c2bq1 => (intro u hu; simp at hu; subst hu; rfl)
        case c3bq1 => (unfold maxLen; omega)
        case c4bq1 => omega
        case c5bq1 => (first | exact hbz | (simp; omega))
        intro v5 w5 ho5 hg5 _
        have B5 := Lib.hid (show Below w1.heap.size w1 w5 from BA.out.grown hg5 BA.out.size (fun k hk => (OW.out.lt k hk).1))
        have O5 := Lib.hid ho5
        clear ho5 hg5
        have O6 := Lib.hid (show w5.ownsRow w1.heap.size 2 1 v5 (next + 1 - ff) (((row.drop ff).take (next + 1 - ff)).map (Value.int .i64)) by rw [ST.out, List.map_append, show next + 1 - ff = next - ff + 1 by omega]; simpa using O5.out)
        go_wp2
        go_step3
        exact ⟨.inl ⟨rfl, ⟨next + 1, v5, _, cu, w1, by omega, by omega, ⟨_, _, _, _, _, _, _, _, _, _, _, _, _, _, _, _, _, _, _, _, _, _, _, _, _, _, _, _, _, _, _, _, _, _, _, _, _, _, _, _, _, _, _, _, _, _, _, _, _, _, _, _, _, _, rfl⟩, HR.out, BW1.out, B5.out, O6.out⟩⟩, by simp [m8, m6, intOf] <;> omega⟩
      · have hnr : next = row.length := by omega
        have hnx2 : ¬ ((next : Int) < (row.length : Int)) := by omega
        obtain ⟨i, hi⟩ : ∃ i : Nat, i = ff := ⟨_, rfl⟩
        have hif : i ≤ ff := by omega
        have OW := Lib.hid (show w'.ownsRow w1.heap.size 2 1 vv (row.length - i) ((walkT row ff i).map (Value.int .i64)) by
          have h := OW.out
          have e1 : next - ff = row.length - ff := by omega
          rw [e1, List.take_of_length_le (by rw [List.length_drop]; omega)] at h
          rw [hi, walkT_f]
          exact h)
        clear hnr
        go_wp2
        go_step3
        rw [show ((ff : Nat) : Int) = (i : Int) by rw [hi]]
        clear hi hnx2
        rcases i with _ | i
        · have OZ := Lib.hid OW.out
          rw [walkT_zero row a ff] at OZ
          obtain ⟨Az, cz, rfl⟩ := vlen_own1 OZ.out
          have OF := Lib.hid (ownsMono OZ.out (show w.heap.size ≤ w1.heap.size from BW1.out.size))
          have BF := Lib.hid (BW1.out.trans (BB.out.mono BW1.out.size))
          go_wp2
          rw [jumpsW_ret]
          go_ret
          exact ⟨_, rfl, by rw [FE.out, ← RL.out]; exact OF.out, BF.out⟩
        · have hil : i < row.length := by omega
          have hi1 : ((i + 1 : Nat) : Int) - 1 = (i : Int) := by omega
          have hi2 : (0 : Int) < ((i + 1 : Nat) : Int) := by omega
          have hi3 : ¬ (((i + 1 : Nat) : Int) = 0) := by omega
          obtain ⟨g, o, hAu, hg, hcs⟩ := HRX.out (by omega)
          subst hAu
          have p0 := (BB.out.cell (p := ⟨g, o + i, none⟩) hg).trans (hcs i hil)
          have ST := Lib.hid (walkT_step (row := row) (f := ff) (i := i) (by omega) hfl)
          have RB1 := RB.out row[i] (List.getElem_mem hil)
          generalize row[i] = x at p0 ST RB1
          clear hcs
          have hsz := BB.out.size
          have OA := Lib.hid (OW.out.alloc (.cells #[.int .i64 (x)] 2))
          have BA := Lib.hid (BB.out.alloc hsz (.cells #[.int .i64 (x)] 2))
          have hbz : w1.heap.size ≤ (w'.alloc (.cells #[.int .i64 (x)] 2)).heap.size := BA.out.size
          go_wp2_with (at_builtin; refine wpList_append_own _ rfl (.tmp 55) (.tmp 60) _ rfl w1.heap.size 2 i0 (.int .i64 0) 1 8 Try.underlying22 hi0 hz0 hz1 hz2 rfl (by decide) _ _ _ rfl OA.out ⟨w'.heap.size, 0, none⟩ 1 1 [.int .i64 (x)] rfl rfl ?c1aq2 ?c2aq2 ?c3aq2 ?c4aq2 ?c5aq2 ?_)
          case c1aq2 => exact cell_one_new _ _ _
          case c2aq2 => (intro u hu; simp at hu; subst hu; rfl)
          case c3aq2 => (unfold maxLen; omega)
          case c4aq2 => omega
          case c5aq2 => (first | exact hbz | (simp; omega))
          intro v5 w5 ho5 hg5 _
          have B5 := Lib.hid (show Below w1.heap.size w1 w5 from BA.out.grown hg5 BA.out.size (fun k hk => (OW.out.lt k hk).1))
          have O5 := Lib.hid ho5
          clear ho5 hg5
          have O6 := Lib.hid (show w5.ownsRow w1.heap.size 2 1 v5 (row.length - i) ((walkT row ff i).map (Value.int .i64)) by rw [ST.out, List.map_append, show row.length - i = row.length - (i + 1) + 1 by omega]; exact O5.out)
          go_wp2
          go_step3
          exact ⟨.inr ⟨rfl, ⟨i, _, v5, _, cu, w1, by omega, ⟨_, _, _, _, _, _, _, _, _, _, _, _, _, _, _, _, _, _, _, _, _, _, _, _, _, _, _, _, _, _, _, _, _, _, _, _, _, _, _, _, _, _, _, _, _, _, _, _, _, _, _, _, _, _, rfl⟩, HR.out, BW1.out, B5.out, O6.out⟩⟩, by simp [m8, m6, intOf] <;> omega⟩
    · refine ⟨_, rfl, ?_⟩
      obtain ⟨u9, u10, u11, u12, u13, u14, u15, u16, u17, u18, u19, u20, u21, u22, u23, u24, u25, u26, u27, u28, u29, u30, u31, u32, u33, u34, u35, u36, u37, u38, u39, u40, u41, u42, u43, u44, u45, u46, u47, u48, u49, u50, u51, u52, u53, u54, u55, u56, u57, u58, u59, u60, u61, u62, rfl⟩ := hfr
      have HR := Lib.hid hr
      have BW1 := Lib.hid bw1
      have BB := Lib.hid bb
      have OW := Lib.hid ow
      have hfl := FFL.out
      have r60 : row.length ≤ 60 := by rw [RL.out]; exact h60
      obtain ⟨A', c', e', hrx⟩ := hr
      obtain ⟨rfl, rfl⟩ : Au = A' ∧ cu = c' := by injection e' with q1 q2 q3; exact ⟨q1, q3⟩
      have HRX := Lib.hid hrx
      clear bw1 bb ow hrx e'
      rcases i with _ | i
      · have OZ := Lib.hid OW.out
        rw [walkT_zero row a ff] at OZ
        obtain ⟨Az, cz, rfl⟩ := vlen_own1 OZ.out
        have OF := Lib.hid (ownsMono OZ.out (show w.heap.size ≤ w1.heap.size from BW1.out.size))
        have BF := Lib.hid (BW1.out.trans (BB.out.mono BW1.out.size))
        go_wp2
        rw [jumpsW_ret]
        go_ret
        exact ⟨_, rfl, by rw [FE.out, ← RL.out]; exact OF.out, BF.out⟩
      · have hil : i < row.length := by omega
        have hi1 : ((i + 1 : Nat) : Int) - 1 = (i : Int) := by omega
        have hi2 : (0 : Int) < ((i + 1 : Nat) : Int) := by omega
        have hi3 : ¬ (((i + 1 : Nat) : Int) = 0) := by omega
        obtain ⟨g, o, hAu, hg, hcs⟩ := HRX.out (by omega)
        subst hAu
        have p0 := (BB.out.cell (p := ⟨g, o + i, none⟩) hg).trans (hcs i hil)
        have ST := Lib.hid (walkT_step (row := row) (f := ff) (i := i) (by omega) hfl)
        have RB1 := RB.out row[i] (List.getElem_mem hil)
        generalize row[i] = x at p0 ST RB1
        clear hcs
        have hsz := BB.out.size
        have OA := Lib.hid (OW.out.alloc (.cells #[.int .i64 (x)] 2))
        have BA := Lib.hid (BB.out.alloc hsz (.cells #[.int .i64 (x)] 2))
        have hbz : w1.heap.size ≤ (w'.alloc (.cells #[.int .i64 (x)] 2)).heap.size := BA.out.size
        go_wp2_with (at_builtin; refine wpList_append_own _ rfl (.tmp 55) (.tmp 60) _ rfl w1.heap.size 2 i0 (.int .i64 0) 1 8 Try.underlying22 hi0 hz0 hz1 hz2 rfl (by decide) _ _ _ rfl OA.out ⟨w'.heap.size, 0, none⟩ 1 1 [.int .i64 (x)] rfl rfl ?c1aq3 ?c2aq3 ?c3aq3 ?c4aq3 ?c5aq3 ?_)
        case c1aq3 => exact cell_one_new _ _ _
        case c2aq3 => (intro u hu; simp at hu; subst hu; rfl)
        case c3aq3 => (unfold maxLen; omega)
        case c4aq3 => omega
        case c5aq3 => (first | exact hbz | (simp; omega))
        intro v5 w5 ho5 hg5 _
        have B5 := Lib.hid (show Below w1.heap.size w1 w5 from BA.out.grown hg5 BA.out.size (fun k hk => (OW.out.lt k hk).1))
        have O5 := Lib.hid ho5
        clear ho5 hg5
        have O6 := Lib.hid (show w5.ownsRow w1.heap.size 2 1 v5 (row.length - i) ((walkT row ff i).map (Value.int .i64)) by rw [ST.out, List.map_append, show row.length - i = row.length - (i + 1) + 1 by omega]; exact O5.out)
        go_wp2
        go_step3
        exact ⟨.inr ⟨rfl, ⟨i, _, v5, _, cu, w1, by omega, ⟨_, _, _, _, _, _, _, _, _, _, _, _, _, _, _, _, _, _, _, _, _, _, _, _, _, _, _, _, _, _, _, _, _, _, _, _, _, _, _, _, _, _, _, _, _, _, _, _, _, _, _, _, _, _, rfl⟩, HR.out, BW1.out, B5.out, O6.out⟩⟩, by simp [m8, m6, intOf] <;> omega⟩
  case first =>
    intro PASS
    have PASS := Lib.hid PASS
    go_wp2_with fail
    refine (values_any A zs.length c _).mono ?_
    rintro e w0 ⟨rfl, rfl⟩
    go_wp2_with fail
    refine (sorted_any w.heap.size A c zs _ X1.out IV.out (by omega)).mono ?_
    rintro e w1 ⟨u, rfl, ho, g1⟩
    obtain ⟨Au, cu, rfl⟩ := vlen_own1 ho
    rw [show Value.slice Au zs.length cu = Value.slice Au row.length cu by rw [RL.out]]
    have BW1 := Lib.hid (show Below w.heap.size w w1 from D1.out.trans (g1.mono (by rw [S1.out]; omega)))
    have HRO := Lib.hid (show w1.ownsRow (w.alloc (.cells #[.slice A zs.length c] 22)).heap.size 2 1 (.slice Au row.length cu) row.length (row.map (Value.int .i64)) by rw [RL.out, ← HROW.out]; exact ho)
    have HR := Lib.hid (ownInts (l := row) HRO.out)
    have hfl := FFL.out
    have r60 : row.length ≤ 60 := by rw [RL.out]; exact h60
    obtain ⟨A', c', e', hrx⟩ := HR.out
    obtain ⟨rfl, rfl⟩ : Au = A' ∧ cu = c' := by injection e' with q1 q2 q3; exact ⟨q1, q3⟩
    have HRX := Lib.hid hrx
    clear ho g1 hrx e'
    by_cases hpos : 0 < row.length
    · obtain ⟨g, hAu⟩ : ∃ g, Au = some ⟨g, 0, none⟩ := by
        rcases HRO.out.2 with ⟨_, h⟩ | ⟨g, cap, cur, h, _⟩
        · omega
        · injection h with h1 _ _; exact ⟨g, h1⟩
      subst hAu
      obtain ⟨g', o', hg', hgl, hcs⟩ := HRX.out hpos
      obtain ⟨rfl, rfl⟩ : g = g' ∧ o' = 0 := by injection hg' with h; injection h with h1 h2; exact ⟨h1, h2.symm⟩
      have HCS := Lib.hid hcs
      have p0 := hcs 0 hpos
      obtain ⟨m, hm⟩ : ∃ m, m + 1 = row.length := ⟨row.length - 1, by omega⟩
      have hml : m < row.length := by omega
      have p1 := hcs m hml
      rw [Nat.zero_add] at p1
      rw [Nat.add_zero] at p0
      have RB0 := RB.out row[0] (List.getElem_mem hpos)
      have RB1 := RB.out row[m] (List.getElem_mem hml)
      have TB := Lib.hid (show turnB row a = decide (row[m] - a < a - row[0]) by
        unfold turnB
        rw [decide_eq_true hpos, Bool.true_and, show row.length - 1 = m by omega, List.getD_eq_getElem?_getD, List.getD_eq_getElem?_getD, List.getElem?_eq_getElem hml, List.getElem?_eq_getElem hpos]
        rfl)
      have wm : (row.length : Int) - 1 = (m : Int) := by omega
      have wm2 : IntKind.i64.wrap (m : Int) = (m : Int) := IntWalk.i64_in _ (by omega)
      have hposI : (0 : Int) < (row.length : Int) := by omega
      generalize row[0] = x at p0 RB0 TB
      generalize row[m] = y at p1 RB1 TB
      have n1 : IntKind.i64.wrap (a - x) = a - x := IntWalk.i64_in _ (by omega)
      have n2 : IntKind.i64.wrap (y - a) = y - a := IntWalk.i64_in _ (by omega)
      have q0 := belowBy_cell hgl p0
      have q1 := belowBy_cell hgl p1
      have d0 : decide ((0 : Int) < (row.length : Int)) = true := decide_eq_true hposI
      clear hcs hg' hm
      cases ht : turnB row a
      · have d2 : decide (y - a < a - x) = false := by rw [← TB.out]; exact ht
        have HFF := Lib.hid (show ff = 0 by rw [FF.out, ht]; rfl)
        clear ht
        go_wp2
        refine wp_region_below (by kernel_rfl) (by kernel_rfl) ?_
        iterate 19 (first | go_big_quiet_step (fail) | quiet_step (fail))
        refine wpQuiet_nil ?_
        rintro w2 ⟨⟨_, hq⟩, rfl⟩
        clear q0 q1 p0 p1
        have BB := Lib.hid hq
        clear hq d0 d2 wm wm2 n1 n2 hposI
        have OW := Lib.hid (show w2.ownsRow w1.heap.size 2 1 (.slice none 0 0) (ff - ff) (((row.drop ff).take (ff - ff)).map (Value.int .i64)) from ⟨by simp, .inl ⟨rfl, by omega⟩⟩)
        go_wp2
        go_step3
        rename_i aa
        exact aa _ _ (PASS.out 0 _ _ (.inl ⟨rfl, ff, _, _, cu, w1, Nat.le_refl _, hfl, ⟨_, _, _, _, _, _, _, _, _, _, _, _, _, _, _, _, _, _, _, _, _, _, _, _, _, _, _, _, _, _, _, _, _, _, _, _, _, _, _, _, _, _, _, _, _, _, _, _, _, _, _, _, _, _, by first | (rw [HFF.out]; done) | (rw [HFF.out]; rfl)⟩, HR.out, BW1.out, BB.out, OW.out⟩) _ rfl)
      · have d2 : decide (y - a < a - x) = true := by rw [← TB.out]; exact ht
        have HFF := Lib.hid (show ff = lbI row a by rw [FF.out, ht]; rfl)
        clear ht
        go_wp2
        refine wp_region_below (by kernel_rfl) (by kernel_rfl) ?_
        iterate 19 (first | go_big_quiet_step (fail) | quiet_step (fail))
        refine wpQuiet_nil ?_
        rintro w3 ⟨⟨_, hq⟩, rfl⟩
        clear q0 q1 p0 p1
        have BQ := Lib.hid hq
        clear hq d0 d2 wm wm2 n1 n2 hposI
        go_wp2_with fail
        refine (search_any g cu row a _ (fun k hk => (BQ.out.cell (p := ⟨g, 0 + k, none⟩) hgl).trans (HCS.out k hk)) RS.out (by omega)).mono ?_
        rintro e w2 ⟨⟨bb, rfl⟩, hq⟩
        have BB := Lib.hid (bnext BQ.out hq)
        clear hq
        have OW := Lib.hid (show w2.ownsRow w1.heap.size 2 1 (.slice none 0 0) (ff - ff) (((row.drop ff).take (ff - ff)).map (Value.int .i64)) from ⟨by simp, .inl ⟨rfl, by omega⟩⟩)
        go_wp2
        go_step3
        rename_i aa
        exact aa _ _ (PASS.out 0 _ _ (.inl ⟨rfl, ff, _, _, cu, w1, Nat.le_refl _, hfl, ⟨_, _, _, _, _, _, _, _, _, _, _, _, _, _, _, _, _, _, _, _, _, _, _, _, _, _, _, _, _, _, _, _, _, _, _, _, _, _, _, _, _, _, _, _, _, _, _, _, _, _, _, _, _, _, by first | (rw [HFF.out]; done) | (rw [HFF.out]; rfl)⟩, HR.out, BW1.out, BB.out, OW.out⟩) _ rfl)
    · have HFF := Lib.hid (show ff = 0 by have := LB.out; rw [FF.out]; split <;> omega)
      have d0 : decide ((0 : Int) < (row.length : Int)) = false := decide_eq_false (by omega)
      go_wp2
      refine wp_region_below (by kernel_rfl) (by kernel_rfl) ?_
      iterate 19 (first | go_big_quiet_step (fail) | quiet_step (fail))
      refine wpQuiet_nil ?_
      rintro w2 ⟨⟨_, hq⟩, rfl⟩
      have BB := Lib.hid hq
      clear hq d0
      have OW := Lib.hid (show w2.ownsRow w1.heap.size 2 1 (.slice none 0 0) (ff - ff) (((row.drop ff).take (ff - ff)).map (Value.int .i64)) from ⟨by simp, .inl ⟨rfl, by omega⟩⟩)
      go_wp2
      go_step3
      rename_i aa
      exact aa _ _ (PASS.out 0 _ _ (.inl ⟨rfl, ff, _, _, cu, w1, Nat.le_refl _, hfl, ⟨_, _, _, _, _, _, _, _, _, _, _, _, _, _, _, _, _, _, _, _, _, _, _, _, _, _, _, _, _, _, _, _, _, _, _, _, _, _, _, _, _, _, _, _, _, _, _, _, _, _, _, _, _, _, by first | (rw [HFF.out]; done) | (rw [HFF.out]; rfl)⟩, HR.out, BW1.out, BB.out, OW.out⟩) _ rfl)
end Go.Proofs.Ytpamflkefgpdpaa
