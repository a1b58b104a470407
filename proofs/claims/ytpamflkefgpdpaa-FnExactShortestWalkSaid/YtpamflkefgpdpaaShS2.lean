/- ShortestWalk by the model: a contract. Condition: the stops' slice is not nil, numbers within their kinds, no longer than a slice can be. -/
import Derived.Test.YtpamflkefgpdpaaShS
import Derived.Deep.RegionLaw
import Derived.Deep.Cut
import Derived.Test.YtpamflkefgpdpaaOwn
namespace Go.Proofs.Ytpamflkefgpdpaa
set_option linter.unusedSimpArgs false
set_option linter.unusedVariables false
set_option maxRecDepth 100000
open Go.RowKit

section
variable {P : Program} (w : World)
/-- An append to a row of the call's own, at a step of a drawn region. -/
theorem step_append_someI {ops : Array Oper} {o : Oper} {a : Act} {K : Act → World → Prop} {Q : Exit → Act → World → Prop} {E : Prop} (hgd : o.guard = none) (s x : Operand) (t : TypeId)
    (ho : o.op = .call { callee := .builtin .append, args := #[s, x], argTypes := #[t, t] })
    (base : Nat) (e : TypeId) (i : TypeInfo) (z : Value) (size bytes : Nat) (ht : P.underlying t = some (.slice e)) (hi : P.info? e = some i) (hz : i.zero = some z)
    (hsize : i.size = size) (hby : i.bytes = bytes) (hzs : z.cells.size = size) (hsz : 0 < size)
    (g0 c0 : Nat) (n : Nat) (xs : List Value) (hs : a.eval s = .slice (some ⟨g0, 0, none⟩) n c0) (hown : w.ownsRow base e size (.slice (some ⟨g0, 0, none⟩) n c0) n xs)
    (ad : Addr) (m c : Nat) (news : List Value) (hx : a.eval x = .slice (some ad) m c) (hl : news.length = m * size) (hnews : ∀ j u, news[j]? = some u → w.cell? (ad.add j) = some u) (h1 : ∀ u ∈ news, u.oneCell' = true)
    (h63 : n + m ≤ maxLen) (hbytes : (n + m) * bytes ≤ 140737488355328) (hbase : base ≤ w.heap.size)
    (h : ∀ g cap w', w'.ownsRow base e size (.slice (some ⟨g, 0, none⟩) (n + m) cap) (n + m) (xs ++ news) → w.grownBy w' (some g0) → K (a.put o.dst (.slice (some ⟨g, 0, none⟩) (n + m) cap)) w') :
    if Region.wanted o (yielded ops a.tmps) = true then Oper.wp P o a w K Q else E := by
  have hw : Region.wanted o (yielded ops a.tmps) = true := by simp [Region.wanted, hgd]
  rw [if_pos hw]
  refine wp_append_own w s x t ho base e i z size bytes ht hi hz hsize hby hzs hsz _ n xs hs hown ad m c news hx hl hnews h1 h63 hbytes hbase fun v' w' h2 h3 h4 => ?_
  rcases h2.2 with ⟨e1, _⟩ | ⟨g, cap, cur, rfl, _⟩
  · have := (h4.1 e1).1
    cases this
  · exact h g cap w' h2 h3
end
theorem own_emptyI (W : World) (B : Nat) (h : B ≤ W.heap.size) : (W.alloc (.cells #[] 2)).drew.ownsRow B 2 1 (.slice (some ⟨W.heap.size, 0, none⟩) 0 0) 0 [] :=
  ⟨by simp, .inr ⟨W.heap.size, 0, #[], rfl, h, heap_alloc_new W _, Nat.le_refl _, Nat.zero_le _, by simp, by simp⟩⟩
theorem elemN : Try.prog.underlying 22 = some (.slice (Try.prog.elem 22)) := by kernel_rfl
theorem sizeN (w : World) : (sizeOf (Try.prog.elem 22)).run Try.prog w = .ok 1 w := by kernel_rfl
theorem infoIntS : (Try.prog.info? 2).map (fun i => (i.zero, i.size, i.bytes)) = some (some (.int .i64 0), 1, 8) := by kernel_rfl
theorem run_hiN (A : Option Addr) (n c k : Nat) (hk : k ≤ c) (w : World) :
    (Instr.slice 22 (.slice A n c) none (some (.int .i64 (k : Int))) none).run Try.prog w = .ok (.slice A k c) w := by
  rw [run_slice_h w _ _ _ _ elemN _ _ (by omega) (by omega), sizeN]
  cases A <;> simp [Result.andThen, sliced, Addr.add]
/-- Where the numbers from i on lie. -/
def loN (o i c : Nat) : Nat := if c = i then o else o + i
theorem run_loN (g o n c i : Nat) (hi : i ≤ n) (hc : n ≤ c) (w : World) :
    (Instr.slice 22 (.slice (some ⟨g, o, none⟩) n c) (some (.int .i64 (i : Int))) none none).run Try.prog w = .ok (.slice (some ⟨g, loN o i c, none⟩) (n - i) (c - i)) w := by
  rw [run_slice_l w _ _ _ _ elemN _ _ (by omega) (by omega), sizeN]
  unfold loN
  by_cases h : c = i
  · simp [Result.andThen, sliced, h]
  · simp [Result.andThen, sliced, h, Addr.add]
theorem ints_one (l : List Int) : ∀ u ∈ l.map (Value.int .i64), u.oneCell' = true := fun u hu => by
  obtain ⟨z, _, rfl⟩ := List.mem_map.1 hu
  rfl
theorem take_cells {W : World} {g o : Nat} {l : List Int} (h : IntsAt .i64 W g o l) (k : Nat) : ∀ j u, ((l.take k).map (Value.int .i64))[j]? = some u → W.cell? ((⟨g, o, none⟩ : Addr).add j) = some u := fun j u hu => by
  rw [Addr.add_lit]
  rw [List.getElem?_map] at hu
  obtain ⟨z, hz, rfl⟩ := Option.map_eq_some_iff.1 hu
  rw [List.getElem?_take] at hz
  split at hz
  · obtain ⟨hj, rfl⟩ := List.getElem?_eq_some_iff.1 hz
    exact h j hj
  · cases hz
theorem drop_cells {W : World} {g : Nat} {l : List Int} (h : IntsAt .i64 W g 0 l) (k c : Nat) (hc : l.length ≤ c) : ∀ j u, ((l.drop k).map (Value.int .i64))[j]? = some u → W.cell? ((⟨g, loN 0 k c, none⟩ : Addr).add j) = some u := fun j u hu => by
  rw [Addr.add_lit]
  rw [List.getElem?_map] at hu
  obtain ⟨z, hz, rfl⟩ := Option.map_eq_some_iff.1 hu
  rw [List.getElem?_drop] at hz
  obtain ⟨hj, rfl⟩ := List.getElem?_eq_some_iff.1 hz
  have := h (k + j) hj
  unfold loN
  rw [if_neg (by omega)]
  rwa [Nat.zero_add] at this ⊢
theorem least_bd {L : List Int} {s c : Int} (h : LeastIs L s c) (hb : ∀ x ∈ L, 0 ≤ x ∧ x ≤ 999) (h0 : 0 ≤ s ∧ s ≤ 999) : 0 ≤ c ∧ c ≤ 3000 := by
  rcases h with ⟨_, rfl⟩ | ⟨lo, hi, a1, a2, a3, rfl⟩
  · omega
  · have b1 := hb lo a1
    have b2 := hb hi a2
    have b3 := (a3 lo a1).2
    have := mn_cases (apart s lo) (apart s hi)
    have := apart_bd h0 b1
    have := apart_bd h0 b2
    omega
theorem l07Least_is (v : Value) (L : List Int) (s c : Int) (w : World) (hs : IntsOf .i64 w v L) (hb : ∀ x ∈ L, 0 ≤ x ∧ x ≤ 999) (h0 : 0 ≤ s ∧ s ≤ 999) (h60 : L.length ≤ 60) (hc : LeastIs L s c) :
    Calls Try.prog 35 #[v, .int .i64 s] w fun e w' => e = .returned (.int .i64 c) ∧ Below w.heap.size w w' :=
  (l07Least_any v L s w hs hb h0 h60).mono fun e w' h => by
    obtain ⟨c', rfl, h1, _, _, h2⟩ := h
    exact ⟨by rw [least_uniq hc h1], h2⟩
def erI (L : List Int) (i : Nat) : List Int := L.take i ++ L.drop (i + 1)
/-- With the stop at k a shortest walk goes on. -/
def ValidK (L : List Int) (s need : Int) (k : Nat) : Prop := ∃ h : k < L.length, ∃ c, LeastIs (erI L k) L[k] c ∧ apart s L[k] + c = need
/-- The best among the first i. -/
def BestK (L : List Int) (s need : Int) (i : Nat) (b : Int) : Prop :=
  (b = -1 ∧ ∀ k, k < i → ¬ ValidK L s need k) ∨ ∃ m : Nat, b = (m : Int) ∧ m < i ∧ ∃ h : m < L.length, ValidK L s need m ∧ ∀ k (hk : k < L.length), k < i → ValidK L s need k → L[m] ≤ L[k]
theorem BestK.no {L : List Int} {s need b : Int} {i : Nat} (h : BestK L s need i b) (hv : ¬ ValidK L s need i) : BestK L s need (i + 1) b := by
  rcases h with ⟨rfl, h⟩ | ⟨m, rfl, h1, h2, h3, h4⟩
  · exact .inl ⟨rfl, fun k hk => by
      by_cases e : k = i
      · subst e; exact hv
      · exact h k (by omega)⟩
  · exact .inr ⟨m, rfl, by omega, h2, h3, fun k hk hki hvk => by
      by_cases e : k = i
      · subst e; exact absurd hvk hv
      · exact h4 k hk (by omega) hvk⟩
theorem BestK.first {L : List Int} {s need : Int} {i : Nat} (h : BestK L s need i (-1)) (hi : i < L.length) (hv : ValidK L s need i) : BestK L s need (i + 1) (i : Int) := by
  rcases h with ⟨_, h⟩ | ⟨m, e, _⟩
  · exact .inr ⟨i, rfl, by omega, hi, hv, fun k hk hki hvk => by
      by_cases e : k = i
      · subst e; exact Int.le_refl _
      · exact absurd hvk (h k (by omega))⟩
  · omega
theorem BestK.less {L : List Int} {s need : Int} {i m : Nat} (h : BestK L s need i (m : Int)) (hi : i < L.length) (hm : m < L.length) (hv : ValidK L s need i) (hl : L[i] < L[m]) : BestK L s need (i + 1) (i : Int) := by
  rcases h with ⟨e, _⟩ | ⟨m', e, h1, h2, h3, h4⟩
  · omega
  · obtain rfl : m = m' := by omega
    exact .inr ⟨i, rfl, by omega, hi, hv, fun k hk hki hvk => by
      by_cases e : k = i
      · subst e; exact Int.le_refl _
      · have := h4 k hk (by omega) hvk
        omega⟩
theorem BestK.more {L : List Int} {s need : Int} {i m : Nat} (h : BestK L s need i (m : Int)) (hi : i < L.length) (hm : m < L.length) (hl : ¬ L[i] < L[m]) : BestK L s need (i + 1) (m : Int) := by
  rcases h with ⟨e, _⟩ | ⟨m', e, h1, h2, h3, h4⟩
  · omega
  · obtain rfl : m = m' := by omega
    exact .inr ⟨m, rfl, by omega, h2, h3, fun k hk hki hvk => by
      by_cases e : k = i
      · subst e; omega
      · exact h4 k hk (by omega) hvk⟩
theorem BestK.form {L : List Int} {s need b : Int} {i : Nat} (h : BestK L s need i b) : b = -1 ∨ ∃ m : Nat, b = (m : Int) ∧ m < i ∧ m < L.length := by
  rcases h with ⟨rfl, _⟩ | ⟨m, e, h1, h2, _⟩
  · exact .inl rfl
  · exact .inr ⟨m, e, h1, h2⟩
/-- At the end the best one is the next of the walk. -/
theorem best_end {L : List Int} {s need b v : Int} {W : List Int} (hp : L.Perm (v :: W)) (hw : StepOk (v :: W) s v) (hn : LeastIs L s need) (h : BestK L s need L.length b) : ∃ m : Nat, b = (m : Int) ∧ ∃ hm : m < L.length, L[m] = v ∧ (erI L m).Perm W := by
  have hs : StepOk L s v := step_congr (fun y => hp.mem_iff.symm) hw
  obtain ⟨k0, hk0, e0⟩ := List.getElem_of_mem hs.mem
  have vk : ValidK L s need k0 := by
    obtain ⟨c, hc⟩ := least_ex (L := erI L k0) L[k0]
    refine ⟨hk0, c, hc, ?_⟩
    have := hs.yes need (erI L k0) c hn (by rw [← e0]; exact rem_erase L k0 hk0) (by rw [← e0]; exact hc)
    rw [e0]; exact this
  rcases h with ⟨rfl, h⟩ | ⟨m, rfl, h1, h2, h3, h4⟩
  · exact absurd vk (h k0 hk0)
  · refine ⟨m, rfl, h2, ?_⟩
    have le := h4 k0 hk0 hk0 vk
    rw [e0] at le
    obtain ⟨_, c, hc, hcn⟩ := h3
    have ge := hs.min need L[m] (erI L m) c (List.getElem_mem h2) hn (rem_erase L m h2) hc hcn
    have ev : L[m] = v := by omega
    refine ⟨ev, ?_⟩
    have p1 : L.Perm (L[m] :: erI L m) := by
      unfold erI
      have e : L = L.take m ++ L[m] :: L.drop (m + 1) := by
        rw [← List.drop_eq_getElem_cons h2, List.take_append_drop]
      exact (List.Perm.of_eq e).trans List.perm_middle
    rw [ev] at p1
    exact (p1.symm.trans hp).cons_inv
/-- Where the walk stands. -/
def stI (a : Int) (W : List Int) : Nat → Int
  | 0 => a
  | j + 1 => W.getD j 0
theorem walk_at : ∀ {W : List Int} {a : Int} (j : Nat) (h : j < W.length), WalkOk W a → StepOk (W[j] :: W.drop (j + 1)) (stI a W j) W[j]
  | v :: W, a, 0, _, hw => hw.1
  | v :: W, a, 1, h, hw => walk_at (W := W) 0 (by simpa using h) hw.2
  | v :: W, a, j + 2, h, hw => by
    have := walk_at (W := W) (a := v) (j + 1) (by simp only [List.length_cons] at h; omega) hw.2
    simpa [stI] using this
def swR (zs : List Int) (a : Int) : List Int := if wkC zs a = 0 then walkI zs a else []
def swV (zs : List Int) (a : Int) : Int := if wkC zs a = 0 then farF a (walkI zs a) else 0
theorem swR_len (zs : List Int) (a : Int) : (swR zs a).length ≤ 60 := by
  unfold swR
  split
  · rename_i h
    rw [(walkI_perm zs a).length_eq]
    unfold wkC at h
    split at h
    · split at h
      · by_cases h3 : zs.length ≤ 60
        · exact h3
        · simp [h3] at h
      · cases h
    · cases h
  · simp

/-- A list of numbers in block g. -/
def LefP (W : World) (v : Value) (g : Nat) (l : List Int) : Prop := ∃ c, v = .slice (some ⟨g, 0, none⟩) l.length c ∧ g < W.heap.size ∧ l.length ≤ c ∧ IntsAt .i64 W g 0 l
theorem LefP.below {W W' : World} {v : Value} {g B : Nat} {l : List Int} (h : LefP W v g l) (hb : Below B W W') (hg : g < B) : LefP W' v g l := by
  obtain ⟨c, e, h1, h2, h3⟩ := h
  exact ⟨c, e, Nat.lt_of_lt_of_le h1 hb.size, h2, fun i hi => (hb.cell (p := ⟨g, 0 + i, none⟩) hg).trans (h3 i hi)⟩
theorem LefP.kept {W W' : World} {v : Value} {g : Nat} {l : List Int} {row : Option Nat} (h : LefP W v g l) (hg : W.grownBy W' row) (hne : some g ≠ row) : LefP W' v g l := by
  obtain ⟨c, e, h1, h2, h3⟩ := h
  exact ⟨c, e, Nat.lt_of_lt_of_le h1 hg.size, h2, fun i hi => hg.cell (h3 i hi) hne⟩
theorem LefP.of {W : World} {B g n c : Nat} {l : List Int} (h : W.ownsRow B 2 1 (.slice (some ⟨g, 0, none⟩) n c) n (l.map (Value.int .i64))) (hn : n = l.length) : B ≤ g ∧ LefP W (.slice (some ⟨g, 0, none⟩) n c) g l := by
  subst hn
  have hb := h.lt g rfl
  have ho := ownInts h
  refine ⟨hb.1, c, rfl, hb.2, ?_, fun i hi => ?_⟩
  · rcases h.2 with ⟨h, _⟩ | ⟨g', cap', cur, h, _, _, hc, _⟩
    · cases h
    · injection h with h1 h2 h3
      omega
  · obtain ⟨A, c', e, hf⟩ := ho
    obtain ⟨g', o', hA, _, hat⟩ := hf (by omega)
    injection e with q1 q2 q3
    rw [hA] at q1
    injection q1 with q1
    injection q1 with q1 q2
    subst q1 q2
    exact hat i hi
def lenV : Value → Nat
  | .slice _ n _ => n
  | _ => 0
theorem stI_bd {a : Int} {W zs : List Int} (hp : W.Perm zs) (ha : 0 ≤ a ∧ a ≤ 999) (hz : ∀ x ∈ zs, 0 ≤ x ∧ x ≤ 999) : ∀ j, j ≤ W.length → 0 ≤ stI a W j ∧ stI a W j ≤ 999
  | 0, _ => ha
  | j + 1, h => by
    have e : stI a W (j + 1) = W[j]'(by omega) := by simp [stI, List.getD_eq_getElem?_getD, List.getElem?_eq_getElem (show j < W.length by omega)]
    rw [e]
    exact hz _ (hp.mem_iff.1 (List.getElem_mem _))

set_option maxHeartbeats 16000000 in
theorem specShortestWalk_any (gz oz cz : Nat) (zs : List Int) (a : Int) (w : World) (hs : IntsOf .i64 w (.slice (some ⟨gz, oz, none⟩) zs.length cz) zs) (hn : zs.length ≤ maxLen) :
    Calls Try.prog 8 #[.slice (some ⟨gz, oz, none⟩) zs.length cz, .int .i64 a] w fun e w' => ∃ u, e = .returned (.tuple #[u, .int .i64 (swV zs a), .int .i64 (wkC zs a)]) ∧ w'.ownsRow w.heap.size 2 1 u (swR zs a).length ((swR zs a).map (Value.int .i64)) ∧ Below w.heap.size w w' := by
  have HS := Lib.hid hs
  obtain ⟨i0, hi0, hz0, hz1, hz2⟩ := info_parts infoIntS
  by_cases h : wkC zs a = 0
  · have EC := Lib.hid h
    have E1 := Lib.hid (show swV zs a = farF a (walkI zs a) by unfold swV; rw [if_pos h])
    have E2 := Lib.hid (show swR zs a = walkI zs a by unfold swR; rw [if_pos h])
    obtain ⟨ha, hz, h60⟩ : stopB a = true ∧ zs.all stopB = true ∧ zs.length ≤ 60 := by
      rcases wk_cases zs a with ⟨_, h1, _⟩ | ⟨_, _, h1, _⟩ | ⟨_, _, _, h1, _⟩ | ⟨h1, h2, h3, _⟩
      · omega
      · omega
      · omega
      · exact ⟨h1, h2, h3⟩
    have HA := Lib.hid (stopB_bd ha)
    have HZ := Lib.hid (show ∀ x ∈ zs, 0 ≤ x ∧ x ≤ 999 from fun x hx => stopB_bd (List.all_eq_true.1 hz x hx))
    have WP := Lib.hid (walkI_perm zs a)
    have WL := Lib.hid (show (walkI zs a).length = zs.length from (walkI_perm zs a).length_eq)
    have WO := Lib.hid (fun j (hj : j < (walkI zs a).length) => walk_at j hj (walkI_ok zs a))
    have LW := Lib.hid (fun c hc => walkI_least zs a c hc)
    have NC := Lib.hid (fun j u (hj : (zs.map (Value.int .i64))[j]? = some u) => (show w.cell? ((⟨gz, oz, none⟩ : Addr).add j) = some u ∧ gz < w.heap.size from by
      rw [List.getElem?_map] at hj
      obtain ⟨z, hz, rfl⟩ := Option.map_eq_some_iff.1 hj
      obtain ⟨hjl, rfl⟩ := List.getElem?_eq_some_iff.1 hz
      obtain ⟨A, c, e, hf⟩ := HS.out
      obtain ⟨g', o', hA, hg', hat⟩ := hf (by omega)
      injection e with q1 q2 q3
      rw [hA] at q1
      injection q1 with q1
      injection q1 with q1 q2
      subst q1 q2
      rw [Addr.add_lit]
      exact ⟨hat j hjl, hg'⟩))
    generalize walkI zs a = WW at E1 E2 WP WL WO LW
    clear h ha hz hs
    go_enter Try.func8, Try.ntmps8
    go_wp2_with fail
    refine (l07Walk_any _ zs a _ HS.out hn).mono ?_
    rintro e w1 ⟨rfl, rfl⟩
    rw [EC.out]
    go_wp2_with fail
    refine (l07Least_any _ zs a _ HS.out HZ.out HA.out h60).mono ?_
    rintro e w1 ⟨call, rfl, hcall, -, -, g1⟩
    have CALL := Lib.hid (show call = farF a WW from LW.out _ hcall)
    have B1 := Lib.hid g1
    have hle := g1.size
    have OE := Lib.hid (show (w1.alloc (.cells #[] 2)).ownsRow w1.heap.size 2 1 (.slice (some ⟨w1.heap.size, 0, none⟩) 0 0) 0 [] from ⟨rfl, .inr ⟨w1.heap.size, 0, #[], rfl, Nat.le_refl _, heap_alloc_new w1 _, Nat.le_refl _, Nat.zero_le _, rfl, rfl⟩⟩)
    have B1a := Lib.hid ((Below.refl w1.heap.size w1).alloc (Nat.le_refl _) (.cells #[] 2))
    clear hcall g1
    go_wp2_with (at_builtin; refine wpList_append_own _ rfl (.tmp 25) (.tmp 26) _ rfl w1.heap.size 2 i0 (.int .i64 0) 1 8 Try.underlying22 hi0 hz0 hz1 hz2 rfl (by decide) _ _ _ rfl OE.out ⟨gz, oz, none⟩ zs.length cz (zs.map (Value.int .i64)) rfl (by simp) ?c1a ?c2a ?c3a ?c4a ?c5a ?_)
    case c1a =>
      intro j u hj
      have := NC.out j u hj
      rw [Addr.add_lit] at this ⊢
      exact ((bnext B1.out B1a.out).cell (p := ⟨gz, oz + j, none⟩) this.2).trans this.1
    case c2a => exact ints_one _
    case c3a => (unfold maxLen; omega)
    case c4a => omega
    case c5a => (simp)
    intro v' w2 hown hgrow hnil
    obtain ⟨gl0, cl0, rfl⟩ : ∃ gl0 cl0, v' = .slice (some ⟨gl0, 0, none⟩) zs.length cl0 := by
      rcases hown.2 with ⟨e1, _⟩ | ⟨g, cap, cur, rfl, _⟩
      · exact absurd e1 hnil
      · exact ⟨g, cap, rfl⟩
    obtain ⟨lb0, lp0⟩ := LefP.of hown rfl
    have L0 := Lib.hid lp0
    have B2 := Lib.hid (show Below w1.heap.size w1 w2 from B1a.out.grown hgrow B1a.out.size (fun k hk => by first | (injection hk with hk; omega) | (simp [Value.ownBlock] at hk; omega)))
    have z2 := B2.out.size
    have LA := Lib.hid (LefP.below L0.out ((Below.refl w2.heap.size w2).alloc (Nat.le_refl _) (.cells #[] 2)) (by obtain ⟨_, _, h, _⟩ := L0.out; exact h))
    have OO := Lib.hid (show (w2.alloc (.cells #[] 2)).ownsRow w1.heap.size 2 1 (.slice (some ⟨w2.heap.size, 0, none⟩) 0 0) 0 ((WW.take 0).map (Value.int .i64)) from ⟨by simp, .inr ⟨w2.heap.size, 0, #[], rfl, z2, heap_alloc_new w2 _, Nat.le_refl _, Nat.zero_le _, by simp, by simp⟩⟩)
    have BA := Lib.hid (B2.out.alloc z2 (.cells #[] 2))
    have DJ := Lib.hid (show ∀ k, (Value.slice (some ⟨w2.heap.size, 0, none⟩) 0 0).ownBlock = some k → k ≠ gl0 from fun k hk => by
      obtain ⟨_, _, h, _⟩ := L0.out
      simp [Value.ownBlock] at hk
      omega)
    clear hown hgrow hnil lp0
    go_wp2
    go_loopw [1, 9, 10] (fun a_ l_ o_ wr => ∃ (j : Nat) (lv : List Int) (gl : Nat), j ≤ WW.length ∧ lv.Perm (WW.drop j) ∧ a_ = .int .i64 (stI a WW j) ∧ LefP wr l_ gl lv ∧ w1.heap.size ≤ gl ∧ wr.ownsRow w1.heap.size 2 1 o_ j ((WW.take j).map (Value.int .i64)) ∧ (∀ k, o_.ownBlock = some k → k ≠ gl) ∧ Below w1.heap.size w1 wr) (fun _ l_ _ _ => lenV l_)
    case atStart => exact ⟨0, zs, gl0, Nat.zero_le _, WP.out.symm, rfl, LA.out, lb0, OO.out, DJ.out, BA.out⟩
    case round =>
      obtain ⟨j, lv, gl, hj, hperm, rfl, hlef, hlg, hown, hdj, hb⟩ := hrel
      have PE := Lib.hid hperm
      have OW := Lib.hid hown
      have DJ := Lib.hid hdj
      have BB := Lib.hid hb
      have hbs := hb.size
      obtain ⟨cl, rfl, zgl, hcl, hat⟩ := hlef
      have HL := Lib.hid hat
      have hlen : lv.length = WW.length - j := by rw [PE.out.length_eq, List.length_drop]
      have n60 : lv.length ≤ 60 := by have := WL.out; omega
      obtain ⟨s, hs⟩ : ∃ s, stI a WW j = s := ⟨_, rfl⟩
      have sb := Lib.hid (show 0 ≤ s ∧ s ≤ 999 by rw [← hs]; exact stI_bd WP.out HA.out HZ.out j hj)
      have HSJ := Lib.hid hs
      rw [hs]
      clear hperm hown hdj hb hat hs
      have HLEN := Lib.hid hlen
      clear hlen
      by_cases h0 : lv.length = 0
      · have hjl : j = WW.length := by have := HLEN.out; omega
        obtain ⟨Ao, co, rfl⟩ := vlen_own1 OW.out
        have OF := Lib.hid (show wr.ownsRow w.heap.size 2 1 (.slice Ao j co) (swR zs a).length ((swR zs a).map (Value.int .i64)) by
          have := ownsMono OW.out hle
          rw [hjl, List.take_length] at this
          rw [E2.out, ← hjl]
          rw [← hjl] at this
          exact this)
        have hn0 : ((lv.length : Nat) : Int) = 0 := by omega
        have BF := Lib.hid (B1.out.trans (BB.out.mono hle))
        clear h0 hjl
        go_wp2
        refine bodyPost_ret (v := .tuple #[.slice Ao j co, .int .i64 call, .int .i64 0]) (by simp [results, Try.results8, go_sem]) rfl ?_
        exact ⟨_, by rw [E1.out, ← CALL.out, EC.out], OF.out, BF.out⟩
      · have hjl : j < WW.length := by have := HLEN.out; omega
        have ZL := Lib.hid (show ∀ x ∈ lv, 0 ≤ x ∧ x ≤ 999 from fun x hx => HZ.out x (WP.out.mem_iff.1 (List.mem_of_mem_drop (PE.out.mem_iff.1 hx))))
        have PV := Lib.hid (show lv.Perm (WW[j] :: WW.drop (j + 1)) by rw [← List.drop_eq_getElem_cons hjl]; exact PE.out)
        have SV := Lib.hid (show StepOk (WW[j] :: WW.drop (j + 1)) s WW[j] by rw [← HSJ.out]; exact WO.out j hjl)
        have TK := Lib.hid (show WW.take (j + 1) = WW.take j ++ [WW[j]] from by rw [List.take_succ_eq_append_getElem hjl])
        have NX := Lib.hid (show stI a WW (j + 1) = WW[j] by simp [stI, List.getD_eq_getElem?_getD, List.getElem?_eq_getElem hjl])
        obtain ⟨need, hneed⟩ := least_ex (L := lv) s
        have ND := Lib.hid hneed
        have nb := least_bd hneed ZL.out sb.out
        generalize WW[j] = v at PV SV TK NX
        have hn0 : (0 : Int) < (lv.length : Int) := by omega
        have hgl2 : lv.length ≤ cl := hcl
        obtain ⟨wo, rfl⟩ : ∃ wo : World, wo = wr := ⟨_, rfl⟩
        clear hneed
        go_wp2_with fail
        refine (l07Least_is _ lv s need _ ⟨_, _, rfl, fun _ => ⟨gl, 0, rfl, zgl, HL.out⟩⟩ ZL.out sb.out n60 ND.out).mono ?_
        rintro e w3 ⟨rfl, g3⟩
        have G30 := Lib.hid g3
        have I0 := Lib.hid (show BestK lv s need 0 (-1) from .inl ⟨rfl, fun k hk => absurd hk (Nat.not_lt_zero _)⟩)
        clear g3 h0
        go_wp2
        go_loopw [11, 13] (fun b_ i_ wq => ∃ (i : Nat) (b : Int), i ≤ lv.length ∧ i_ = .int .i64 (i : Int) ∧ b_ = .int .i64 b ∧ BestK lv s need i b ∧ Below wo.heap.size wo wq) (fun _ i_ _ => lv.length - (intOf i_).toNat)
        case atStart => exact ⟨0, -1, Nat.zero_le _, rfl, rfl, I0.out, G30.out⟩
        case round =>
          obtain ⟨i, b, hi, rfl, rfl, hbest, hbq⟩ := hrel
          have BK := Lib.hid hbest
          have BQ := Lib.hid hbq
          have HLo := Lib.hid HL.out
          have HL := Lib.hid (show IntsAt .i64 wr gl 0 lv from fun k hk => (hbq.cell (p := ⟨gl, 0 + k, none⟩) zgl).trans (HL.out k hk))
          have zglo := zgl
          have zgl : gl < wr.heap.size := Nat.lt_of_lt_of_le zgl hbq.size
          clear hbest hbq
          by_cases hil : i < lv.length
          · have LT := Lib.hid (show ((lv.take i).map (Value.int .i64)).length = i * 1 by rw [List.length_map, List.length_take]; omega)
            have LD := Lib.hid (show ((lv.drop (i + 1)).map (Value.int .i64)).length = (lv.length - (i + 1)) * 1 by rw [List.length_map, List.length_drop]; omega)
            obtain ⟨nr, hnr⟩ : ∃ nr, i + (lv.length - (i + 1)) = nr := ⟨_, rfl⟩
            have NR := Lib.hid hnr
            have ER := Lib.hid (show (erI lv i).length = nr by unfold erI; rw [List.length_append, List.length_take, List.length_drop]; omega)
            clear hnr
            go_wp2
            have G1 := Lib.hid (show Below wr.heap.size wr (wr.alloc (.cells #[] 2)).drew from ((Below.refl _ _).alloc (Nat.le_refl _) _).drew)
            have O1 := Lib.hid (show (wr.alloc (.cells #[] 2)).drew.ownsRow wr.heap.size 2 1 (.slice (some ⟨wr.heap.size, 0, none⟩) 0 0) 0 [] from own_emptyI wr _ (Nat.le_refl _))
            have C1 := Lib.hid (take_cells (HL.out.below G1.out zgl) i)
            have z1 : wr.heap.size ≤ (wr.alloc (.cells #[] 2)).drew.heap.size := G1.out.size
            have s1 := fun W => run_hiN (some ⟨gl, 0, none⟩) lv.length cl i (by omega) W
            obtain ⟨q, hq⟩ : ∃ q : Nat, q = i + 1 := ⟨_, rfl⟩
            have wq1 : IntKind.i64.wrap (q : Int) = (q : Int) := IntWalk.i64_in _ (by omega)
            have wq2 : (i : Int) + 1 = (q : Int) := by omega
            have s2 := fun W => run_loN gl 0 lv.length cl q (by omega) (by omega) W
            have LDq := Lib.hid (show ((lv.drop q).map (Value.int .i64)).length = (lv.length - q) * 1 by rw [hq]; exact LD.out)
            have NRq := Lib.hid (show i + (lv.length - q) = nr by rw [hq]; exact NR.out)
            have HQ := Lib.hid hq
            have hqn : q ≤ lv.length := by omega
            clear hq
            go_region_law (first
              | (refine step_append_someI _ (by rfl) (.tmp 41) (.tmp 44) _ (by rfl) wr.heap.size 2 i0 (.int .i64 0) 1 8 Try.underlying22 hi0 hz0 hz1 hz2 rfl (by decide) wr.heap.size 0 0 [] (by rfl) O1.out ⟨gl, 0, none⟩ i cl ((lv.take i).map (Value.int .i64)) (by rfl) LT.out C1.out (ints_one _) (by unfold maxLen; omega) (by omega) z1 ?_
                 intro g2 n2 W2 ho2 hk2
                 have G2 := Lib.hid (G1.out.grown hk2 G1.out.size (fun k hk => by injection hk with hk; omega))
                 have C2 := Lib.hid (drop_cells (HL.out.below G2.out zgl) q cl (by omega))
                 have z2 := G2.out.size
                 have O2 := Lib.hid (show W2.ownsRow wr.heap.size 2 1 (.slice (some ⟨g2, 0, none⟩) i n2) i ((lv.take i).map (Value.int .i64)) by simpa using ho2)
                 clear ho2)
              | (refine step_append_someI _ (by rfl) (.tmp 45) (.tmp 49) _ (by rfl) wr.heap.size 2 i0 (.int .i64 0) 1 8 Try.underlying22 hi0 hz0 hz1 hz2 rfl (by decide) g2 n2 i ((lv.take i).map (Value.int .i64)) (by rfl) O2.out ⟨gl, loN 0 q cl, none⟩ (lv.length - q) (cl - q) ((lv.drop q).map (Value.int .i64)) (by rfl) LDq.out C2.out (ints_one _) (by unfold maxLen; omega) (by omega) z2 ?_
                 intro g3 n3 W3 ho3 hk3
                 have G3 := Lib.hid (G2.out.grown hk3 G2.out.size (fun k hk => (O2.out.lt k hk).1))
                 rw [NRq.out] at ho3 ⊢
                 rw [← List.map_append, HQ.out] at ho3
                 have O3 := Lib.hid ho3
                 clear ho3 hk3))
            clear O1 C1 O2 C2 z1 z2 G1 G2 hk2 s1 s2 wq1 wq2 LDq NRq hqn
            have G3H := Lib.hid (bnext BQ.out G3.out)
            have hx0 := (G3.out.cell (p := ⟨gl, 0 + i, none⟩) zgl).trans (HL.out i hil)
            rw [Nat.zero_add] at hx0
            have zg3 : gl < W3.heap.size := Nat.lt_of_lt_of_le zgl G3.out.size
            obtain ⟨c, hc⟩ := least_ex (L := erI lv i) lv[i]
            have xb := ZL.out lv[i] (List.getElem_mem hil)
            have EB := Lib.hid (show ∀ y ∈ erI lv i, 0 ≤ y ∧ y ≤ 999 from fun y hy => ZL.out y ((rem_erase lv i hil).1 y hy))
            have cb := least_bd hc EB.out xb
            have HC := Lib.hid hc
            have ab := apart_bd sb.out xb
            have VY := Lib.hid (show apart s lv[i] + c = need → ValidK lv s need i from fun h => ⟨hil, c, hc, h⟩)
            have VN := Lib.hid (show apart s lv[i] + c ≠ need → ¬ ValidK lv s need i from fun h hv => by
              obtain ⟨_, c', h1, h2⟩ := hv
              rw [least_uniq h1 HC.out] at h2
              exact h h2)
            clear hc
            have RI := Lib.hid (show IntsOf .i64 W3 (.slice (some ⟨g3, 0, none⟩) nr n3) (erI lv i) by
              have h := ownInts (l := erI lv i) (show W3.ownsRow wr.heap.size 2 1 (.slice (some ⟨g3, 0, none⟩) nr n3) (erI lv i).length ((erI lv i).map (Value.int .i64)) by rw [ER.out]; exact O3.out)
              exact h)
            have BI := Lib.hid hil
            have FI := Lib.hid (fun m (hm : m < lv.length) => (show BestK lv s need i (m : Int) → ValidK lv s need i → lv[i] < lv[m] → BestK lv s need (i + 1) (i : Int) from fun h1 h2 h3 => h1.less hil hm h2 h3))
            have FM := Lib.hid (fun m (hm : m < lv.length) => (show BestK lv s need i (m : Int) → ¬ lv[i] < lv[m] → BestK lv s need (i + 1) (m : Int) from fun h1 h3 => h1.more hil hm h3))
            have FF := Lib.hid (show BestK lv s need i (-1) → ValidK lv s need i → BestK lv s need (i + 1) (i : Int) from fun h1 h2 => h1.first hil h2)
            have ME := Lib.hid (fun m (hm : m < lv.length) => (by have h := (G3.out.cell (p := ⟨gl, 0 + m, none⟩) zgl).trans (HL.out m hm); rw [Nat.zero_add] at h; exact h : W3.cell? ⟨gl, m, none⟩ = some (.int .i64 lv[m])))
            generalize lv[i] = x at hx0 xb ab VY VN HC FI FM
            have AP := Lib.hid (fun W => (l07Apart_any s x sb.out xb W).mono (fun e w' h => (show e = .returned (.int .i64 (apart s x)) ∧ Below W.heap.size W w' from ⟨h.1, h.2 ▸ Below.refl _ _⟩)))
            have CL := Lib.hid (fun (p : BelowBy W3) => l07Least_is _ (erI lv i) x c p.W (RI.out.below p.h) EB.out xb (by rw [ER.out]; have := NR.out; omega) HC.out)
            have nw : IntKind.i64.wrap (apart s x + c) = apart s x + c := IntWalk.i64_in _ (by omega)
            have px := belowBy_cell zg3 hx0
            clear hx0 O3 LT LD
            generalize apart s x = ap at *
            by_cases hv : ap + c = need
            · have d1 : (ap + c == need) = true := by rw [beq_iff_eq]; exact hv
              have VV := Lib.hid (VY.out hv)
              clear hv
              rcases BK.out.form with hb1 | ⟨m, hb1, hm1, hm2⟩
              · subst hb1
                go_wp2
                refine wp_region_below (by kernel_rfl) (by kernel_rfl) ?_
                iterate 30 (first | go_big_quiet_step ((first | (go_at_call 36; with_reducible exact calls_below (AP.out _)) | (go_at_call 35; with_reducible exact calls_below (CL.out _)))) | quiet_step ((first | (go_at_call 36; with_reducible exact calls_below (AP.out _)) | (go_at_call 35; with_reducible exact calls_below (CL.out _)))))
                refine wpQuiet_nil ?_
                rintro w9 ⟨⟨_, hq9⟩, rfl⟩
                have Q9 := Lib.hid hq9
                clear hq9 px
                have FB := Lib.hid (FF.out BK.out VV.out)
                go_wp2
                go_roundw
                case rel => exact ⟨i + 1, (i : Int), by omega, by go_num, rfl, FB.out, bnext G3H.out Q9.out⟩
                case measure => simp [intOf]; omega
              · subst hb1
                have pm0 := ME.out m hm2
                have e1 : ¬ ((m : Int) < 0) := by omega
                have e2 : decide ((m : Int) < 0) = false := decide_eq_false e1
                by_cases hl : x < lv[m]
                · have FB := Lib.hid (FI.out m hm2 BK.out VV.out hl)
                  generalize lv[m] = y at pm0 hl
                  have pm := belowBy_cell zg3 pm0
                  have e3 : decide (x < y) = true := decide_eq_true hl
                  clear pm0
                  go_wp2
                  refine wp_region_below (by kernel_rfl) (by kernel_rfl) ?_
                  iterate 30 (first | go_big_quiet_step ((first | (go_at_call 36; with_reducible exact calls_below (AP.out _)) | (go_at_call 35; with_reducible exact calls_below (CL.out _)))) | quiet_step ((first | (go_at_call 36; with_reducible exact calls_below (AP.out _)) | (go_at_call 35; with_reducible exact calls_below (CL.out _)))))
                  refine wpQuiet_nil ?_
                  rintro w9 ⟨⟨_, hq9⟩, rfl⟩
                  have Q9 := Lib.hid hq9
                  clear hq9 px pm e1 e2 e3 hl
                  go_wp2
                  go_roundw
                  case rel => exact ⟨i + 1, (i : Int), by omega, by go_num, rfl, FB.out, bnext G3H.out Q9.out⟩
                  case measure => simp [intOf]; omega
                · have FB := Lib.hid (FM.out m hm2 BK.out hl)
                  generalize lv[m] = y at pm0 hl
                  have pm := belowBy_cell zg3 pm0
                  have e3 : decide (x < y) = false := decide_eq_false hl
                  clear pm0
                  go_wp2
                  refine wp_region_below (by kernel_rfl) (by kernel_rfl) ?_
                  iterate 30 (first | go_big_quiet_step ((first | (go_at_call 36; with_reducible exact calls_below (AP.out _)) | (go_at_call 35; with_reducible exact calls_below (CL.out _)))) | quiet_step ((first | (go_at_call 36; with_reducible exact calls_below (AP.out _)) | (go_at_call 35; with_reducible exact calls_below (CL.out _)))))
                  refine wpQuiet_nil ?_
                  rintro w9 ⟨⟨_, hq9⟩, rfl⟩
                  have Q9 := Lib.hid hq9
                  clear hq9 px pm e1 e2 e3 hl
                  go_wp2
                  go_roundw
                  case rel => exact ⟨i + 1, (m : Int), by omega, by go_num, rfl, FB.out, bnext G3H.out Q9.out⟩
                  case measure => simp [intOf]; omega
            · have d1 : (ap + c == need) = false := by rw [beq_eq_false_iff_ne]; exact hv
              have FB := Lib.hid (BK.out.no (VN.out hv))
              clear hv
              go_wp2
              refine wp_region_below (by kernel_rfl) (by kernel_rfl) ?_
              iterate 30 (first | go_big_quiet_step ((first | (go_at_call 36; with_reducible exact calls_below (AP.out _)) | (go_at_call 35; with_reducible exact calls_below (CL.out _)))) | quiet_step ((first | (go_at_call 36; with_reducible exact calls_below (AP.out _)) | (go_at_call 35; with_reducible exact calls_below (CL.out _)))))
              refine wpQuiet_nil ?_
              rintro w9 ⟨⟨_, hq9⟩, rfl⟩
              have Q9 := Lib.hid hq9
              clear hq9 px
              go_wp2
              go_roundw
              case rel => exact ⟨i + 1, b, by omega, by go_num, rfl, FB.out, bnext G3H.out Q9.out⟩
              case measure => simp [intOf]; omega
          · obtain rfl : i = lv.length := by omega
            obtain ⟨m, rfl, hm, hmv, hmp⟩ := best_end PV.out SV.out ND.out BK.out
            have MP := Lib.hid hmp
            have pm := HL.out m hm
            rw [Nat.zero_add, hmv] at pm
            have OW3 := Lib.hid (ownBelow OW.out BQ.out)
            have B3 := Lib.hid (show Below w1.heap.size w1 wr from BB.out.trans (BQ.out.mono hbs))
            have z3 := B3.out.size
            have jl : j ≤ 60 := by have := WL.out; omega
            have HLa := Lib.hid (show IntsAt .i64 (wr.alloc (.cells #[.int .i64 v] 2)) gl 0 lv from fun k hk => (((Below.refl wr.heap.size wr).alloc (Nat.le_refl _) _).cell (p := ⟨gl, 0 + k, none⟩) zgl).trans (HL.out k hk))
            have Ba := Lib.hid (B3.out.alloc z3 (.cells #[.int .i64 v] 2))
            clear hmv hmp
            go_wp2_with (at_builtin; refine wpList_append_lies _ rfl (.tmp 86) (.tmp 88) _ rfl w1.heap.size 2 i0 (.int .i64 0) 1 8 Try.underlying22 hi0 hz0 hz1 hz2 rfl (by decide) _ _ _ rfl (OW3.out.alloc _) ⟨wr.heap.size, 0, none⟩ 1 1 [.int .i64 v] rfl rfl (cell_one_new _ _ _) (fun u hu => by simp at hu; subst hu; rfl) (by decide) (by unfold maxLen; omega) (by omega) (by simp; omega) _ rfl ?_)
            intro go cap w5 ho5 hg5 hlie hgo
            have OW5 := Lib.hid (show w5.ownsRow w1.heap.size 2 1 (.slice (some ⟨go, 0, none⟩) (j + 1) cap) (j + 1) ((WW.take (j + 1)).map (Value.int .i64)) by rw [TK.out, List.map_append]; simpa using ho5)
            have zgl0 := zgl
            have hsza : (wr.alloc (.cells #[.int .i64 v] 2)).heap.size = wr.heap.size + 1 := by simp
            have HL := Lib.hid (show IntsAt .i64 w5 gl 0 lv from fun k hk => hg5.cell (HLa.out k hk) (fun e => DJ.out gl e.symm rfl))
            have B5 := Lib.hid (show Below w1.heap.size w1 w5 from Ba.out.grown hg5 Ba.out.size (fun k hk => (OW3.out.lt k hk).1))
            have zgl : gl < w5.heap.size := by have := hg5.size; omega
            have LT := Lib.hid (show ((lv.take m).map (Value.int .i64)).length = m * 1 by rw [List.length_map, List.length_take]; omega)
            have LD := Lib.hid (show ((lv.drop (m + 1)).map (Value.int .i64)).length = (lv.length - (m + 1)) * 1 by rw [List.length_map, List.length_drop]; omega)
            obtain ⟨nr, hnr⟩ : ∃ nr, m + (lv.length - (m + 1)) = nr := ⟨_, rfl⟩
            have NR := Lib.hid hnr
            have nlt : nr < lv.length := by omega
            have ER := Lib.hid (show nr = (erI lv m).length by unfold erI; rw [List.length_append, List.length_take, List.length_drop]; omega)
            have z5 := B5.out.size
            clear hnr ho5 hg5 hlie pm hsza
            go_wp2
            have G1 := Lib.hid (show Below w5.heap.size w5 (w5.alloc (.cells #[] 2)).drew from ((Below.refl _ _).alloc (Nat.le_refl _) _).drew)
            have O1 := Lib.hid (show (w5.alloc (.cells #[] 2)).drew.ownsRow w5.heap.size 2 1 (.slice (some ⟨w5.heap.size, 0, none⟩) 0 0) 0 [] from own_emptyI w5 _ (Nat.le_refl _))
            have C1 := Lib.hid (take_cells (HL.out.below G1.out zgl) m)
            have z1 : w5.heap.size ≤ (w5.alloc (.cells #[] 2)).drew.heap.size := G1.out.size
            have s1 := fun W => run_hiN (some ⟨gl, 0, none⟩) lv.length cl m (by omega) W
            obtain ⟨q, hq⟩ : ∃ q : Nat, q = m + 1 := ⟨_, rfl⟩
            have wq1 : IntKind.i64.wrap (q : Int) = (q : Int) := IntWalk.i64_in _ (by omega)
            have wq2 : (m : Int) + 1 = (q : Int) := by omega
            have s2 := fun W => run_loN gl 0 lv.length cl q (by omega) (by omega) W
            have LDq := Lib.hid (show ((lv.drop q).map (Value.int .i64)).length = (lv.length - q) * 1 by rw [hq]; exact LD.out)
            have NRq := Lib.hid (show m + (lv.length - q) = nr by rw [hq]; exact NR.out)
            have HQ := Lib.hid hq
            have hqn : q ≤ lv.length := by omega
            clear hq
            go_region_law (first
              | (refine step_append_someI _ (by rfl) (.tmp 90) (.tmp 93) _ (by rfl) w5.heap.size 2 i0 (.int .i64 0) 1 8 Try.underlying22 hi0 hz0 hz1 hz2 rfl (by decide) w5.heap.size 0 0 [] (by rfl) O1.out ⟨gl, 0, none⟩ m cl ((lv.take m).map (Value.int .i64)) (by rfl) LT.out C1.out (ints_one _) (by unfold maxLen; omega) (by omega) z1 ?_
                 intro g2 n2 W2 ho2 hk2
                 have G2 := Lib.hid (G1.out.grown hk2 G1.out.size (fun k hk => by injection hk with hk; omega))
                 have C2 := Lib.hid (drop_cells (HL.out.below G2.out zgl) q cl (by omega))
                 have z2 := G2.out.size
                 have O2 := Lib.hid (show W2.ownsRow w5.heap.size 2 1 (.slice (some ⟨g2, 0, none⟩) m n2) m ((lv.take m).map (Value.int .i64)) by simpa using ho2)
                 clear ho2)
              | (refine step_append_someI _ (by rfl) (.tmp 94) (.tmp 98) _ (by rfl) w5.heap.size 2 i0 (.int .i64 0) 1 8 Try.underlying22 hi0 hz0 hz1 hz2 rfl (by decide) g2 n2 m ((lv.take m).map (Value.int .i64)) (by rfl) O2.out ⟨gl, loN 0 q cl, none⟩ (lv.length - q) (cl - q) ((lv.drop q).map (Value.int .i64)) (by rfl) LDq.out C2.out (ints_one _) (by unfold maxLen; omega) (by omega) z2 ?_
                 intro g3 n3 W3 ho3 hk3
                 have G3 := Lib.hid (G2.out.grown hk3 G2.out.size (fun k hk => (O2.out.lt k hk).1))
                 rw [NRq.out] at ho3 ⊢
                 rw [← List.map_append, HQ.out] at ho3
                 have O3 := Lib.hid ho3
                 clear ho3 hk3))
            clear O1 C1 O2 C2 z1 z2 G1 G2 hk2 s1 s2 wq1 wq2 LDq NRq hqn
            obtain ⟨lbn, lpn⟩ := LefP.of (l := erI lv m) O3.out ER.out
            have LPN := Lib.hid lpn
            have DJN := Lib.hid (show ∀ k, (Value.slice (some ⟨go, 0, none⟩) (j + 1) cap).ownBlock = some k → k ≠ g3 from fun k hk => by
              simp [Value.ownBlock] at hk
              omega)
            have OWN := Lib.hid (ownBelow OW5.out G3.out)
            have BN := Lib.hid (B5.out.trans (G3.out.mono z5))
            clear lpn LT LD
            go_simp
            go_wp2
            go_roundw
            case rel => exact ⟨j + 1, erI lv m, g3, by omega, MP.out, by rw [NX.out], LPN.out, by omega, OWN.out, DJN.out, BN.out⟩
            case measure => simp [lenV]; omega
  · have EV := Lib.hid (show swV zs a = 0 by unfold swV; rw [if_neg h])
    have EL := Lib.hid (show swR zs a = [] by unfold swR; rw [if_neg h])
    have d1 : (wkC zs a != 0) = true := by rw [bne_iff_ne]; exact h
    clear h hs
    generalize hcc : wkC zs a = cc at d1
    have HCC := Lib.hid hcc
    clear hcc
    go_enter Try.func8, Try.ntmps8
    go_wp2_with fail
    refine (l07Walk_any _ zs a _ HS.out hn).mono ?_
    rintro e w1 ⟨rfl, rfl⟩
    rw [HCC.out]
    have OE := Lib.hid (show (w.alloc (.cells #[] 2)).ownsRow w.heap.size 2 1 (.slice (some ⟨w.heap.size, 0, none⟩) 0 0) 0 [] from ⟨rfl, .inr ⟨w.heap.size, 0, #[], rfl, Nat.le_refl _, heap_alloc_new w _, Nat.le_refl _, Nat.zero_le _, rfl, rfl⟩⟩)
    go_wp2
    refine bodyPost_ret (v := .tuple #[.slice (some ⟨w.heap.size, 0, none⟩) 0 0, .int .i64 0, .int .i64 cc]) (by simp [results, Try.results8, go_sem]) rfl ?_
    exact ⟨_, by rw [EV.out], by rw [EL.out]; exact OE.out, (Below.refl _ _).alloc (Nat.le_refl _) _⟩
end Go.Proofs.Ytpamflkefgpdpaa
