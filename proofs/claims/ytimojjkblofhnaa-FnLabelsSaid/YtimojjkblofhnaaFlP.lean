/- FnLabels, pure: a label says what its book is; a changed digit makes it none; what is near differs in one byte. No condition. -/
import Derived.Test.YtimojjkblofhnaaNlN
import Derived.Test.YtimojjkblofhnaaLabZ
namespace Go.Proofs.Ytimojjkblofhnaa
set_option linter.unusedSimpArgs false
set_option linter.unusedVariables false
set_option maxRecDepth 100000
open Go.RowKit

theorem list9 {α : Type} {l : List α} (h : l.length = 9) : ∃ a b c d e f g i j, l = [a, b, c, d, e, f, g, i, j] := by
  match l, h with
  | [a, b, c, d, e, f, g, i, j], _ => exact ⟨a, b, c, d, e, f, g, i, j, rfl⟩
/-- A label's bytes. -/
def labT (b : Bk) : List UInt8 := bytesOf (labL b)
theorem labS_tB (b : Bk) : labS b = tB (labT b) := rfl
theorem labT_len (b : Bk) : (labT b).length = 9 := by simp [labT, bytesOf, labL, lab8]
theorem labL_bd2 {b : Bk} (h : bookB b = true) : ∀ z ∈ labL b, 0 ≤ z ∧ z ≤ 255 := by
  have hb := bookB_bd h
  intro z hz
  have h1 := dgI_bd
  have h2 := chk_bd (lab8 b)
  simp only [labL, lab8, List.mem_append, List.mem_cons, List.not_mem_nil, or_false] at hz
  rcases hz with (rfl | rfl | rfl | rfl | rfl | rfl | rfl | rfl) | rfl
  · have := h1 (b.c / 100); omega
  · have := h1 (b.c / 10); omega
  · have := h1 b.c; omega
  · omega
  · omega
  · omega
  · have := h1 (b.v / 10); omega
  · have := h1 b.v; omega
  · simp only [lab8] at h2; omega
theorem zl_lab {b : Bk} (h : bookB b = true) : zl (tB (labT b)) = labL b := zl_bytes (labL_bd2 h)
theorem chk8 (a b c d e f g i : Int) : chk [a, b, c, d, e, f, g, i] = 48 + (valB a + 3 * valB b + 7 * valB c + 9 * valB d + valB e + 3 * valB f + 7 * valB g + 9 * valB i) % 10 := by
  have es : sumF [a, b, c, d, e, f, g, i] 8 = valB a + 3 * valB b + 7 * valB c + 9 * valB d + valB e + 3 * valB f + 7 * valB g + 9 * valB i := by
    simp only [sumF, facW, List.getD_cons_zero, List.getD_cons_succ]
    omega
  show 48 + sumF [a, b, c, d, e, f, g, i] 8 % 10 = _
  rw [es]
theorem isB_lab {b : Bk} (h : bookB b = true) : isB (tB (labT b)) = true := by
  have hb := bookB_bd h
  unfold isB
  rw [zl_lab h, tB_size, labT_len]
  have h1 := dgI_bd
  have d0 := h1 (b.c / 100)
  have d1 := h1 (b.c / 10)
  have d2 := h1 b.c
  have d6 := h1 (b.v / 10)
  have d7 := h1 b.v
  have d8 := chk_bd (lab8 b)
  have hn : ¬ (dgI (b.v / 10) = 48 ∧ dgI b.v = 48) := by unfold dgI; omega
  have e8 : (labL b).take 8 = lab8 b := by simp [labL, lab8]
  rw [e8]
  simp only [labL, lab8, isL, digZ, letZ, List.cons_append, List.nil_append, List.getD_cons_zero, List.getD_cons_succ, Bool.and_eq_true, decide_eq_true_eq, Bool.not_eq_true', decide_eq_false_iff_not]
  have e9 : chk (lab8 b) = chk [dgI (b.c / 100), dgI (b.c / 10), dgI b.c, b.m0, b.m1, b.m2, dgI (b.v / 10), dgI b.v] := rfl
  rw [← e9]
  exact ⟨⟨⟨by trivial, ⟨⟨⟨⟨⟨⟨⟨⟨d0, d1⟩, d2⟩, hb.2.2.1⟩, hb.2.2.2.1⟩, hb.2.2.2.2.1⟩, d6⟩, d7⟩, d8⟩⟩, hn⟩, by trivial⟩
theorem rd_lab {b : Bk} (h : bookB b = true) : rdC (tB (labT b)) = b.c ∧ rdV (tB (labT b)) = b.v ∧ rdE (tB (labT b)) = 0 ∧ rdM (tB (labT b)) = tB (bytesOf [b.m0, b.m1, b.m2]) := by
  have hb := bookB_bd h
  have hi := isB_lab h
  obtain ⟨h1, h2⟩ := rd_num hi
  unfold rdC rdV rdE rdM
  rw [hi]
  rw [zl_lab h] at h1 h2
  refine ⟨?_, ?_, rfl, ?_⟩
  · show (bkT (tB (labT b))).c = b.c
    rw [h1]
    simp only [labL, lab8, List.cons_append, List.nil_append, List.getD_cons_zero, List.getD_cons_succ, dgI]
    omega
  · show (bkT (tB (labT b))).v = b.v
    rw [h2]
    simp only [labL, lab8, List.cons_append, List.nil_append, List.getD_cons_zero, List.getD_cons_succ, dgI]
    omega
  · show (tB (labT b)).extract 3 6 = _
    rw [tB_extract]
    rfl
/-- The places of digits. -/
def digA : List Nat := [0, 1, 2, 6, 7, 8]
set_option maxHeartbeats 4000000 in
/-- A label with another digit is none. -/
theorem isB_set {b : Bk} (h : bookB b = true) {i : Nat} (hi : i ∈ digA) {x : UInt8} (hx : 48 ≤ x.toNat ∧ x.toNat ≤ 57) (hne : ∀ hl : i < (labT b).length, x ≠ (labT b)[i]) : isB (tB ((labT b).set i x)) = false := by
  have h0 := isB_lab h
  have hl := labT_len b
  generalize labT b = T at *
  obtain ⟨a, c, d, e, f, g, k, m, n, rfl⟩ := list9 hl
  have hne := hne (by simp only [digA, List.mem_cons, List.not_mem_nil, or_false] at hi; simp; omega)
  apply Bool.eq_false_iff.2
  intro h1
  unfold isB at h0 h1
  simp only [Bool.and_eq_true, decide_eq_true_eq, isL, digZ] at h0 h1
  obtain ⟨⟨⟨_, h2⟩, _⟩, h3⟩ := h0
  obtain ⟨⟨⟨_, g2⟩, _⟩, g3⟩ := h1
  have hz : ∀ l : List UInt8, zl (tB l) = l.map fun u => (u.toNat : Int) := fun l => by unfold zl tB; simp
  rw [hz] at h2 h3 g2 g3
  have hxn : ∀ y : UInt8, x ≠ y → (x.toNat : Int) ≠ (y.toNat : Int) := fun y hy e => hy (UInt8.toNat_inj.1 (by omega))
  have V : ∀ z : Int, 48 ≤ z ∧ z ≤ 57 → valB z = z - 48 := fun z hz => by unfold valB; rw [if_neg (by omega)]; omega
  have hx2 : (48 : Int) ≤ x.toNat ∧ (x.toNat : Int) ≤ 57 := by omega
  simp only [digA, List.mem_cons, List.not_mem_nil, or_false] at hi
  rcases hi with rfl | rfl | rfl | rfl | rfl | rfl
  all_goals
    simp only [List.set_cons_zero, List.set_cons_succ, List.map_cons, List.map_nil, List.getD_cons_zero, List.getD_cons_succ, List.take_succ_cons, List.take_zero, List.getElem_cons_zero, List.getElem_cons_succ, chk8] at h2 h3 g2 g3 hne
    have hn2 := hxn _ hne
    obtain ⟨⟨⟨⟨⟨⟨⟨⟨q0, q1⟩, q2⟩, _⟩, _⟩, _⟩, q6⟩, q7⟩, q8⟩ := h2
    simp only [V _ q0, V _ q1, V _ q2, V _ q6, V _ q7, V _ hx2] at h3 g3
    clear g2 hz hxn V h
    omega

theorem lab_dig {b : Bk} (h : bookB b = true) {i : Nat} (hi : i ∈ digA) (hl : i < (labT b).length) : 48 ≤ ((labT b)[i]).toNat ∧ ((labT b)[i]).toNat ≤ 57 := by
  have h0 := isB_lab h
  have hl9 := labT_len b
  generalize labT b = T at *
  obtain ⟨a, c, d, e, f, g, k, m, n, rfl⟩ := list9 hl9
  unfold isB at h0
  simp only [Bool.and_eq_true, decide_eq_true_eq, isL, digZ] at h0
  obtain ⟨⟨⟨_, h2⟩, _⟩, _⟩ := h0
  have hz : ∀ l : List UInt8, zl (tB l) = l.map fun u => (u.toNat : Int) := fun l => by unfold zl tB; simp
  rw [hz] at h2
  simp only [List.map_cons, List.map_nil, List.getD_cons_zero, List.getD_cons_succ] at h2
  obtain ⟨⟨⟨⟨⟨⟨⟨⟨q0, q1⟩, q2⟩, _⟩, _⟩, _⟩, q6⟩, q7⟩, q8⟩ := h2
  simp only [digA, List.mem_cons, List.not_mem_nil, or_false] at hi
  rcases hi with rfl | rfl | rfl | rfl | rfl | rfl
  all_goals
    simp only [List.getElem_cons_zero, List.getElem_cons_succ]
    omega

/-! ### near labels -/
theorem lbs_mem {c : Nat → List UInt8} {T s : List UInt8} {n : Nat} : s ∈ lbs c T n ↔ ∃ p, p < n ∧ s = c p ∧ s ≠ T ∧ lbl s = true := by
  unfold lbs cndTo
  rw [(List.mergeSort_perm _ _).mem_iff, List.mem_filter, List.mem_map]
  constructor
  · rintro ⟨⟨p, hp, rfl⟩, h⟩
    unfold okT at h
    simp only [Bool.and_eq_true, decide_eq_true_eq] at h
    exact ⟨p, List.mem_range.1 hp, rfl, h.1, h.2⟩
  · rintro ⟨p, hp, rfl, h1, h2⟩
    exact ⟨⟨p, List.mem_range.2 hp, rfl⟩, by unfold okT; simp [h1, h2]⟩
theorem lbs_rise {c : Nat → List UInt8} {T : List UInt8} (n : Nat) (hc : ∀ p q, p < q → q < n → c p ≠ T → c q ≠ T → c p ≠ c q) : (lbs c T n).Pairwise (· < ·) := by
  rw [← putTo_all n hc]
  unfold putTo
  exact (fold_ok _ [] List.Pairwise.nil (by simpa using (cnd_nodup hc n (Nat.le_refl _)).1)).2
/-- At how many of the first places two texts differ. -/
def dfc (s t : List UInt8) : Nat → Nat
  | 0 => 0
  | k + 1 => dfc s t k + (if s[k]? = t[k]? then 0 else 1)
theorem dfc_set (T : List UInt8) (i : Nat) (x : UInt8) (hi : i < T.length) (hne : x ≠ T[i]) : ∀ k, k ≤ T.length → dfc (T.set i x) T k = if i < k then 1 else 0
  | 0, _ => by simp [dfc]
  | k + 1, hk => by
    rw [dfc, dfc_set T i x hi hne k (by omega)]
    by_cases e : i = k
    · subst e
      rw [List.getElem?_set_self hi, List.getElem?_eq_getElem hi, if_neg (by omega), if_neg (by simpa using hne), if_pos (by omega)]
    · rw [List.getElem?_set_ne e, if_pos rfl]
      by_cases h : i < k
      · rw [if_pos h, if_pos (by omega)]
      · rw [if_neg h, if_neg (by omega)]
theorem near_all {T : List UInt8} (h9 : T.length = 9) : (nrL T).Pairwise (· < ·) ∧ ∀ s ∈ nrL T, lbl s = true ∧ s.length = 9 ∧ dfc s T 9 = 1 := by
  unfold nrL
  rw [if_pos h9]
  refine ⟨lbs_rise 324 (fun p q hpq hq => ntx_apart h9 p q hpq hq), fun s hs => ?_⟩
  obtain ⟨p, hp, rfl, h1, h2⟩ := lbs_mem.1 hs
  refine ⟨h2, by rw [ntx_len, h9], ?_⟩
  have hi : p / 36 < T.length := by omega
  unfold ntx at h1 ⊢
  rw [dfc_set T _ _ hi ((set_ne hi).1 h1) 9 (by omega), if_pos (by omega)]
theorem swap_all {T : List UInt8} (h9 : T.length = 9) : ∀ s ∈ swL T, lbl s = true ∧ s.length = 9 := by
  unfold swL
  rw [if_pos h9]
  intro s hs
  obtain ⟨p, hp, rfl, h1, h2⟩ := lbs_mem.1 hs
  exact ⟨h2, swT_len T h9 p hp⟩
theorem lt36_dig {x : UInt8} (hx : 48 ≤ x.toNat ∧ x.toNat ≤ 57) : lt36 (x.toNat - 48) = x := by
  obtain ⟨k, hk, e⟩ : ∃ k, k < 10 ∧ x.toNat = 48 + k := ⟨x.toNat - 48, by omega, by omega⟩
  have e2 : x = UInt8.ofNat (48 + k) := by rw [← e]; simp
  rw [e2]
  have hk2 : k = 0 ∨ k = 1 ∨ k = 2 ∨ k = 3 ∨ k = 4 ∨ k = 5 ∨ k = 6 ∨ k = 7 ∨ k = 8 ∨ k = 9 := by omega
  rcases hk2 with rfl | rfl | rfl | rfl | rfl | rfl | rfl | rfl | rfl | rfl <;> rfl
/-- The label itself is among those that are near to the wrong one. -/
theorem due_near {b : Bk} (h : bookB b = true) {i : Nat} (hi : i < 9) {x : UInt8} (hd : ∀ hl : i < (labT b).length, 48 ≤ ((labT b)[i]).toNat ∧ ((labT b)[i]).toNat ≤ 57) (hne : ∀ hl : i < (labT b).length, x ≠ (labT b)[i]) : labT b ∈ nrL ((labT b).set i x) := by
  have h0 := isB_lab h
  have hl := labT_len b
  generalize labT b = T at *
  have hil : i < T.length := by omega
  have hd := hd hil
  have hne := hne hil
  unfold nrL
  rw [if_pos (by rw [List.length_set]; exact hl)]
  refine lbs_mem.2 ⟨36 * i + ((T[i]).toNat - 48), by omega, ?_, ?_, h0⟩
  · rw [ntx_at _ i _ (by omega), lt36_dig hd, List.set_set, List.set_getElem_self]
  · intro e
    have := congrArg (fun l => l[i]?) e
    simp only [List.getElem?_set_self hil, List.getElem?_eq_getElem hil] at this
    exact hne (Option.some.inj this).symm
end Go.Proofs.Ytimojjkblofhnaa
