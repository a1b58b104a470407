/- What a label is: the model's and the program's word on it agree. No condition. -/
import Derived.Test.YtimojjkblofhnaaLabR
import Derived.Test.YtimojjkblofhnaaLabL
namespace Go.Proofs.Ytimojjkblofhnaa
set_option linter.unusedSimpArgs false
set_option linter.unusedVariables false
set_option maxRecDepth 100000
open Go.RowKit

/-- A label, character by character. -/
def digZ (z : Int) : Bool := decide (48 ≤ z ∧ z ≤ 57)
def letZ (z : Int) : Bool := decide (97 ≤ z ∧ z ≤ 122)
def isL (l : List Int) : Bool :=
  digZ (l.getD 0 0) && digZ (l.getD 1 0) && digZ (l.getD 2 0) && letZ (l.getD 3 0) && letZ (l.getD 4 0) && letZ (l.getD 5 0) && digZ (l.getD 6 0) && digZ (l.getD 7 0) && digZ (l.getD 8 0)
def isB (T : ByteArray) : Bool :=
  decide (T.size = 9) && isL (zl T) && !(decide ((zl T).getD 6 0 = 48 ∧ (zl T).getD 7 0 = 48)) && decide ((zl T).getD 8 0 = chk ((zl T).take 8))
theorem zl_inj {S T : ByteArray} (h : zl S = zl T) : S.toList = T.toList := by
  rw [ByteArray.toList_eq, ByteArray.toList_eq]
  unfold zl at h
  refine (List.map_inj_right ?_).1 h
  intro a b hab
  exact UInt8.toNat_inj.1 (by omega)
theorem zl_of_toList {S T : ByteArray} (h : S.toList = T.toList) : zl S = zl T := by
  rw [ByteArray.toList_eq, ByteArray.toList_eq] at h
  unfold zl
  rw [h]
theorem zl_bytes {l : List Int} (hl : ∀ z ∈ l, 0 ≤ z ∧ z ≤ 255) : zl ⟨(bytesOf l).toArray⟩ = l := by
  unfold zl bytesOf
  simp only [List.map_map]
  conv => rhs; rw [← List.map_id l]
  refine List.map_congr_left fun z hz => ?_
  have := utoNat (hl z hz)
  simpa using this
theorem zl_ext (T : ByteArray) (a b : Nat) (hb : b ≤ T.size) (hab : a ≤ b) (k : Nat) (hk : k < b - a) : (zl (T.extract a b)).getD k 0 = (zl T).getD (a + k) 0 := by
  have h1 : k < (T.extract a b).size := by rw [ByteArray.size_extract]; omega
  rw [zl_at _ _ h1, zl_at _ _ (by omega)]
  rw [ByteArray.getElem_extract]

theorem zl9 {l : List Int} (h : l.length = 9) : ∃ a b c d e f g i j, l = [a, b, c, d, e, f, g, i, j] := by
  match l, h with
  | [a, b, c, d, e, f, g, i, j], _ => exact ⟨a, b, c, d, e, f, g, i, j, rfl⟩

set_option maxHeartbeats 1000000 in
theorem dig3 (a b c C : Int) (hC : C = ((0 * 10 + (a - 48) % 256) * 10 + (b - 48) % 256) * 10 + (c - 48) % 256) :
    ((0 ≤ C ∧ C ≤ 999) ∧ 48 + C / 100 % 10 = a ∧ 48 + C / 10 % 10 = b ∧ 48 + C % 10 = c) ↔ ((48 ≤ a ∧ a ≤ 57) ∧ (48 ≤ b ∧ b ≤ 57) ∧ (48 ≤ c ∧ c ≤ 57)) := by
  constructor
  · rintro ⟨_, h1, h2, h3⟩
    clear hC
    omega
  · rintro ⟨h1, h2, h3⟩
    rw [Int.emod_eq_of_lt (a := a - 48) (by omega) (by omega), Int.emod_eq_of_lt (a := b - 48) (by omega) (by omega), Int.emod_eq_of_lt (a := c - 48) (by omega) (by omega)] at hC
    omega
set_option maxHeartbeats 1000000 in
theorem dig2 (g i V : Int) (hV : V = (0 * 10 + (g - 48) % 256) * 10 + (i - 48) % 256) :
    ((1 ≤ V ∧ V ≤ 99) ∧ 48 + V / 10 % 10 = g ∧ 48 + V % 10 = i) ↔ ((48 ≤ g ∧ g ≤ 57) ∧ (48 ≤ i ∧ i ≤ 57) ∧ ¬ (g = 48 ∧ i = 48)) := by
  constructor
  · rintro ⟨_, h1, h2⟩
    clear hV
    omega
  · rintro ⟨h1, h2, h3⟩
    rw [Int.emod_eq_of_lt (a := g - 48) (by omega) (by omega), Int.emod_eq_of_lt (a := i - 48) (by omega) (by omega)] at hV
    omega
set_option maxHeartbeats 8000000 in
theorem isP_isB (T : ByteArray) (h9 : T.size = 9) : isP T = isB T := by
  have hlen : (zl T).length = 9 := by rw [zl_len]; exact h9
  have wb := bkT_wf T h9
  have ec : (bkT T).c = numF (zl (T.extract 0 3)) 3 := rfl
  have ev : (bkT T).v = numF (zl (T.extract 6 8)) 2 := rfl
  have x0 := zl_ext T 0 3 (by omega) (by omega) 0 (by omega)
  have x1 := zl_ext T 0 3 (by omega) (by omega) 1 (by omega)
  have x2 := zl_ext T 0 3 (by omega) (by omega) 2 (by omega)
  have x3 := zl_ext T 3 6 (by omega) (by omega) 0 (by omega)
  have x4 := zl_ext T 3 6 (by omega) (by omega) 1 (by omega)
  have x5 := zl_ext T 3 6 (by omega) (by omega) 2 (by omega)
  have x6 := zl_ext T 6 8 (by omega) (by omega) 0 (by omega)
  have x7 := zl_ext T 6 8 (by omega) (by omega) 1 (by omega)
  have em0 : (bkT T).m0 = (zl (T.extract 3 6)).getD 0 0 := rfl
  have em1 : (bkT T).m1 = (zl (T.extract 3 6)).getD 1 0 := rfl
  have em2 : (bkT T).m2 = (zl (T.extract 3 6)).getD 2 0 := rfl
  have eh : (bkT T).hi = 50 := rfl
  have ei : (bkT T).wi = 1 := rfl
  have ee : (bkT T).we = 1 := rfl
  have nc : numF (zl (T.extract 0 3)) 3 = ((0 * 10 + ((zl (T.extract 0 3)).getD 0 0 - 48) % 256) * 10 + ((zl (T.extract 0 3)).getD 1 0 - 48) % 256) * 10 + ((zl (T.extract 0 3)).getD 2 0 - 48) % 256 := rfl
  have nv : numF (zl (T.extract 6 8)) 2 = (0 * 10 + ((zl (T.extract 6 8)).getD 0 0 - 48) % 256) * 10 + ((zl (T.extract 6 8)).getD 1 0 - 48) % 256 := rfl
  obtain ⟨a, b, c, d, e, f, g, i, j, hz⟩ := zl9 hlen
  rw [hz] at x0 x1 x2 x3 x4 x5 x6 x7
  simp only [List.getD_cons_zero, List.getD_cons_succ, Nat.zero_add, Nat.add_zero, Nat.reduceAdd] at x0 x1 x2 x3 x4 x5 x6 x7
  rw [x0, x1, x2] at nc
  rw [x6, x7] at nv
  rw [nc] at ec
  rw [nv] at ev
  rw [x3] at em0
  rw [x4] at em1
  rw [x5] at em2
  have key : isP T = true ↔ (bookB (bkT T) = true ∧ labL (bkT T) = zl T) := by
    unfold isP labR
    rw [beq_iff_eq]
    cases hk : bookB (bkT T)
    · simp only [Bool.false_eq_true, ↓reduceIte, false_and, iff_false]
      intro h
      have := congrArg List.length (zl_of_toList h)
      rw [hlen] at this
      exact absurd this (by decide)
    · simp only [↓reduceIte, true_and]
      constructor
      · intro h
        have := zl_of_toList h
        unfold labS at this
        rwa [zl_bytes (labL_bd wb)] at this
      · intro h
        apply zl_inj
        unfold labS
        rwa [zl_bytes (labL_bd wb)]
  have hb : isB T = true ↔ ((48 ≤ a ∧ a ≤ 57) ∧ (48 ≤ b ∧ b ≤ 57) ∧ (48 ≤ c ∧ c ≤ 57) ∧ (97 ≤ d ∧ d ≤ 122) ∧ (97 ≤ e ∧ e ≤ 122) ∧ (97 ≤ f ∧ f ≤ 122) ∧ (48 ≤ g ∧ g ≤ 57) ∧ (48 ≤ i ∧ i ≤ 57) ∧ ¬ (g = 48 ∧ i = 48) ∧ j = chk [a, b, c, d, e, f, g, i]) := by
    unfold isB isL digZ letZ
    rw [hz]
    have := chk_bd [a, b, c, d, e, f, g, i]
    simp only [List.getD_cons_zero, List.getD_cons_succ, List.take_succ_cons, List.take_zero, Bool.and_eq_true, decide_eq_true_eq, Bool.not_eq_true', decide_eq_false_iff_not]
    constructor
    · rintro ⟨⟨⟨_, h⟩, h2⟩, h3⟩
      omega
    · intro h
      omega
  have kb : bookB (bkT T) = true ↔ ((0 ≤ (bkT T).c ∧ (bkT T).c ≤ 999) ∧ (97 ≤ d ∧ d ≤ 122) ∧ (97 ≤ e ∧ e ≤ 122) ∧ (97 ≤ f ∧ f ≤ 122) ∧ 1 ≤ (bkT T).v ∧ (bkT T).v ≤ 99) := by
    unfold bookB markB inB
    rw [em0, em1, em2, eh, ei, ee]
    simp only [Bool.and_eq_true, decide_eq_true_eq]
    omega
  have kl : labL (bkT T) = zl T ↔ (dgI ((bkT T).c / 100) = a ∧ dgI ((bkT T).c / 10) = b ∧ dgI (bkT T).c = c ∧ dgI ((bkT T).v / 10) = g ∧ dgI (bkT T).v = i ∧ chk (lab8 (bkT T)) = j) := by
    unfold labL
    rw [hz]
    unfold lab8
    rw [em0, em1, em2]
    simp only [List.cons_append, List.nil_append, List.cons.injEq, and_true, true_and]
  have c8 : lab8 (bkT T) = [dgI ((bkT T).c / 100), dgI ((bkT T).c / 10), dgI (bkT T).c, d, e, f, dgI ((bkT T).v / 10), dgI (bkT T).v] := by
    unfold lab8
    rw [em0, em1, em2]
  rw [c8] at kl
  have bd := wb
  generalize (bkT T).c = C at *
  generalize (bkT T).v = V at *
  rw [Bool.eq_iff_iff, key, hb, kb, kl]
  clear key hb kb kl x0 x1 x2 x3 x4 x5 x6 x7 em0 em1 em2 eh ei ee nc nv c8 wb bd hz hlen h9
  have D3 := dig3 a b c C ec
  have D2 := dig2 g i V ev
  clear ec ev
  unfold dgI
  constructor
  · rintro ⟨⟨h1, h2, h3, h4, h5, h6⟩, g1, g2, g3, g4, g5, g6⟩
    rw [g1, g2, g3, g4, g5] at g6
    obtain ⟨q1, q2, q3⟩ := D3.1 ⟨h1, g1, g2, g3⟩
    obtain ⟨q4, q5, q6⟩ := D2.1 ⟨⟨h5, h6⟩, g4, g5⟩
    exact ⟨q1, q2, q3, h2, h3, h4, q4, q5, q6, g6.symm⟩
  · rintro ⟨h1, h2, h3, h4, h5, h6, h7, h8, h9, h10⟩
    obtain ⟨k0, k1, k2, k3⟩ := D3.2 ⟨h1, h2, h3⟩
    obtain ⟨⟨k6, k7⟩, k4, k5⟩ := D2.2 ⟨h7, h8, h9⟩
    refine ⟨⟨k0, h4, h5, h6, k6, k7⟩, k1, k2, k3, k4, k5, ?_⟩
    rw [k1, k2, k3, k4, k5]
    exact h10.symm
end Go.Proofs.Ytimojjkblofhnaa
