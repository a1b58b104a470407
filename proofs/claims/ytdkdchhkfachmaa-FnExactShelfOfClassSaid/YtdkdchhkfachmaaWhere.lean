/- The shelf on which a book stands, by the model and by the program: contracts. Condition: a layout. -/
import Derived.Test.YtdkdchhkfachmaaBookAt
namespace Go.Proofs.Ytdkdchhkfachmaa
set_option linter.unusedSimpArgs false
set_option linter.unusedVariables false
set_option maxRecDepth 100000
open Go.RowKit

/-- The first shelf from s on whose number is greater than b. -/
def shF (es : List Int) (b : Int) : Nat → Nat → Nat
  | 0, s => s
  | f + 1, s => if es.getD s 0 ≤ b then shF es b f (s + 1) else s
def shOf (es : List Int) (b : Int) : Nat := shF es b es.length 0

theorem shF_step {es : List Int} {b : Int} {s : Nat} (hs : s < es.length) : shF es b (es.length - s) s = if es[s] ≤ b then shF es b (es.length - (s + 1)) (s + 1) else s := by
  rw [show es.length - s = (es.length - (s + 1)) + 1 by omega, shF, getD_ints hs]
theorem shF_in {es : List Int} {b : Int} (h0 : 0 < es.length) (hl : b < es[es.length - 1]) : ∀ f s, s + f = es.length → s < es.length → (∀ t, t < s → es.getD t 0 ≤ b) →
    shF es b f s < es.length ∧ b < es.getD (shF es b f s) 0 ∧ ∀ t, t < shF es b f s → es.getD t 0 ≤ b
  | 0, s, h, hs, _ => absurd h (by omega)
  | f + 1, s, h, hs, hp => by
    rw [shF]
    by_cases hle : es.getD s 0 ≤ b
    · rw [if_pos hle]
      have hne : s ≠ es.length - 1 := by
        rintro rfl
        rw [getD_ints (by omega)] at hle
        omega
      refine shF_in h0 hl f (s + 1) (by omega) (by omega) fun t ht => ?_
      by_cases e : t = s
      · subst e; exact hle
      · exact hp t (by omega)
    · rw [if_neg hle]
      exact ⟨hs, by omega, hp⟩
theorem shOf_in {es : List Int} {b : Int} (h0 : 0 < es.length) (hl : b < es[es.length - 1]) : shOf es b < es.length ∧ b < es.getD (shOf es b) 0 ∧ ∀ t, t < shOf es b → es.getD t 0 ≤ b :=
  shF_in h0 hl es.length 0 (by omega) h0 fun t ht => absurd ht (Nat.not_lt_zero _)

set_option maxHeartbeats 2000000 in
theorem l02Shelf_any (v : Value) (es : List Int) (b : Int) (w : World) (se : IntsOf .i64 w v es) (h0 : 0 < es.length) (hm : es.length ≤ 12) (hl : b < es[es.length - 1]) :
    Calls Try.prog 79 #[v, .int .i64 b] w fun e w' => e = .returned (.int .i64 (shOf es b : Int)) ∧ w = w' := by
  obtain ⟨E, q, rfl, se⟩ := se
  obtain ⟨g, o, rfl, hg, hat⟩ := se h0
  have HAT := Lib.hid hat
  have HL := Lib.hid hl
  clear se hat hl
  go_enter Try.func79, Try.ntmps79
  go_wp2
  go_loop [5] (fun s => ∃ j : Nat, j < es.length ∧ s = .int .i64 (j : Int) ∧ shF es b (es.length - j) j = shOf es b ∧ (∀ t, t < j → es.getD t 0 ≤ b)) (fun s => es.length - (intOf s).toNat)
  case atStart => exact ⟨0, h0, rfl, rfl, fun t ht => absurd ht (Nat.not_lt_zero _)⟩
  case round =>
    obtain ⟨j, hj, rfl, hs, hp⟩ := hrel
    have p0 := HAT.out j hj
    have HS := Lib.hid hs
    have HP := Lib.hid hp
    clear hs hp
    by_cases hle : es[j] ≤ b
    · have hne : j ≠ es.length - 1 := by
        rintro rfl
        have := HL.out
        omega
      have E1 := Lib.hid (show shF es b (es.length - (j + 1)) (j + 1) = shOf es b by rw [← HS.out, shF_step hj, if_pos hle])
      have E2 := Lib.hid (show ∀ t, t < j + 1 → es.getD t 0 ≤ b from fun t ht => by
        by_cases e : t = j
        · subst e; rw [getD_ints hj]; exact hle
        · exact HP.out t (by omega))
      go_wp2
      go_round
      case rel => exact ⟨j + 1, by omega, by go_num, E1.out, E2.out⟩
      case measure => simp [intOf]; omega
    · have E1 := Lib.hid (show shOf es b = j by rw [← HS.out, shF_step hj, if_neg hle])
      have hgt : b < es[j] := by omega
      go_wp2
      go_ret
      exact ⟨by rw [E1.out]; rfl, rfl⟩

/-- What a layout gives at a book: its shelf, and where the books of this shelf begin. -/
theorem lay_book {c : Cs} {xs : List Bk} {es : List Int} (h1 : caseB c = true) (h : layB c xs es = true) {b : Nat} (hb : b < xs.length) :
    0 < es.length ∧ es.length ≤ 12 ∧ (∃ hl : es.length - 1 < es.length, (b : Int) < es[es.length - 1]) ∧ shOf es (b : Int) < es.length ∧ ∃ i k : Nat, fromE es (shOf es (b : Int)) = i ∧ es[shOf es (b : Int)]? = some (k : Int) ∧ i ≤ b ∧ b < k ∧ k ≤ xs.length := by
  have hc := caseB_lens h1
  have hle := lay_len h
  have h0 : 0 < es.length := by omega
  have hlast : (b : Int) < es[es.length - 1] := by
    unfold layB at h
    simp only [Bool.and_eq_true, decide_eq_true_eq] at h
    have := h.2.1
    unfold fromE at this
    rw [if_neg (by omega), ← hle, getD_ints (by omega)] at this
    omega
  obtain ⟨s1, s2, s3⟩ := shOf_in h0 hlast
  obtain ⟨-, i, k, hi, hk, hik, hkn, -⟩ := lay_at h s1
  refine ⟨h0, by omega, ⟨by omega, hlast⟩, s1, i, k, hi, by rw [List.getElem?_eq_getElem s1, hk], ?_, ?_, hkn⟩
  · rcases hsh : shOf es (b : Int) with _ | t
    · rw [hsh] at hi
      simp [fromE] at hi
      omega
    · have := s3 t (by omega)
      rw [hsh, fromE_succ] at hi
      omega
  · rw [getD_ints s1, hk] at s2
    omega

def whR (c : Cs) (xs : List Bk) (es : List Int) (a : Int) : Int × Int × Int :=
  if layCode c xs es = 0 then (if inB a 0 ((xs.length : Int) - 1) then ((shOf es a : Int), wT xs (fromE es (shOf es a)).toNat a.toNat, 0) else (0, 0, 2)) else (0, 0, layCode c xs es)

theorem wh_cases (c : Cs) (xs : List Bk) (es : List Int) (a : Int) :
    (layCode c xs es = 1 ∧ whR c xs es a = (0, 0, 1)) ∨ (layCode c xs es = 8 ∧ whR c xs es a = (0, 0, 8)) ∨
    (layCode c xs es = 0 ∧ caseB c = true ∧ okB xs = true ∧ layB c xs es = true ∧
      ((inB a 0 ((xs.length : Int) - 1) = false ∧ whR c xs es a = (0, 0, 2)) ∨
       (∃ b s i k : Nat, a = b ∧ b < xs.length ∧ inB a 0 ((xs.length : Int) - 1) = true ∧ shOf es (b : Int) = s ∧ s < es.length ∧ s < c.hs.length ∧ fromE es s = i ∧ es[s]? = some (k : Int) ∧ i ≤ b ∧ b < k ∧ k ≤ xs.length ∧ 0 < es.length ∧ es.length ≤ 12 ∧ (∃ hl : es.length - 1 < es.length, (b : Int) < es[es.length - 1]) ∧ whR c xs es a = ((s : Int), wT xs i b, 0)))) := by
  rcases code_cases c xs es with h | h | ⟨h, h1, h2, h3⟩
  · left
    exact ⟨h, by unfold whR; rw [h]; rfl⟩
  · right; left
    exact ⟨h, by unfold whR; rw [h]; rfl⟩
  · right; right
    refine ⟨h, h1, h2, h3, ?_⟩
    cases hr : inB a 0 ((xs.length : Int) - 1)
    · left
      exact ⟨rfl, by unfold whR; rw [h, hr]; rfl⟩
    · right
      have hab : 0 ≤ a ∧ a ≤ (xs.length : Int) - 1 := by unfold inB at hr; simpa using hr
      obtain ⟨b, rfl⟩ : ∃ b : Nat, a = b := ⟨a.toNat, by omega⟩
      obtain ⟨h0, h12, hlast, s1, i, k, hi, hk, hib, hbk, hkn⟩ := lay_book h1 h3 (b := b) (by omega)
      refine ⟨b, _, i, k, rfl, by omega, rfl, rfl, s1, by rw [← lay_len h3]; exact s1, hi, hk, hib, hbk, hkn, h0, h12, hlast, ?_⟩
      unfold whR
      rw [h, hr, hi]
      simp

end Go.Proofs.Ytdkdchhkfachmaa
