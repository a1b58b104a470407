/- All rows from a book on that fit on a shelf, by the program: a contract. Condition: a valid case and list, the slice's length within its capacity. -/
import Derived.Test.YtpamflkefgpdpaaRowsOf
namespace Go.Proofs.Ytpamflkefgpdpaa
set_option linter.unusedSimpArgs false
set_option linter.unusedVariables false
set_option maxRecDepth 100000
open Go.RowKit

def fromCs (c : Cs) (A : Option Addr) (xs : List Bk) (i : Nat) : Nat → List Value
  | 0 => []
  | d + 1 => fromCs c A xs i d ++ rowCs c A xs i (i + d)
theorem fromCs_length (c : Cs) (A : Option Addr) (xs : List Bk) (i : Nat) : ∀ d, (fromCs c A xs i d).length = d * 3
  | 0 => rfl
  | d + 1 => by rw [fromCs, List.length_append, fromCs_length c A xs i d]; simp [rowCs]; omega
theorem fromCs_at (c : Cs) (A : Option Addr) (xs : List Bk) (i j t : Nat) (ht : t < 3) : ∀ n, j < n → (fromCs c A xs i n)[j * 3 + t]? = (rowCs c A xs i (i + j))[t]?
  | 0, h => absurd h (Nat.not_lt_zero _)
  | n + 1, h => by
    rw [fromCs]
    by_cases e : j = n
    · subst e
      rw [List.getElem?_append_right (by rw [fromCs_length]; omega), fromCs_length]
      congr 1
      omega
    · rw [List.getElem?_append_left (by rw [fromCs_length]; omega)]
      exact fromCs_at c A xs i j t ht n (by omega)

/-- How many rows from book i on fit on shelf s. -/
def cntR (c : Cs) (s : Nat) (xs : List Bk) (i : Nat) : Nat := reach c s xs i - i + 1

/-- d rows fit: what is still to come. -/
def FitD (c : Cs) (s : Nat) (xs : List Bk) (i d : Nat) : Prop := d = 0 ∨ (0 < d ∧ reachF c s xs i (xs.length - (i + d - 1)) (i + d - 1) = reach c s xs i)

theorem FitD.yes {c : Cs} {s : Nat} {xs : List Bk} {i d : Nat} (h : FitD c s xs i d) (hd : i + d ≤ xs.length) (hf : fitsB c s (part xs i (i + d)) = true) : FitD c s xs i (d + 1) := by
  refine .inr ⟨by omega, ?_⟩
  rw [show i + (d + 1) - 1 = i + d by omega]
  rcases h with rfl | ⟨h0, h⟩
  · rfl
  · rw [← h, show xs.length - (i + d - 1) = (xs.length - (i + d)) + 1 by omega, reachF, show i + d - 1 + 1 = i + d by omega, if_pos hf]
theorem FitD.no {c : Cs} {s : Nat} {xs : List Bk} {i d : Nat} (h : FitD c s xs i d) (hc : caseB c = true) (hd : i + d ≤ xs.length) (hf : fitsB c s (part xs i (i + d)) = false) : cntR c s xs i = d ∧ 0 < d := by
  rcases h with rfl | ⟨h0, h⟩
  · rw [Nat.add_zero, part_nil, fits_nil s hc] at hf
    cases hf
  · rw [show xs.length - (i + d - 1) = (xs.length - (i + d)) + 1 by omega, reachF, show i + d - 1 + 1 = i + d by omega, if_neg (by rw [hf]; simp)] at h
    unfold cntR
    rw [← h]
    omega
theorem FitD.end_ {c : Cs} {s : Nat} {xs : List Bk} {i d : Nat} (h : FitD c s xs i d) (hi : i ≤ xs.length) (hd : i + d = xs.length + 1) : cntR c s xs i = d ∧ 0 < d := by
  rcases h with rfl | ⟨h0, h⟩
  · omega
  · rw [show i + d - 1 = xs.length by omega, Nat.sub_self, reachF] at h
    unfold cntR
    rw [← h]
    omega

set_option maxHeartbeats 8000000 in
theorem rowsFrom_any (c : Cs) (hv : Value) (A : Option Addr) (m : Nat) (xs : List Bk) (s i : Nat) (wf : ∀ b ∈ xs, b.Wf) (w : World) (sc : IntsOf .i16 w hv c.hs) (hs : s < c.hs.length) (h1 : caseB c = true) (sl : SliceOf w (.slice A xs.length m) xs) (hm : xs.length ≤ m) (h2 : okB xs = true) (hi : i ≤ xs.length) :
    Calls Try.prog 87 #[.agg #[.int .i16 c.wi, .int .i32 c.lo, hv], .int .i64 (s : Int), .slice A xs.length m, .int .i64 (i : Int)] w fun e w' =>
      ∃ u, e = .returned u ∧ w'.ownsRow w.heap.size 118 3 u (cntR c s xs i) (fromCs c A xs i (cntR c s xs i)) ∧ Below w.heap.size w w' := by
  have h60 := okB_len h2
  have HB := Lib.hid (CaseAt.new (t := 50) sc)
  have G0 := Lib.hid (show Below w.heap.size w (w.alloc (.cells #[.int .i16 c.wi, .int .i32 c.lo, hv] 50)) by go_grown)
  have HC := Lib.hid (sc.below G0.out)
  have SL := Lib.hid (sl.below G0.out)
  have WF := Lib.hid wf
  have K1 := Lib.hid h1
  have K2 := Lib.hid h2
  obtain ⟨H, qh, rfl, -⟩ := sc
  obtain ⟨i0, hi0, hz0, hz1, hz2⟩ := info_parts infoRow
  clear sl wf h1 h2
  go_enter Try.func87, Try.ntmps87
  go_wp2
  generalize World.alloc _ _ = W0 at HB HC G0 SL ⊢
  go_loopw [9, 10] (fun rows b_ wr => ∃ d k : Nat, k = i + d ∧ k ≤ xs.length + 1 ∧ b_ = .int .i64 (k : Int) ∧ FitD c s xs i d ∧ wr.ownsRow W0.heap.size 118 3 rows d (fromCs c A xs i d) ∧ Below W0.heap.size W0 wr) (fun _ b_ _ => xs.length + 1 - (intOf b_).toNat)
  case atStart => exact ⟨0, i, rfl, by omega, rfl, .inl rfl, ⟨rfl, .inl ⟨rfl, rfl⟩⟩, Below.refl _ _⟩
  case round =>
    obtain ⟨d, k, hk, hkn, rfl, hfd, hown, hb⟩ := hrel
    have FD := Lib.hid hfd
    have OW := Lib.hid hown
    have HK := Lib.hid hk
    have hdk : d ≤ k := by omega
    have hik : i ≤ k := by omega
    clear hfd hown hk
    by_cases hle : k ≤ xs.length
    · have hle' : (k : Int) ≤ (xs.length : Int) := by omega
      have ci := Lib.hid (HB.out.below hb)
      obtain ⟨c0, c1, c2, cz, -⟩ := ci.out
      go_wp2_with fail
      refine (rowOn_any c _ A m xs s i k WF.out _ (HC.out.below hb) hs K1.out (SL.out.below hb) hm K2.out hik hle).mono ?_
      rintro e w1 ⟨rfl, g1⟩
      unfold rowV
      clear c0 c1 c2 cz
      have HFR := Lib.hid (rfl : freeB c (part xs i k) = freeB c (part xs i k))
      generalize hfr : freeB c (part xs i k) = fr
      have HF2 := Lib.hid hfr
      clear hfr HFR
      cases hfit : fitsB c s (part xs i k)
      · have E := Lib.hid (FD.out.no K1.out (by have := HK.out; omega) (by rw [← HK.out]; exact hfit))
        clear hfit
        go_wp2
        go_ret
        have g2 := bnext hb g1
        exact ⟨_, rfl, by rw [E.out.1]; exact ownMono ((ownBelow OW.out g1).alloc _) (by have := G0.out.size; omega), bnext G0.out (g2.alloc g2.size _)⟩
      · have FD2 := Lib.hid (FD.out.yes (by have := HK.out; omega) (by rw [← HK.out]; exact hfit))
        clear hfit
        have g2 := bnext hb g1
        have g3 := Lib.hid (g2.alloc g2.size (.cells #[.int .i64 (i : Int), .slice (subA A i k) (k - i) (k - i), .int .i64 fr] 118))
        have OW3 := Lib.hid ((ownBelow OW.out g1).alloc (.cells #[.int .i64 (i : Int), .slice (subA A i k) (k - i) (k - i), .int .i64 fr] 118))
        have hsz := g2.size
        go_wp2_with (at_builtin; refine wpList_append_own _ rfl (.tmp 31) (.tmp 33) _ rfl W0.heap.size 118 i0 (.agg #[.int .i64 0, .slice none 0 0, .int .i64 0]) 3 40 Try.underlying115 hi0 hz0 hz1 hz2 rfl (by decide) _ _ _ rfl (OW3.out.alloc _) ⟨w1.heap.size + 1, 0, none⟩ 1 1 [.int .i64 (i : Int), .slice (subA A i k) (k - i) (k - i), .int .i64 fr] rfl rfl ?c1 ?c2 ?c3 ?c4 ?c5 ?_)
        case c1 => (have h := cell_three_new (w1.alloc (.cells #[.int .i64 (i : Int), .slice (subA A i k) (k - i) (k - i), .int .i64 fr] 118)) (.int .i64 (i : Int)) (.slice (subA A i k) (k - i) (k - i)) (.int .i64 fr) 118; simpa using h)
        case c2 => (intro u hu; simp at hu; rcases hu with rfl | rfl | rfl <;> rfl)
        case c3 => (unfold maxLen; omega)
        case c4 => omega
        case c5 => (simp; omega)
        intro v' w2 hown' hgrow' _
        have OW' := Lib.hid hown'
        have g4 : Below W0.heap.size W0 w2 := (g3.out.alloc g3.out.size _).grown hgrow' (by simp; omega) (fun k hk => (OW3.out.lt k hk).1)
        clear hown' hgrow'
        go_wp2
        go_roundw
        case rel => exact ⟨d + 1, k + 1, by have := HK.out; omega, by omega, by go_num, FD2.out, by have h := OW'.out; unfold fromCs rowCs; rw [← HK.out, HF2.out]; exact h, g4⟩
        case measure => simp [intOf]; omega
    · have hgt : ¬ ((k : Int) ≤ (xs.length : Int)) := by omega
      have E := Lib.hid (FD.out.end_ hi (by have := HK.out; omega))
      go_wp2
      go_ret
      exact ⟨_, rfl, by rw [E.out.1]; exact ownMono OW.out (by have := G0.out.size; omega), bnext G0.out hb⟩

end Go.Proofs.Ytpamflkefgpdpaa
