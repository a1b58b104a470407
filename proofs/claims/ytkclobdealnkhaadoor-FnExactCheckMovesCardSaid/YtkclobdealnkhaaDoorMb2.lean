/- Block moves and moves of lists, by the model: contracts. Condition: lists no longer than the law tests. -/
import Derived.Test.YtkclobdealnkhaaDoorMb1
namespace Go.Proofs.YtkclobdealnkhaaDoor
set_option linter.unusedSimpArgs false
set_option linter.unusedVariables false
set_option maxRecDepth 100000
open Go.RowKit Go.Sort

theorem canK_eq (n : Nat) (F C T : Int) : canK n F C T = (decide (1 ≤ C) && (inB F 0 ((n : Int) - C) && inB T 0 ((n : Int) - C))) := by
  unfold canK inB
  rw [← Bool.decide_and, ← Bool.decide_and]
  exact decide_eq_decide.2 (by omega)
theorem resB_empty {w w1 : World} (h : Below w.heap.size w w1) {ys : List Bk} (e : ys = []) : ResB (w1.alloc (.cells #[] 65)) w.heap.size (.slice (some ⟨w1.heap.size, 0, none⟩) 0 0) ys := by
  subst e
  exact .inr ⟨w1.heap.size, 0, rfl, h.size, ⟨#[], heap_alloc_new w1 _, rfl, fun i hi => absurd hi (Nat.not_lt_zero _)⟩, Nat.le_refl _⟩
theorem SliceOf.at_some {w : World} {b o c : Nat} {xs : List Bk} (h : SliceOf w (.slice (some ⟨b, o, none⟩) xs.length c) xs) (h0 : 0 < xs.length) : b < w.heap.size ∧ BooksAt w b o xs := by
  obtain ⟨A', c', e', hh⟩ := h
  obtain ⟨g', o', rfl, hg', hat⟩ := hh h0
  injection e' with e1 e2 e3
  injection e1 with e1
  injection e1 with e1 e4 e5
  subst e1 e4
  exact ⟨hg', hat⟩
/-- A book list in the end of a call, moved in a row of its own. -/
theorem resB_row {w w' : World} {g N n : Nat} {ys : List Bk} (hr : RowK w' g ys n N) (hn : ys.length = n) (hg : w.heap.size ≤ g) (hN : n ≤ N) : ResB w' w.heap.size (.slice (some ⟨g, 0, none⟩) n N) ys := by
  subst hn
  exact .inr ⟨g, N, rfl, hg, hr, hN⟩
set_option maxHeartbeats 4000000 in
theorem l03Moved_any (b o cc : Nat) (xs : List Bk) (f t : Nat) (w : World) (hat : BooksAt w b o xs) (hg : b < w.heap.size) (hcap : xs.length ≤ cc) (hn : xs.length ≤ 1048576) (hf : f < xs.length) (ht : t < xs.length) (hf2 : f ≤ 32767) (ht2 : t ≤ 32767) :
    Calls Tryd.prog 33 #[.slice (some ⟨b, o, none⟩) xs.length cc, .agg #[.int .i16 (f : Int), .int .i16 (t : Int)]] w fun e w' => ∃ g' N, e = .returned (.slice (some ⟨g', 0, none⟩) xs.length N) ∧ RowK w' g' (carL xs f 1 t) xs.length N ∧ w.heap.size ≤ g' ∧ xs.length ≤ N ∧ Below w.heap.size w w' := by
  have G0 := Lib.hid (show Below w.heap.size w (w.alloc (.cells #[.int .i16 (f : Int), .int .i16 (t : Int)] 26)) from (Below.refl _ _).alloc (Nat.le_refl _) _)
  have A0 := Lib.hid (hat.below G0.out hg)
  have B0 := Lib.hid (Nat.lt_of_lt_of_le hg G0.out.size)
  have KK := Lib.hid (fun W (h : BooksAt W b o xs) (h' : b < W.heap.size) => l03Carried_any b o cc xs f 1 t W h h' hcap hn (Nat.le_refl _) hf ht hf2 (by omega) ht2)
  clear hat
  go_enter Tryd.func33, Tryd.ntmps33
  go_wp2_with fail
  generalize World.alloc w _ = W1 at G0 A0 B0 ⊢
  refine (KK.out _ A0.out B0.out).mono ?_
  rintro e w2 ⟨g, N, rfl, hr, hg, hN, g2⟩
  go_wp2
  go_ret
  exact ⟨g, N, rfl, hr, Nat.le_trans G0.out.size hg, hN, bnext G0.out g2⟩
end Go.Proofs.YtkclobdealnkhaaDoor
