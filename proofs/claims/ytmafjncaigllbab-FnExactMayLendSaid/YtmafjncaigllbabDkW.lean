/- The counter of a desk for a person and a book, by the program: a contract. Condition: no longer than slices can be, numbers within their kinds. -/
import Derived.Test.YtmafjncaigllbabDkD
import Derived.Test.YtmafjncaigllbabDkA
import Derived.BigRegion
namespace Go.Proofs.Ytmafjncaigllbab
set_option linter.unusedSimpArgs false
set_option linter.unusedVariables false
set_option maxRecDepth 100000
open Go.RowKit

noncomputable def askDay (d : Dk) (who book : Int) : Int := if askG d who book then d.day else 0
noncomputable def askCs (d : Dk) (who book : Int) : List Cp := if askG d who book then d.cs else []
theorem ask_cn (d : Dk) (who book : Int) : (¬ cnC d who = 0 ∧ askC d who book = cnC d who ∧ askP d who book = cp0 ∧ askDay d who book = 0 ∧ askCs d who book = []) ∨
    (cnC d who = 0 ∧ cnDay d who = d.day ∧ cnCs d who = d.cs ∧ d.cs.length ≤ 60 ∧ inB book 0 ((d.cs.length : Int) - 1) = false ∧ askC d who book = 2 ∧ askP d who book = cp0 ∧ askDay d who book = 0 ∧ askCs d who book = []) ∨
    (cnC d who = 0 ∧ cnDay d who = d.day ∧ cnCs d who = d.cs ∧ d.cs.length ≤ 60 ∧ inB book 0 ((d.cs.length : Int) - 1) = true ∧ askC d who book = 0 ∧ askDay d who book = d.day ∧ askCs d who book = d.cs ∧ ∃ (n : Nat) (hn : n < d.cs.length), book = (n : Int) ∧ askP d who book = d.cs[n]) := by
  unfold askDay askCs askG cnC cnDay cnCs cnG
  rcases ask_cases d who book with ⟨h1, h2, h3⟩ | ⟨h1, h4, h2, h3⟩ | ⟨h1, h4, h5, h2, h3⟩ | ⟨h1, h4, h5, h2, h3⟩
  · exact .inl ⟨by simp [h1], by simp [h1, h2], h3, by simp [h1], by simp [h1]⟩
  · exact .inl ⟨by simp [h1, h4], by simp [h1, h4, h2], h3, by simp [h1, h4], by simp [h1, h4]⟩
  · exact .inr (.inl ⟨by simp [h1, h4], by simp [h1, h4], by simp [h1, h4], dk_60 h1, h5, h2, h3, by simp [h1, h4, h5], by simp [h1, h4, h5]⟩)
  · exact .inr (.inr ⟨by simp [h1, h4], by simp [h1, h4], by simp [h1, h4], dk_60 h1, h5, h2, by simp [h1, h4, h5], by simp [h1, h4, h5], h3⟩)
theorem alloc3d (w : World) (a b c : Obj) : (((w.alloc a).alloc b).alloc c).heap[w.heap.size]? = some a ∧ (((w.alloc a).alloc b).alloc c).heap[w.heap.size + 1]? = some b ∧ (((w.alloc a).alloc b).alloc c).heap[w.heap.size + 2]? = some c := by
  refine ⟨?_, (alloc3 w a b c).1, (alloc3 w a b c).2⟩
  rw [Below.heap_alloc _ _ _ (by simp; omega)]
  exact (alloc2 w a b).1
theorem drew_cell (W : World) (a : Addr) : W.drew.cell? a = W.cell? a := rfl
theorem far1 {W : World} {g b o p : Nat} {x : Value} (h : ¬ b = g) : (W.setCell ⟨g, p, none⟩ x).cell? ⟨b, o, none⟩ = W.cell? ⟨b, o, none⟩ := World.cell?_setCell_far _ _ _ _ (by show g ≠ b; omega)
theorem OwnQ.below {w w' : World} {base : Nat} {u : Value} {q : List Int} (h : OwnQ w base u q) (hb : Below w.heap.size w w') : OwnQ w' base u q := ownBelow h hb
theorem OwnQ.form {w : World} {base : Nat} {u : Value} {q : List Int} (h : OwnQ w base u q) : ∃ A c, u = .slice A q.length c := vlen_own1 h
theorem OwnQ.nil (w : World) (base : Nat) : OwnQ w base (.slice none 0 0) [] := ⟨rfl, .inl ⟨rfl, rfl⟩⟩
theorem OwnQ.far {w : World} {base : Nat} {u : Value} {q : List Int} (h : OwnQ w base u q) (g o : Nat) (x : Value) (hg : g < base) : OwnQ (w.setCell ⟨g, o, none⟩ x) base u q := own_cell h _ _ _ (fun k hk => by have := (h.lt k hk).1; omega)
theorem OwnQ.mono {w : World} {base base' : Nat} {u : Value} {q : List Int} (h : OwnQ w base u q) (hb : base' ≤ base) : OwnQ w base' u q := ownMono h hb

set_option maxHeartbeats 16000000 in
theorem counterWith_any (d : Dk) (wf : d.Wf ∧ ∀ c ∈ d.cs, c.q.length ≤ maxLen) (who book : Int) (g : Nat) (w : World) (hs : CRowK w g g d.cs d.cs.length d.cs.length) (hn : d.cs.length ≤ maxLen) :
    Calls Try.prog 13 #[.agg #[.int .i16 d.day, .slice (some ⟨g, 0, none⟩) d.cs.length d.cs.length], .int .i64 who, .int .i64 book] w fun e w' => ∃ v u, e = .returned (.tuple #[.agg #[.int .i64 (askDay d who book), v, .int .i64 0], .agg #[.int .i64 (askP d who book).st, .int .i64 (askP d who book).who, .int .i64 (askP d who book).due, .int .i64 (askP d who book).ren, u], .int .i64 (askC d who book)]) ∧ ItsOf w' w.heap.size v (askCs d who book) ∧ OwnQ w' w.heap.size u (askP d who book).q ∧ Below w.heap.size w w' := by
  have CO := Lib.hid (fun W (h : Below w.heap.size w W) => counterOf_any d wf who g W (hs.below h) hn)
  clear hs wf
  have GW := Lib.hid (show ∀ a b c : Obj, Below w.heap.size w (((w.alloc a).alloc b).alloc c) from fun a b c => (((Below.refl _ _).alloc (Nat.le_refl _) _).alloc (by simp) _).alloc (by simp; omega) _)
  rcases ask_cn d who book with ⟨h1, h2, h3, h4, h5⟩ | ⟨h1, h2, h3, h60, hin, h4, h5, h6, h7⟩ | ⟨h1, h2, h3, h60, hin, h4, h5, h6, n, hlt, rfl, h7⟩
  · rw [h2, h3, h4, h5]
    clear h2 h3 h4 h5
    have hk : (cnC d who != 0) = true := by simpa using h1
    generalize cnC d who = k at CO hk ⊢
    clear h1
    go_enter Try.func13, Try.ntmps13
    go_wp2_with fail
    generalize hW : World.alloc (World.alloc (World.alloc w _) _) _ = W3
    have D1 := Lib.hid (show W3.heap[w.heap.size + 1]? = some (.cells #[.int .i64 0, .slice none 0 0, .int .i64 0] 42 (0, 0)) by rw [← hW]; exact (alloc3d w _ _ _).2.1)
    have D2 := Lib.hid (show W3.heap[w.heap.size + 2]? = some (.cells #[.int .i64 0, .int .i64 0, .int .i64 0, .int .i64 0, .slice none 0 0] 47 (0, 0)) by rw [← hW]; exact (alloc3d w _ _ _).2.2)
    have G0 := Lib.hid (show Below w.heap.size w W3 by rw [← hW]; exact GW.out _ _ _)
    have Z0 := Lib.hid (show w.heap.size + 2 < W3.heap.size by rw [← hW]; simp)
    clear hW
    refine (CO.out _ G0.out).mono ?_
    rintro e w1 ⟨v, rfl, hit, k1⟩
    obtain ⟨A3, c3, rfl⟩ := hit.form
    have R1 := (k1.block (w.heap.size + 1) (by have := Z0.out; omega)).trans D1.out
    have R2 := (k1.block (w.heap.size + 2) Z0.out).trans D2.out
    have z1 := Nat.lt_of_lt_of_le Z0.out k1.size
    have r0 : w1.cell? ⟨w.heap.size + 1, 0, none⟩ = some (.int .i64 0) := cell_of_row w1 _ 0 _ _ _ R1
    have r1 : w1.cell? ⟨w.heap.size + 1, 1, none⟩ = some (.slice none 0 0) := cell_of_row w1 _ 1 _ _ _ R1
    have r2 : w1.cell? ⟨w.heap.size + 1, 2, none⟩ = some (.int .i64 0) := cell_of_row w1 _ 2 _ _ _ R1
    have s0 : w1.cell? ⟨w.heap.size + 2, 0, none⟩ = some (.int .i64 0) := cell_of_row w1 _ 0 _ _ _ R2
    have s1 : w1.cell? ⟨w.heap.size + 2, 1, none⟩ = some (.int .i64 0) := cell_of_row w1 _ 1 _ _ _ R2
    have s2 : w1.cell? ⟨w.heap.size + 2, 2, none⟩ = some (.int .i64 0) := cell_of_row w1 _ 2 _ _ _ R2
    have s3 : w1.cell? ⟨w.heap.size + 2, 3, none⟩ = some (.int .i64 0) := cell_of_row w1 _ 3 _ _ _ R2
    have s4 : w1.cell? ⟨w.heap.size + 2, 4, none⟩ = some (.slice none 0 0) := cell_of_row w1 _ 4 _ _ _ R2
    have fr := fun j => frozen_of_row w1 (w.heap.size + 1) j _ _ R1
    have fs := fun j => frozen_of_row w1 (w.heap.size + 2) j _ _ R2
    have G1 := Lib.hid (bnext G0.out k1)
    have n1 : w.heap.size + 1 < w1.heap.size := by omega
    have A0 := Lib.hid (show Below w1.heap.size w1 (w1.alloc (.cells #[.int .i64 (cnDay d who), .slice A3 (cnCs d who).length c3, .int .i64 0] 42)) from (Below.refl _ _).alloc (Nat.le_refl _) _)
    have S0 := Lib.hid (show w1.heap.size < (w1.alloc (.cells #[.int .i64 (cnDay d who), .slice A3 (cnCs d who).length c3, .int .i64 0] 42)).heap.size by simp)
    have R1 := (A0.out.block (w.heap.size + 1) n1).trans R1
    have R2 := (A0.out.block (w.heap.size + 2) z1).trans R2
    clear k1 hit r0 r1 r2 s0 s1 s2 s3 s4 fr fs
    have r0 := cell_of_row _ (w.heap.size + 1) 0 _ _ _ R1
    have r1 := cell_of_row _ (w.heap.size + 1) 1 _ _ _ R1
    have r2 := cell_of_row _ (w.heap.size + 1) 2 _ _ _ R1
    have s0 := cell_of_row _ (w.heap.size + 2) 0 _ _ _ R2
    have s1 := cell_of_row _ (w.heap.size + 2) 1 _ _ _ R2
    have s2 := cell_of_row _ (w.heap.size + 2) 2 _ _ _ R2
    have s3 := cell_of_row _ (w.heap.size + 2) 3 _ _ _ R2
    have s4 := cell_of_row _ (w.heap.size + 2) 4 _ _ _ R2
    have fr := fun j => frozen_of_row _ (w.heap.size + 1) j _ _ R1
    have fs := fun j => frozen_of_row _ (w.heap.size + 2) j _ _ R2
    simp only [List.getElem?_toArray, List.getElem?_cons_zero, List.getElem?_cons_succ] at r0 r1 r2 s0 s1 s2 s3 s4
    clear R1 R2
    go_upto_region 3 with (fail)
    generalize World.alloc w1 _ = W4 at A0 S0 r0 r1 r2 s0 s1 s2 s3 s4 fr fs ⊢
    go_wp2
    refine bodyPost_ret (v := .tuple #[.agg #[.int .i64 0, .slice none 0 0, .int .i64 0], .agg #[.int .i64 0, .int .i64 0, .int .i64 0, .int .i64 0, .slice none 0 0], .int .i64 k]) (by simp [results, Try.results13, go_sem, r0, r1, r2, s0, s1, s2, s3, s4]) rfl ?_
    refine ⟨_, _, rfl, ⟨[], rfl, ItsL.nil _ _⟩, OwnQ.nil _ _, ?_⟩
    repeat (refine Below.setCell ?_ (by first | (simp; done) | (simp; omega) | omega) _)
    exact G1.out.trans (A0.out.mono G1.out.size)
  · rw [h4, h5, h6, h7]
    rw [h1, h2, h3] at CO
    have HI := Lib.hid hin
    clear h1 h2 h3 h4 h5 h6 h7 hin
    go_enter Try.func13, Try.ntmps13
    go_wp2_with fail
    generalize hW : World.alloc (World.alloc (World.alloc w _) _) _ = W3
    have D1 := Lib.hid (show W3.heap[w.heap.size + 1]? = some (.cells #[.int .i64 0, .slice none 0 0, .int .i64 0] 42 (0, 0)) by rw [← hW]; exact (alloc3d w _ _ _).2.1)
    have D2 := Lib.hid (show W3.heap[w.heap.size + 2]? = some (.cells #[.int .i64 0, .int .i64 0, .int .i64 0, .int .i64 0, .slice none 0 0] 47 (0, 0)) by rw [← hW]; exact (alloc3d w _ _ _).2.2)
    have G0 := Lib.hid (show Below w.heap.size w W3 by rw [← hW]; exact GW.out _ _ _)
    have Z0 := Lib.hid (show w.heap.size + 2 < W3.heap.size by rw [← hW]; simp)
    clear hW
    refine (CO.out _ G0.out).mono ?_
    rintro e w1 ⟨v, rfl, hit, k1⟩
    obtain ⟨A3, c3, rfl⟩ := hit.form
    have R1 := (k1.block (w.heap.size + 1) (by have := Z0.out; omega)).trans D1.out
    have R2 := (k1.block (w.heap.size + 2) Z0.out).trans D2.out
    have z1 := Nat.lt_of_lt_of_le Z0.out k1.size
    have r0 : w1.cell? ⟨w.heap.size + 1, 0, none⟩ = some (.int .i64 0) := cell_of_row w1 _ 0 _ _ _ R1
    have r1 : w1.cell? ⟨w.heap.size + 1, 1, none⟩ = some (.slice none 0 0) := cell_of_row w1 _ 1 _ _ _ R1
    have r2 : w1.cell? ⟨w.heap.size + 1, 2, none⟩ = some (.int .i64 0) := cell_of_row w1 _ 2 _ _ _ R1
    have s0 : w1.cell? ⟨w.heap.size + 2, 0, none⟩ = some (.int .i64 0) := cell_of_row w1 _ 0 _ _ _ R2
    have s1 : w1.cell? ⟨w.heap.size + 2, 1, none⟩ = some (.int .i64 0) := cell_of_row w1 _ 1 _ _ _ R2
    have s2 : w1.cell? ⟨w.heap.size + 2, 2, none⟩ = some (.int .i64 0) := cell_of_row w1 _ 2 _ _ _ R2
    have s3 : w1.cell? ⟨w.heap.size + 2, 3, none⟩ = some (.int .i64 0) := cell_of_row w1 _ 3 _ _ _ R2
    have s4 : w1.cell? ⟨w.heap.size + 2, 4, none⟩ = some (.slice none 0 0) := cell_of_row w1 _ 4 _ _ _ R2
    have fr := fun j => frozen_of_row w1 (w.heap.size + 1) j _ _ R1
    have fs := fun j => frozen_of_row w1 (w.heap.size + 2) j _ _ R2
    have G1 := Lib.hid (bnext G0.out k1)
    have n1 : w.heap.size + 1 < w1.heap.size := by omega
    have A0 := Lib.hid (show Below w1.heap.size w1 (w1.alloc (.cells #[.int .i64 (d.day), .slice A3 d.cs.length c3, .int .i64 0] 42)) from (Below.refl _ _).alloc (Nat.le_refl _) _)
    have S0 := Lib.hid (show w1.heap.size < (w1.alloc (.cells #[.int .i64 (d.day), .slice A3 d.cs.length c3, .int .i64 0] 42)).heap.size by simp)
    have R1 := (A0.out.block (w.heap.size + 1) n1).trans R1
    have R2 := (A0.out.block (w.heap.size + 2) z1).trans R2
    clear k1 hit r0 r1 r2 s0 s1 s2 s3 s4 fr fs
    have r0 := cell_of_row _ (w.heap.size + 1) 0 _ _ _ R1
    have r1 := cell_of_row _ (w.heap.size + 1) 1 _ _ _ R1
    have r2 := cell_of_row _ (w.heap.size + 1) 2 _ _ _ R1
    have s0 := cell_of_row _ (w.heap.size + 2) 0 _ _ _ R2
    have s1 := cell_of_row _ (w.heap.size + 2) 1 _ _ _ R2
    have s2 := cell_of_row _ (w.heap.size + 2) 2 _ _ _ R2
    have s3 := cell_of_row _ (w.heap.size + 2) 3 _ _ _ R2
    have s4 := cell_of_row _ (w.heap.size + 2) 4 _ _ _ R2
    have fr := fun j => frozen_of_row _ (w.heap.size + 1) j _ _ R1
    have fs := fun j => frozen_of_row _ (w.heap.size + 2) j _ _ R2
    simp only [List.getElem?_toArray, List.getElem?_cons_zero, List.getElem?_cons_succ] at r0 r1 r2 s0 s1 s2 s3 s4
    clear R1 R2
    go_wp2_with fail
    generalize World.alloc w1 _ = W4 at A0 S0 r0 r1 r2 s0 s1 s2 s3 s4 fr fs ⊢
    refine (w64_any _ _ _ _).mono ?_
    rintro e w' ⟨rfl, rfl⟩
    rw [HI.out]
    go_wp2
    refine bodyPost_ret (v := .tuple #[.agg #[.int .i64 0, .slice none 0 0, .int .i64 0], .agg #[.int .i64 0, .int .i64 0, .int .i64 0, .int .i64 0, .slice none 0 0], .int .i64 2]) (by simp [results, Try.results13, go_sem, r0, r1, r2, s0, s1, s2, s3, s4]) rfl ?_
    refine ⟨_, _, rfl, ⟨[], rfl, ItsL.nil _ _⟩, OwnQ.nil _ _, ?_⟩
    repeat (refine Below.setCell ?_ (by first | (simp; done) | (simp; omega) | omega) _)
    exact G1.out.trans (A0.out.mono G1.out.size)
  · rw [h4, h5, h6, h7]
    rw [h1, h2, h3] at CO
    have HI := Lib.hid hin
    clear h1 h2 h3 h4 h5 h6 h7 hin
    go_enter Try.func13, Try.ntmps13
    go_wp2_with fail
    generalize hW : World.alloc (World.alloc (World.alloc w _) _) _ = W3
    have D1 := Lib.hid (show W3.heap[w.heap.size + 1]? = some (.cells #[.int .i64 0, .slice none 0 0, .int .i64 0] 42 (0, 0)) by rw [← hW]; exact (alloc3d w _ _ _).2.1)
    have D2 := Lib.hid (show W3.heap[w.heap.size + 2]? = some (.cells #[.int .i64 0, .int .i64 0, .int .i64 0, .int .i64 0, .slice none 0 0] 47 (0, 0)) by rw [← hW]; exact (alloc3d w _ _ _).2.2)
    have G0 := Lib.hid (show Below w.heap.size w W3 by rw [← hW]; exact GW.out _ _ _)
    have Z0 := Lib.hid (show w.heap.size + 2 < W3.heap.size by rw [← hW]; simp)
    clear hW
    refine (CO.out _ G0.out).mono ?_
    rintro e w1 ⟨v, rfl, hit, k1⟩
    obtain ⟨A3, c3, rfl⟩ := hit.form
    have IT := Lib.hid hit
    have R1 := Lib.hid ((k1.block (w.heap.size + 1) (by have := Z0.out; omega)).trans D1.out)
    have R2 := Lib.hid ((k1.block (w.heap.size + 2) Z0.out).trans D2.out)
    have z1 := Nat.lt_of_lt_of_le Z0.out k1.size
    have G1 := Lib.hid (bnext G0.out k1)
    have n0 := Z0.out
    clear k1 hit
    go_wp2_with fail
    refine (w64_any _ _ _ _).mono ?_
    rintro e w' ⟨rfl, rfl⟩
    rw [HI.out]
    have A0 := Lib.hid (show Below w1.heap.size w1 (w1.alloc (.cells #[.int .i64 d.day, .slice A3 d.cs.length c3, .int .i64 0] 42)) from (Below.refl _ _).alloc (Nat.le_refl _) _)
    have X0 := Lib.hid (heap_alloc_new w1 (.cells #[.int .i64 d.day, .slice A3 d.cs.length c3, .int .i64 0] 42))
    go_wp2
    generalize hW : World.alloc w1 _ = W4 at A0 X0 ⊢
    have S4 := Lib.hid (show w1.heap.size < W4.heap.size by rw [← hW]; simp)
    clear hW
    have b0 := Lib.hid (show Below W4.heap.size W4 W4.drew from (Below.refl _ _).drew)
    have bb := Lib.hid (bnext A0.out b0.out)
    have X1 := Lib.hid ((b0.out.block w1.heap.size S4.out).trans X0.out)
    have c0 : W4.drew.cell? ⟨w1.heap.size, 0, none⟩ = some (.int .i64 d.day) := cell_of_row _ _ 0 _ _ _ X1.out
    have c1 : W4.drew.cell? ⟨w1.heap.size, 1, none⟩ = some (.slice A3 d.cs.length c3) := cell_of_row _ _ 1 _ _ _ X1.out
    have c2 : W4.drew.cell? ⟨w1.heap.size, 2, none⟩ = some (.int .i64 0) := cell_of_row _ _ 2 _ _ _ X1.out
    obtain ⟨gi, rfl, hgi, hgl, i0, i1, i2, i3, u, i4, hq⟩ := (IT.out.below A0.out).at_ hlt
    obtain ⟨A6, c6, rfl⟩ := hq.form
    have HQ := Lib.hid hq
    have Y1 := Lib.hid ((bb.out.block (w.heap.size + 1) (by omega)).trans R1.out)
    have Y2 := Lib.hid ((bb.out.block (w.heap.size + 2) z1).trans R2.out)
    have r0 : W4.drew.cell? ⟨w.heap.size + 1, 0, none⟩ = some (.int .i64 0) := cell_of_row _ _ 0 _ _ _ Y1.out
    have r1 : W4.drew.cell? ⟨w.heap.size + 1, 1, none⟩ = some (.slice none 0 0) := cell_of_row _ _ 1 _ _ _ Y1.out
    have r2 : W4.drew.cell? ⟨w.heap.size + 1, 2, none⟩ = some (.int .i64 0) := cell_of_row _ _ 2 _ _ _ Y1.out
    have s0 : W4.drew.cell? ⟨w.heap.size + 2, 0, none⟩ = some (.int .i64 0) := cell_of_row _ _ 0 _ _ _ Y2.out
    have s1 : W4.drew.cell? ⟨w.heap.size + 2, 1, none⟩ = some (.int .i64 0) := cell_of_row _ _ 1 _ _ _ Y2.out
    have s2 : W4.drew.cell? ⟨w.heap.size + 2, 2, none⟩ = some (.int .i64 0) := cell_of_row _ _ 2 _ _ _ Y2.out
    have s3 : W4.drew.cell? ⟨w.heap.size + 2, 3, none⟩ = some (.int .i64 0) := cell_of_row _ _ 3 _ _ _ Y2.out
    have s4 : W4.drew.cell? ⟨w.heap.size + 2, 4, none⟩ = some (.slice none 0 0) := cell_of_row _ _ 4 _ _ _ Y2.out
    have fr := fun j => frozen_of_row W4.drew (w.heap.size + 1) j _ _ Y1.out
    have fs := fun j => frozen_of_row W4.drew (w.heap.size + 2) j _ _ Y2.out
    clear hq
    have e : ∀ b o, W4.drew.cell? ⟨b, o, none⟩ = W4.cell? ⟨b, o, none⟩ := fun _ _ => rfl
    have ef : ∀ b o, W4.drew.frozen? ⟨b, o, none⟩ = W4.frozen? ⟨b, o, none⟩ := fun _ _ => rfl
    have r0' := (e _ _).symm.trans r0
    have r1' := (e _ _).symm.trans r1
    have r2' := (e _ _).symm.trans r2
    have s0' := (e _ _).symm.trans s0
    have s1' := (e _ _).symm.trans s1
    have s2' := (e _ _).symm.trans s2
    have s3' := (e _ _).symm.trans s3
    have s4' := (e _ _).symm.trans s4
    have fr' := fun j => (ef _ j).symm.trans (fr j)
    have fs' := fun j => (ef _ j).symm.trans (fs j)
    have i0' := i0
    have i0 := (e _ _).trans i0
    have i1' := i1
    have i1 := (e _ _).trans i1
    have i2' := i2
    have i2 := (e _ _).trans i2
    have i3' := i3
    have i3 := (e _ _).trans i3
    have i4' := i4
    have i4 := (e _ _).trans i4
    have c0' := (e _ _).symm.trans c0
    have c1' := (e _ _).symm.trans c1
    have c2' := (e _ _).symm.trans c2
    have m1 : ¬ gi = w.heap.size + 1 := by omega
    have m2 : ¬ gi = w.heap.size + 2 := by omega
    have m3 : ¬ w1.heap.size = w.heap.size + 1 := by omega
    have m4 : ¬ w1.heap.size = w.heap.size + 2 := by omega
    clear e ef
    go_region_held3 (fun W1 => W1.cell? ⟨w1.heap.size, 0, none⟩ = some (.int .i64 d.day) ∧ W1.cell? ⟨w1.heap.size, 1, none⟩ = some (.slice (some ⟨gi, 0, none⟩) d.cs.length c3) ∧ W1.cell? ⟨w1.heap.size, 2, none⟩ = some (.int .i64 0) ∧ W1.cell? ⟨gi, n * 5, none⟩ = some (.int .i64 d.cs[n].st) ∧ W1.cell? ⟨gi, n * 5 + 1, none⟩ = some (.int .i64 d.cs[n].who) ∧ W1.cell? ⟨gi, n * 5 + 2, none⟩ = some (.int .i64 d.cs[n].due) ∧ W1.cell? ⟨gi, n * 5 + 3, none⟩ = some (.int .i64 d.cs[n].ren) ∧ W1.cell? ⟨gi, n * 5 + 4, none⟩ = some (.slice A6 d.cs[n].q.length c6)) ((simp only [drew_cell, far1 m1, far1 m2, far1 m3, far1 m4]; exact ⟨c0', c1', c2', i0', i1', i2', i3', i4'⟩)) (fail)
    all_goals
      go_wp2
      refine bodyPost_ret (v := .tuple #[.agg #[.int .i64 d.day, .slice (some ⟨gi, 0, none⟩) d.cs.length c3, .int .i64 0], .agg #[.int .i64 d.cs[n].st, .int .i64 d.cs[n].who, .int .i64 d.cs[n].due, .int .i64 d.cs[n].ren, .slice A6 d.cs[n].q.length c6], .int .i64 0]) (by simp [results, Try.results13, go_sem, r0', r1', r2', s0', s1', s2', s3', s4']) rfl ?_
      refine ⟨_, _, rfl, ?_, ?_, ?_⟩
      · obtain ⟨L, hL, hI⟩ := IT.out.below A0.out
        refine ⟨L, hL, ?_⟩
        refine ItsL.mono ?_ (show w.heap.size ≤ W3.heap.size by omega)
        refine ItsL.below ?_ (Below.refl _ _).drew
        repeat (refine ItsL.far ?_ _ _ _ (by omega))
        exact hI
      · refine OwnQ.mono ?_ (show w.heap.size ≤ W3.heap.size by omega)
        refine OwnQ.below ?_ (Below.refl _ _).drew
        repeat (refine OwnQ.far ?_ _ _ _ (by omega))
        exact HQ.out
      · refine Below.drew ?_
        repeat (refine Below.setCell ?_ (by first | (simp; done) | (simp; omega) | omega) _)
        exact bnext G1.out A0.out
end Go.Proofs.Ytmafjncaigllbab
