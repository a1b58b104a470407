/- The text of a book, by the model: a contract. Condition: no number of the book is below nought. -/
import Derived.Test.YtaahfcdpgcfmhaaDoorTxt
import Derived.Test.YtaahfcdpgcfmhaaDoorValid
import Derived.Test.YtaahfcdpgcfmhaaDoorQuiet
namespace Go.Proofs.YtaahfcdpgcfmhaaDoor
set_option linter.unusedSimpArgs false
set_option linter.unusedVariables false
set_option maxRecDepth 100000
open Go.RowKit

/-- What follows needs of a book alone. -/
structure Bk.Pos (b : Bk) : Prop where
  c : 0 ≤ b.c ∧ b.c ≤ 32767
  v : 0 ≤ b.v ∧ b.v ≤ 32767
  wi : 0 ≤ b.wi ∧ b.wi ≤ 32767
  hi : 0 ≤ b.hi ∧ b.hi ≤ 32767
  we : 0 ≤ b.we ∧ b.we ≤ 32767
  m0 : 0 ≤ b.m0 ∧ b.m0 ≤ 255
  m1 : 0 ≤ b.m1 ∧ b.m1 ≤ 255
  m2 : 0 ≤ b.m2 ∧ b.m2 ≤ 255
def mrkT (b : Bk) : List UInt8 := [UInt8.ofNat b.m0.toNat, UInt8.ofNat b.m1.toNat, UInt8.ofNat b.m2.toNat]
/-- The text of a book. -/
def bookT (b : Bk) : List UInt8 := dec b.c ++ ([32] ++ (mrkT b ++ ([32] ++ (dec b.v ++ ([32] ++ (dec b.wi ++ ([120] ++ (dec b.hi ++ ([32] ++ dec b.we)))))))))
theorem bookT_len {b : Bk} (h : b.Pos) : (bookT b).length ≤ 110 := by
  have c := dec_len (z := b.c) (by have := h.c; omega)
  have v := dec_len (z := b.v) (by have := h.v; omega)
  have wi := dec_len (z := b.wi) (by have := h.wi; omega)
  have hi := dec_len (z := b.hi) (by have := h.hi; omega)
  have we := dec_len (z := b.we) (by have := h.we; omega)
  unfold bookT mrkT
  simp only [List.length_append, List.length_cons, List.length_nil]
  omega
set_option maxHeartbeats 8000000 in
theorem l01Text_step (b : Bk) (g o : Nat) (SC SM SV SW SH SE : ByteArray) (zc : SC.size ≤ 20) (zm : SM.size ≤ 20) (zv : SV.size ≤ 20) (zw : SW.size ≤ 20) (zh : SH.size ≤ 20) (ze : SE.size ≤ 20) (w : World) (hg : g < w.heap.size)
    (h0 : w.cell? ⟨g, o, none⟩ = some (.int .i16 b.c)) (h4 : w.cell? ⟨g, o + 4, none⟩ = some (.int .i16 b.v)) (h5 : w.cell? ⟨g, o + 5, none⟩ = some (.int .i16 b.wi)) (h6 : w.cell? ⟨g, o + 6, none⟩ = some (.int .i16 b.hi)) (h7 : w.cell? ⟨g, o + 7, none⟩ = some (.int .i16 b.we))
    (bd : b.Pos)
    (LC : ∀ W, Calls Tryd.prog 129 #[.int .i64 b.c] W fun e w' => e = .returned (.string SC) ∧ Below W.heap.size W w')
    (LV : ∀ W, Calls Tryd.prog 129 #[.int .i64 b.v] W fun e w' => e = .returned (.string SV) ∧ Below W.heap.size W w')
    (LW : ∀ W, Calls Tryd.prog 129 #[.int .i64 b.wi] W fun e w' => e = .returned (.string SW) ∧ Below W.heap.size W w')
    (LH : ∀ W, Calls Tryd.prog 129 #[.int .i64 b.hi] W fun e w' => e = .returned (.string SH) ∧ Below W.heap.size W w')
    (LE : ∀ W, Calls Tryd.prog 129 #[.int .i64 b.we] W fun e w' => e = .returned (.string SE) ∧ Below W.heap.size W w')
    (DM : ∀ p : BelowBy w, (convert 121 9 (.slice (some ⟨g, o + 1, none⟩) 3 3)).run Tryd.prog p.W = .ok (.string SM) p.W) :
    Calls Tryd.prog 77 #[.pointer (some ⟨g, o, none⟩)] w fun e w' => e = .returned (.string (SC ++ ⟨#[32]⟩ ++ SM ++ ⟨#[32]⟩ ++ SV ++ ⟨#[32]⟩ ++ SW ++ ⟨#[120]⟩ ++ SH ++ ⟨#[32]⟩ ++ SE)) ∧ Below w.heap.size w w' := by
  obtain ⟨⟨b1, b2⟩, ⟨b3, b4⟩, ⟨b5, b6⟩, ⟨b7, b8⟩, ⟨b9, b10⟩, -, -, -⟩ := bd
  have HC := Lib.hid LC
  have HV := Lib.hid LV
  have HW := Lib.hid LW
  have HH := Lib.hid LH
  have HE := Lib.hid LE
  have K5 := Lib.hid h5
  have K6 := Lib.hid h6
  have K7 := Lib.hid h7
  have p0 := belowBy_cell hg h0
  have p4 := belowBy_cell hg h4
  have o1 : (⟨#[32]⟩ : ByteArray).size = 1 := rfl
  have o2 : (⟨#[120]⟩ : ByteArray).size = 1 := rfl
  have a1 : ¬ (9223372036854775807 < SC.size + 1) := by omega
  have a2 : ¬ (9223372036854775807 < SC.size + 1 + SM.size) := by omega
  have a3 : ¬ (9223372036854775807 < SC.size + 1 + SM.size + 1) := by omega
  have a4 : ¬ (9223372036854775807 < SC.size + 1 + SM.size + 1 + SV.size) := by omega
  have a5 : ¬ (9223372036854775807 < SC.size + 1 + SM.size + 1 + SV.size + 1) := by omega
  have ZT := Lib.hid (show (SC ++ ⟨#[32]⟩ ++ SM ++ ⟨#[32]⟩ ++ SV ++ ⟨#[32]⟩).size ≤ 63 by simp only [ByteArray.size_append, o1]; omega)
  clear LC LV LW LH LE h0 h4 h5 h6 h7
  go_enter Tryd.func77, Tryd.ntmps77
  go_wp2
  refine wp_region_below (by kernel_rfl) (by kernel_rfl) ?_
  iterate 23 (first | go_big_quiet_step ((go_at_call 129; with_reducible first | exact calls_below (HC.out _) | exact calls_below (HV.out _))) | quiet_step ((go_at_call 129; with_reducible first | exact calls_below (HC.out _) | exact calls_below (HV.out _))))
  refine wpQuiet_nil ?_
  rintro w2 ⟨⟨_, hq⟩, rfl⟩
  have B2 := Lib.hid hq
  have k5 := Lib.hid ((hq.cell (p := ⟨g, o + 5, none⟩) hg).trans K5.out)
  have k6 := Lib.hid ((hq.cell (p := ⟨g, o + 6, none⟩) hg).trans K6.out)
  have k7 := Lib.hid ((hq.cell (p := ⟨g, o + 7, none⟩) hg).trans K7.out)
  have hg2 : g < w2.heap.size := Nat.lt_of_lt_of_le hg hq.size
  clear p0 p4 DM hq a1 a2 a3 a4 a5
  generalize hT : SC ++ { data := #[32] } ++ SM ++ { data := #[32] } ++ SV ++ { data := #[32] } = T at ZT ⊢
  have zt := ZT.out
  have p5 := belowBy_cell hg2 k5.out
  have p6 := belowBy_cell hg2 k6.out
  have p7 := belowBy_cell hg2 k7.out
  have a1 : ¬ (9223372036854775807 < T.size + SW.size) := by omega
  have a2 : ¬ (9223372036854775807 < T.size + SW.size + 1) := by omega
  have a3 : ¬ (9223372036854775807 < T.size + SW.size + 1 + SH.size) := by omega
  have a4 : ¬ (9223372036854775807 < T.size + SW.size + 1 + SH.size + 1) := by omega
  have a5 : ¬ (9223372036854775807 < T.size + SW.size + 1 + SH.size + 1 + SE.size) := by omega
  have HT := Lib.hid hT
  clear hT ZT
  go_wp2
  refine wp_region_below (by kernel_rfl) (by kernel_rfl) ?_
  iterate 25 (first | go_big_quiet_step ((go_at_call 129; with_reducible first | exact calls_below (HW.out _) | exact calls_below (HH.out _) | exact calls_below (HE.out _))) | quiet_step ((go_at_call 129; with_reducible first | exact calls_below (HW.out _) | exact calls_below (HH.out _) | exact calls_below (HE.out _))))
  refine wpQuiet_nil ?_
  rintro w3 ⟨⟨_, hq⟩, rfl⟩
  go_wp2
  go_ret
  exact ⟨by rw [HT.out]; rfl, bnext B2.out hq⟩
theorem utoN {z : Int} (h : 0 ≤ z ∧ z ≤ 255) : ((UInt8.ofNat z.toNat).toNat : Int) = z := by
  rw [UInt8.toNat_ofNat']
  omega
theorem l01Text_any (b : Bk) (bd : b.Pos) (g o : Nat) (w : World) (hg : g < w.heap.size)
    (h0 : w.cell? ⟨g, o, none⟩ = some (.int .i16 b.c)) (h1 : w.cell? ⟨g, o + 1, none⟩ = some (.int .u8 b.m0)) (h2 : w.cell? ⟨g, o + 2, none⟩ = some (.int .u8 b.m1)) (h3 : w.cell? ⟨g, o + 3, none⟩ = some (.int .u8 b.m2)) (h4 : w.cell? ⟨g, o + 4, none⟩ = some (.int .i16 b.v)) (h5 : w.cell? ⟨g, o + 5, none⟩ = some (.int .i16 b.wi)) (h6 : w.cell? ⟨g, o + 6, none⟩ = some (.int .i16 b.hi)) (h7 : w.cell? ⟨g, o + 7, none⟩ = some (.int .i16 b.we)) :
    Calls Tryd.prog 77 #[.pointer (some ⟨g, o, none⟩)] w fun e w' => e = .returned (.string (strOf (bookT b))) ∧ Below w.heap.size w w' := by
  have c := dec_len (z := b.c) (by have := bd.c; omega)
  have v := dec_len (z := b.v) (by have := bd.v; omega)
  have wi := dec_len (z := b.wi) (by have := bd.wi; omega)
  have hi := dec_len (z := b.hi) (by have := bd.hi; omega)
  have we := dec_len (z := b.we) (by have := bd.we; omega)
  have DM : ∀ p : BelowBy w, (convert 121 9 (.slice (some ⟨g, o + 1, none⟩) 3 3)).run Tryd.prog p.W = .ok (.string (strOf (mrkT b))) p.W := fun p =>
    run_convert_bytes_back (P := Tryd.prog) p.W 121 9 5 ⟨g, o + 1, none⟩ 3 (mrkT b) Tryd.underlying121 Tryd.underlying5 Tryd.underlying9 (fun j hj => by
      rw [Addr.add_lit]
      have q1 := belowBy_cell hg h1 p
      have q2 := belowBy_cell hg h2 p
      have q3 := belowBy_cell hg h3 p
      have hj' : j = 0 ∨ j = 1 ∨ j = 2 := by simp only [mrkT, List.length_cons, List.length_nil] at hj; omega
      rcases hj' with rfl | rfl | rfl
      · rw [show (mrkT b)[0] = UInt8.ofNat b.m0.toNat from rfl, utoN bd.m0]; exact q1
      · rw [show (mrkT b)[1] = UInt8.ofNat b.m1.toNat from rfl, utoN bd.m1]; exact q2
      · rw [show (mrkT b)[2] = UInt8.ofNat b.m2.toNat from rfl, utoN bd.m2]; exact q3)
  refine (l01Text_step b g o _ _ _ _ _ _ (by rw [strOf_size]; exact c) (by rw [strOf_size]; show 3 ≤ 20; decide) (by rw [strOf_size]; exact v) (by rw [strOf_size]; exact wi) (by rw [strOf_size]; exact hi) (by rw [strOf_size]; exact we) w hg h0 h4 h5 h6 h7 bd
    (fun W => dec_any bd.c.1 (by have := bd.c; omega) W) (fun W => dec_any bd.v.1 (by have := bd.v; omega) W) (fun W => dec_any bd.wi.1 (by have := bd.wi; omega) W) (fun W => dec_any bd.hi.1 (by have := bd.hi; omega) W) (fun W => dec_any bd.we.1 (by have := bd.we; omega) W) DM).mono fun e w' h => ⟨h.1.trans ?_, h.2⟩
  rw [show (⟨#[32]⟩ : ByteArray) = strOf [32] from rfl, show (⟨#[120]⟩ : ByteArray) = strOf [120] from rfl]
  simp only [strOf_cat, List.append_assoc]
  rfl
end Go.Proofs.YtaahfcdpgcfmhaaDoor
