/- The law of SwappedLabels, walked. No condition. -/
import Derived.Test.YtnkkabbndmfhmaaNlI
import Derived.Deep.RegionHeld3
namespace Go.Proofs.Ytnkkabbndmfhmaa
set_option linter.unusedSimpArgs false
set_option linter.unusedVariables false
set_option maxRecDepth 100000
open Go.RowKit

theorem StrsOf.otherSwappedLabels {w w' : World} {v : Value} {ss : List (List UInt8)} {row : Option Nat} {B : Nat} (h : StrsOf w v ss) (hg : w.grownBy w' row) (hb : ∀ k, v.ownBlock = some k → k < B) (hr : ∀ k, row = some k → B ≤ k) : StrsOf w' v ss := by
  obtain ⟨A, c, rfl, hat⟩ := h
  refine ⟨A, c, rfl, fun h0 => ?_⟩
  obtain ⟨g, o, rfl, hl, ha⟩ := hat h0
  refine ⟨g, o, rfl, Nat.lt_of_lt_of_le hl hg.size, fun i hi => ?_⟩
  exact (World.cell?_of_block (a := ⟨_, _, none⟩) (hg.block g hl (fun e => by have h1 := hb g rfl; have h2 := hr g e.symm; omega))).trans (ha i hi)
theorem StrsOf.ltSwappedLabels {w : World} {v : Value} {ss : List (List UInt8)} (h : StrsOf w v ss) (h0 : 0 < ss.length) : ∀ k, v.ownBlock = some k → k < w.heap.size := by
  obtain ⟨A, c, rfl, hat⟩ := h
  obtain ⟨g, o, rfl, hl, _⟩ := hat h0
  intro k hk
  obtain rfl : g = k := by injection hk
  exact hl
set_option maxHeartbeats 8000000 in
theorem walkSwappedLabels (s0 : ByteArray) (wf0 : s0.size ≤ maxLen) (w : World) :
    Calls Try.prog 6 #[.string s0] w fun e w' => e = .returned (.bool true) ∧ Below w.heap.size w w' := by
  obtain ⟨T, rfl⟩ : ∃ T, tB T = s0 := ⟨s0.data.toList, tB_data s0⟩
  rw [tB_size] at wf0
  have hs := tB_size T
  have hm2 : T.length ≤ 9223372036854775807 := by unfold maxLen at wf0; omega
  have CS := Lib.hid (fun W => specSwapped_any T wf0 W)
  have CI := Lib.hid (fun W => swappedLabels_any T wf0 W)
  generalize tB T = S at *
  by_cases hbig : (1048576 : Int) < (T.length : Int)
  · go_enter Try.func6, Try.ntmps6
    go_wp2
    go_ret
    exact ⟨rfl, Below.refl _ _⟩
  · obtain ⟨ss, hss⟩ : ∃ ss, swL T = ss := ⟨_, rfl⟩
    have hn : ss.length ≤ 400 := by rw [← hss]; exact (by unfold swL; split; exact Nat.le_trans (lbs_len _ _ _) (by decide); exact Nat.zero_le _)
    rw [hss] at CS CI
    clear hss
    generalize nlC T = q at *
    go_enter Try.func6, Try.ntmps6
    go_wp2_with fail
    refine (CS.out _).mono ?_
    rintro e w1 ⟨u0, rfl, su, h1⟩
    have S1 := Lib.hid su
    have B1 := Lib.hid h1
    clear su h1
    go_wp2_with fail
    refine (CI.out _).mono ?_
    rintro e w2 ⟨u1, rfl, ou, h2⟩
    have S2 := Lib.hid (S1.out.below h2)
    have O2 := Lib.hid ou
    have B2 := Lib.hid (bnext B1.out h2)
    have ZZ := Lib.hid h2.size
    clear ou h2
    go_wp2_with fail
    refine (eqStringS_same _ _ ss _ (ownStrs O2.out rfl) S2.out hn).mono ?_
    rintro e w3 ⟨rfl, h3⟩
    have S3 := Lib.hid (S2.out.below h3)
    have O3 := Lib.hid (ownBelow O2.out h3)
    have B3 := Lib.hid (bnext B2.out h3)
    have z1 := B1.out.size
    have OV := Lib.hid (fun k (h : u1.ownBlock = some k) => (O2.out.lt k h).1)
    clear h3
    go_wp2_with fail
    refine (markStringS_any u1 ss.length _ w1.heap.size _ hn (by rw [List.length_map]) O3.out).mono ?_
    rintro e w4 ⟨rfl, o4, g4⟩
    have O4 := Lib.hid o4
    have B4 := Lib.hid (B3.out.grown g4 B3.out.size (fun k hk => by have := OV.out k hk; omega))
    have S4 := Lib.hid (show StrsOf w4 u0 ss by
      by_cases h0 : 0 < ss.length
      · exact S3.out.otherSwappedLabels g4 (StrsOf.ltSwappedLabels S1.out h0) (fun k hk => OV.out k hk)
      · obtain ⟨A, c, rfl, _⟩ := S3.out
        exact ⟨A, c, rfl, fun h => absurd h h0⟩)
    clear o4 g4
    go_wp2_with fail
    refine (heldStringS_any u1 ss.length _ hn (ownStrs O4.out (mtR_len _).symm)).mono ?_
    rintro e w5 ⟨rfl, h5⟩
    have S5 := Lib.hid (S4.out.below h5)
    have O5 := Lib.hid (ownBelow O4.out h5)
    have B5 := Lib.hid (bnext B4.out h5)
    clear h5
    have kn : ¬ (1 + (ss.length : Int)) < 0 := by omega
    go_wp2_with fail
    refine (CI.out _).mono ?_
    rintro e w6 ⟨u2, rfl, o6, h6⟩
    have S6 := Lib.hid (S5.out.below h6)
    have O6 := Lib.hid (ownBelow O5.out h6)
    have P6 := Lib.hid o6
    have B6 := Lib.hid (bnext B5.out h6)
    clear o6 h6
    go_wp2_with fail
    refine (eqStringS_same _ _ ss _ (ownStrs P6.out rfl) S6.out hn).mono ?_
    rintro e w7 ⟨rfl, h7⟩
    have O7 := Lib.hid (ownBelow O6.out h7)
    have B7 := Lib.hid (bnext B6.out h7)
    clear h7
    go_wp2_with fail
    refine (heldStringS_any u1 ss.length _ hn (ownStrs O7.out (mtR_len _).symm)).mono ?_
    rintro e w8 ⟨rfl, h8⟩
    have B8 := Lib.hid (bnext B7.out h8)
    clear h8
    go_wp2
    go_ret
    exact ⟨rfl, B8.out⟩
end Go.Proofs.Ytnkkabbndmfhmaa
