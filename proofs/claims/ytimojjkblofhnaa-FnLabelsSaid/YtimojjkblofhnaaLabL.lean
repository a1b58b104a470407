/- The label of a book, by the model: a contract. Condition: the book is valid. -/
import Derived.Test.YtimojjkblofhnaaLabK
import Derived.Test.YtimojjkblofhnaaLabO
import Derived.Test.YtimojjkblofhnaaQuiet
namespace Go.Proofs.Ytimojjkblofhnaa
set_option linter.unusedSimpArgs false
set_option linter.unusedVariables false
set_option maxRecDepth 100000
open Go.RowKit

theorem byteStr (z : Int) (hz : 0 ≤ z ∧ z ≤ 255) (W : World) (g : Nat) (h : W.cell? ⟨g, 0, none⟩ = some (.int .u8 z)) :
    (convert 22 9 (.slice (some ⟨g, 0, none⟩) 1 1)).run Try.prog W = .ok (.string ⟨#[UInt8.ofNat z.toNat]⟩) W := by
  have := run_convert_bytes_back (P := Try.prog) W 22 9 5 ⟨g, 0, none⟩ 1 [UInt8.ofNat z.toNat] Try.underlying22 Try.underlying5 Try.underlying9 (fun j hj => by
    obtain rfl : j = 0 := by simpa using hj
    rw [Addr.add_lit, h]
    simp
    omega)
  exact this

theorem utoNat {z : Int} (h : 0 ≤ z ∧ z ≤ 255) : ((UInt8.ofNat z.toNat).toNat : Int) = z := by
  rw [UInt8.toNat_ofNat']
  omega
set_option maxHeartbeats 4000000 in
theorem l07Label_step (b : Bk) (cb : 0 ≤ b.c ∧ b.c ≤ 999) (vb : 0 ≤ b.v ∧ b.v ≤ 99) (g : Nat) (z : Int) (hz : 0 ≤ z ∧ z ≤ 255) (S3 SM S2 : ByteArray) (z3 : S3.size = 3) (zm : SM.size = 3) (z2 : S2.size = 2) (w : World) (hg : g < w.heap.size)
    (hc : w.cell? ⟨g, 0, none⟩ = some (.int .i16 b.c)) (hv : w.cell? ⟨g, 4, none⟩ = some (.int .i16 b.v))
    (L1 : ∀ W, Calls Try.prog 38 #[.int .i64 b.c, .int .i64 3] W fun e w' => e = .returned (.string S3) ∧ Below W.heap.size W w')
    (L2 : ∀ W, Calls Try.prog 38 #[.int .i64 b.v, .int .i64 2] W fun e w' => e = .returned (.string S2) ∧ Below W.heap.size W w')
    (DM : ∀ p : BelowBy w, (convert 22 9 (.slice (some ⟨g, 1, none⟩) 3 3)).run Try.prog p.W = .ok (.string SM) p.W)
    (KC : ∀ W, Calls Try.prog 39 #[.string (S3 ++ SM ++ S2)] W fun e w' => e = .returned (.int .u8 z) ∧ Below W.heap.size W w') :
    Calls Try.prog 22 #[.pointer (some ⟨g, 0, none⟩)] w fun e w' => e = .returned (.string (S3 ++ SM ++ S2 ++ ⟨#[UInt8.ofNat z.toNat]⟩)) ∧ Below w.heap.size w w' := by
  obtain ⟨c1, c2⟩ := cb
  obtain ⟨v1, v2⟩ := vb
  have H1 := Lib.hid L1
  have H2 := Lib.hid L2
  have HK := Lib.hid KC
  have OB := Lib.hid (byteStr z hz)
  have p0 := belowBy_cell hg hc
  have p4 := belowBy_cell hg hv
  have a1 : ¬ (9223372036854775807 < S3.size + SM.size) := by omega
  have a2 : (S3 ++ SM).size = 6 := by rw [ByteArray.size_append]; omega
  have a3 : ¬ (9223372036854775807 < (S3 ++ SM).size + S2.size) := by omega
  have a4 : (S3 ++ SM ++ S2).size = 8 := by rw [ByteArray.size_append]; omega
  have a5 : ¬ (9223372036854775807 < (S3 ++ SM ++ S2).size + 1) := by omega
  clear L1 L2 KC hc hv
  go_enter Try.func22, Try.ntmps22
  go_wp2
  refine wp_region_below (by kernel_rfl) (by kernel_rfl) ?_
  iterate 20 (first | go_big_quiet_step ((go_at_call 38; with_reducible first | exact calls_below (H1.out _) | exact calls_below (H2.out _))) | quiet_step ((go_at_call 38; with_reducible first | exact calls_below (H1.out _) | exact calls_below (H2.out _))))
  refine wpQuiet_nil ?_
  rintro w2 ⟨⟨_, hq⟩, rfl⟩
  have B2 := Lib.hid hq
  clear p0 p4 DM hq
  go_wp2_with fail
  refine (HK.out _).mono ?_
  rintro e w3 ⟨rfl, h3⟩
  have B3 := Lib.hid (bnext B2.out h3)
  clear h3
  have OX := OB.out (w3.alloc (.cells #[.int .u8 z] 5)) w3.heap.size (cell_of_row _ _ 0 _ _ _ (heap_alloc_new w3 _))
  go_wp2
  go_ret
  exact ⟨rfl, B3.out.alloc B3.out.size _⟩
theorem l07Label_any (b : Bk) (wb : b.Wf) (hk : bookB b = true) (g : Nat) (w : World) (hg : g < w.heap.size)
    (h0 : w.cell? ⟨g, 0, none⟩ = some (.int .i16 b.c)) (h1 : w.cell? ⟨g, 1, none⟩ = some (.int .u8 b.m0)) (h2 : w.cell? ⟨g, 2, none⟩ = some (.int .u8 b.m1)) (h3 : w.cell? ⟨g, 3, none⟩ = some (.int .u8 b.m2)) (h4 : w.cell? ⟨g, 4, none⟩ = some (.int .i16 b.v)) :
    Calls Try.prog 22 #[.pointer (some ⟨g, 0, none⟩)] w fun e w' => e = .returned (.string (labR b)) ∧ Below w.heap.size w w' := by
  obtain ⟨hc, hv, m0, m1, m2, _⟩ := bookB_bd hk
  obtain ⟨n, hn⟩ : ∃ n : Nat, b.c = (n : Int) := ⟨b.c.toNat, by omega⟩
  obtain ⟨v, hvn⟩ : ∃ v : Nat, b.v = (v : Int) := ⟨b.v.toNat, by omega⟩
  have e3 : padT 3 (Lib.decDigits n) = bytesOf [dgI (b.c / 100), dgI (b.c / 10), dgI b.c] := by rw [hn]; exact pad3 n (by omega)
  have e2 : padT 2 (Lib.decDigits v) = bytesOf [dgI (b.v / 10), dgI b.v] := by rw [hvn]; exact pad2 v (by omega)
  have L1 := fun W => l07Digits_any n 3 (by omega) (by omega) W
  have L2 := fun W => l07Digits_any v 2 (by omega) (by omega) W
  rw [← hn, e3] at L1
  rw [← hvn, e2] at L2
  have hcat : (⟨(bytesOf [dgI (b.c / 100), dgI (b.c / 10), dgI b.c]).toArray⟩ : ByteArray) ++ ⟨(bytesOf [b.m0, b.m1, b.m2]).toArray⟩ ++ ⟨(bytesOf [dgI (b.v / 10), dgI b.v]).toArray⟩ = ⟨(bytesOf (lab8 b)).toArray⟩ := rfl
  have good : ∀ z ∈ lab8 b, GoodZ z := by
    intro z hz
    unfold lab8 at hz
    simp only [List.mem_cons, List.not_mem_nil, or_false] at hz
    unfold GoodZ
    rcases hz with rfl | rfl | rfl | rfl | rfl | rfl | rfl | rfl
    all_goals first | (have := dgI_bd (b.c / 100); omega) | (have := dgI_bd (b.c / 10); omega) | (have := dgI_bd b.c; omega) | (have := dgI_bd (b.v / 10); omega) | (have := dgI_bd b.v; omega) | omega
  have KC := fun W => l07Check_any ⟨(bytesOf (lab8 b)).toArray⟩ (lab8 b) rfl (fun k hk => ⟨by simpa [ByteArray.size, bytesOf_len] using hk, by
    have := bytesOf_at (lab8_bd wb) k hk
    exact this⟩) good W
  rw [← hcat] at KC
  have DM : ∀ p : BelowBy w, (convert 22 9 (.slice (some ⟨g, 1, none⟩) 3 3)).run Try.prog p.W = .ok (.string ⟨(bytesOf [b.m0, b.m1, b.m2]).toArray⟩) p.W := fun p =>
    run_convert_bytes_back (P := Try.prog) p.W 22 9 5 ⟨g, 1, none⟩ 3 (bytesOf [b.m0, b.m1, b.m2]) Try.underlying22 Try.underlying5 Try.underlying9 (fun j hj => by
      rw [Addr.add_lit]
      have q1 := belowBy_cell hg h1 p
      have q2 := belowBy_cell hg h2 p
      have q3 := belowBy_cell hg h3 p
      have hj' : j = 0 ∨ j = 1 ∨ j = 2 := by rw [bytesOf_len] at hj; simp only [List.length_cons, List.length_nil] at hj; omega
      rcases hj' with rfl | rfl | rfl
      · rw [show (bytesOf [b.m0, b.m1, b.m2])[0] = UInt8.ofNat b.m0.toNat from rfl, utoNat (by omega)]; exact q1
      · rw [show (bytesOf [b.m0, b.m1, b.m2])[1] = UInt8.ofNat b.m1.toNat from rfl, utoNat (by omega)]; exact q2
      · rw [show (bytesOf [b.m0, b.m1, b.m2])[2] = UInt8.ofNat b.m2.toNat from rfl, utoNat (by omega)]; exact q3)
  refine (l07Label_step b hc hv g (chk (lab8 b)) (by have := chk_bd (lab8 b); omega) _ _ _ rfl rfl rfl w hg h0 h4 L1 L2 DM KC).mono fun e w' h => ⟨h.1.trans ?_, h.2⟩
  unfold labR labS labL
  rw [hk, hcat]
  rfl
set_option maxHeartbeats 4000000 in
theorem specLabelOf_any (b : Bk) (wb : b.Wf) (w : World) :
    Calls Try.prog 7 #[.agg #[.int .i16 b.c, .int .u8 b.m0, .int .u8 b.m1, .int .u8 b.m2, .int .i16 b.v, .int .i16 b.wi, .int .i16 b.hi, .int .i16 b.we]] w fun e w' => e = .returned (.string (labR b)) ∧ Below w.heap.size w w' := by
  have GX := Lib.hid (show Below w.heap.size w (w.alloc (.cells #[.int .i16 b.c, .int .u8 b.m0, .int .u8 b.m1, .int .u8 b.m2, .int .i16 b.v, .int .i16 b.wi, .int .i16 b.hi, .int .i16 b.we] 27)) from (Below.refl _ _).alloc (Nat.le_refl _) _)
  have BX := Lib.hid (heap_alloc_new w (.cells #[.int .i16 b.c, .int .u8 b.m0, .int .u8 b.m1, .int .u8 b.m2, .int .i16 b.v, .int .i16 b.wi, .int .i16 b.hi, .int .i16 b.we] 27))
  have YX := Lib.hid (show w.heap.size < (w.alloc (.cells #[.int .i16 b.c, .int .u8 b.m0, .int .u8 b.m1, .int .u8 b.m2, .int .i16 b.v, .int .i16 b.wi, .int .i16 b.hi, .int .i16 b.we] 27)).heap.size by simp)
  have VB := Lib.hid (fun W g o h0 h1 h2 h3 h4 h5 h6 h7 hg => l01Book_any b wb g o W h0 h1 h2 h3 h4 h5 h6 h7 hg)
  have LL := Lib.hid (fun (hk : bookB b = true) W g hg h0 h1 h2 h3 h4 => l07Label_any b wb hk g W hg h0 h1 h2 h3 h4)
  have E := Lib.hid (fun (hk : bookB b = false) => show labR b = ⟨#[]⟩ by unfold labR; rw [hk]; rfl)
  go_enter Try.func7, Try.ntmps7
  go_upto_region 1 with (fail)
  generalize World.alloc w _ = W1 at GX BX YX ⊢
  go_wp2_with fail
  refine (VB.out W1 w.heap.size 0 (cell_of_row W1 _ 0 _ _ _ BX.out) (cell_of_row W1 _ 1 _ _ _ BX.out) (cell_of_row W1 _ 2 _ _ _ BX.out) (cell_of_row W1 _ 3 _ _ _ BX.out) (cell_of_row W1 _ 4 _ _ _ BX.out) (cell_of_row W1 _ 5 _ _ _ BX.out) (cell_of_row W1 _ 6 _ _ _ BX.out) (cell_of_row W1 _ 7 _ _ _ BX.out) YX.out).mono ?_
  rintro e w2 ⟨rfl, h2⟩
  have hbx := Lib.hid ((h2.block _ YX.out).trans BX.out)
  have G2 := Lib.hid (bnext GX.out h2)
  have Z2 := Lib.hid (Nat.lt_of_lt_of_le YX.out h2.size)
  clear h2
  cases hk : bookB b
  · have E2 := Lib.hid (E.out hk)
    go_wp2
    go_ret
    exact ⟨by rw [E2.out]; rfl, G2.out⟩
  · have LK := Lib.hid (LL.out hk w2 w.heap.size Z2.out (cell_of_row w2 _ 0 _ _ _ hbx.out) (cell_of_row w2 _ 1 _ _ _ hbx.out) (cell_of_row w2 _ 2 _ _ _ hbx.out) (cell_of_row w2 _ 3 _ _ _ hbx.out) (cell_of_row w2 _ 4 _ _ _ hbx.out))
    go_wp2_with fail
    refine LK.out.mono ?_
    rintro e w3 ⟨rfl, h3⟩
    go_wp2
    go_ret
    exact ⟨rfl, bnext G2.out h3⟩
end Go.Proofs.Ytimojjkblofhnaa
