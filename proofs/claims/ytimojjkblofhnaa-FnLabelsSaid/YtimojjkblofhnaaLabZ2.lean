/- ReadLabel, by the program: a contract. No condition. -/
import Derived.Test.YtimojjkblofhnaaLabZ
import Derived.Test.YtimojjkblofhnaaKeys
namespace Go.Proofs.Ytimojjkblofhnaa
set_option linter.unusedSimpArgs false
set_option linter.unusedVariables false
set_option maxRecDepth 100000
open Go.RowKit

theorem zl_bd (T : ByteArray) : ∀ z ∈ zl T, 0 ≤ z ∧ z ≤ 255 := by
  intro z hz
  unfold zl at hz
  obtain ⟨u, _, rfl⟩ := List.mem_map.1 hz
  have := u.toNat_lt
  omega
theorem getD_bd (T : ByteArray) (k : Nat) (h : k < T.size) : 0 ≤ (zl T).getD k 0 ∧ (zl T).getD k 0 ≤ 255 := by
  rw [zl_at T k h]
  have := (T[k]'h).toNat_lt
  omega
theorem list3 (L : List Int) (h : L.length = 3) : [L.getD 0 0, L.getD 1 0, L.getD 2 0] = L := by
  match L, h with
  | [a, b, c], _ => rfl
theorem marks_eq (T : ByteArray) (h9 : T.size = 9) : (⟨(bytesOf [(bkT T).m0, (bkT T).m1, (bkT T).m2]).toArray⟩ : ByteArray) = T.extract 3 6 := by
  have e2 : (T.extract 3 6).size = 3 := by rw [ByteArray.size_extract]; omega
  have wb := bkT_wf T h9
  have b0 := wb.m0
  have b1 := wb.m1
  have b2 := wb.m2
  apply zl_eq
  rw [zl_bytes (by
    intro z hz
    simp only [List.mem_cons, List.not_mem_nil, or_false] at hz
    rcases hz with rfl | rfl | rfl <;> assumption)]
  have h2 : (zl (T.extract 3 6)).length = 3 := by rw [zl_len]; exact e2
  have e0 : (bkT T).m0 = (zl (T.extract 3 6)).getD 0 0 := by unfold bkT; with_reducible rfl
  have e1 : (bkT T).m1 = (zl (T.extract 3 6)).getD 1 0 := by unfold bkT; with_reducible rfl
  have e3 : (bkT T).m2 = (zl (T.extract 3 6)).getD 2 0 := by unfold bkT; with_reducible rfl
  rw [e0, e1, e3]
  generalize zl (T.extract 3 6) = L at *
  exact list3 L h2
set_option maxHeartbeats 4000000 in
theorem readLabel_any (T : ByteArray) (hm : T.size ≤ maxLen) (w : World) :
    Calls Try.prog 8 #[.string T] w fun e w' => e = .returned (.tuple #[.int .i64 (rdC T), .string (rdM T), .int .i64 (rdV T), .int .i64 (rdE T)]) ∧ Below w.heap.size w w' := by
  have H := Lib.hid (fun W => bookOf_any T hm W)
  cases hb : isB T
  · have E := Lib.hid (show rdC T = 0 ∧ rdM T = ⟨#[]⟩ ∧ rdV T = 0 ∧ rdE T = 5 by unfold rdC rdM rdV rdE; rw [hb]; exact ⟨rfl, rfl, rfl, rfl⟩)
    rw [hb] at H
    generalize bkR T = b at *
    clear hb
    go_enter Try.func8, Try.ntmps8
    go_wp2_with fail
    refine (H.out _).mono ?_
    rintro e w1 ⟨rfl, h1⟩
    have z1 := h1.size
    go_wp2
    (try simp only [Exit.inBlock, Exit.then]); refine bodyPost_ret (results_tmp4 rfl _ _ _) rfl ?_
    exact ⟨by rw [E.out.1, E.out.2.1, E.out.2.2.1, E.out.2.2.2]; rfl, h1.alloc z1 _⟩
  · obtain ⟨h9, hz⟩ := isB_okZ hb
    have E := Lib.hid (show rdC T = (bkT T).c ∧ rdM T = T.extract 3 6 ∧ rdV T = (bkT T).v ∧ rdE T = 0 by unfold rdC rdM rdV rdE; rw [hb]; exact ⟨rfl, rfl, rfl, rfl⟩)
    have EB : bkR T = bkT T := by unfold bkR; rw [if_pos h9]
    have wb := bkT_wf T h9
    have ME := Lib.hid (marks_eq T h9)
    have m0b := wb.m0
    have m1b := wb.m1
    have m2b := wb.m2
    rw [hb, EB] at H
    clear hb hz EB
    generalize bkT T = b at *
    have CK := Lib.hid (fun W => classKey_any b wb W)
    have VK := Lib.hid (fun W => volumeKey_any b wb W)
    clear wb
    have M0 := Lib.hid m0b
    have M1 := Lib.hid m1b
    have M2 := Lib.hid m2b
    clear m0b m1b m2b
    go_enter Try.func8, Try.ntmps8
    go_wp2_with fail
    refine (H.out _).mono ?_
    rintro e w1 ⟨rfl, h1⟩
    have GX := Lib.hid (show Below w.heap.size w (w1.alloc (.cells #[.int .i16 b.c, .int .u8 b.m0, .int .u8 b.m1, .int .u8 b.m2, .int .i16 b.v, .int .i16 b.wi, .int .i16 b.hi, .int .i16 b.we] 27)) from h1.alloc h1.size _)
    have BX := Lib.hid (heap_alloc_new w1 (.cells #[.int .i16 b.c, .int .u8 b.m0, .int .u8 b.m1, .int .u8 b.m2, .int .i16 b.v, .int .i16 b.wi, .int .i16 b.hi, .int .i16 b.we] 27))
    have YX := Lib.hid (show w1.heap.size < (w1.alloc (.cells #[.int .i16 b.c, .int .u8 b.m0, .int .u8 b.m1, .int .u8 b.m2, .int .i16 b.v, .int .i16 b.wi, .int .i16 b.hi, .int .i16 b.we] 27)).heap.size by simp)
    clear h1
    go_wp2
    generalize World.alloc w1 _ = W1 at GX BX YX ⊢
    have q0 := belowBy_cell YX.out (cell_of_row W1 _ 0 _ _ _ BX.out)
    have q1 := belowBy_cell YX.out (cell_of_row W1 _ 1 _ _ _ BX.out)
    have q2 := belowBy_cell YX.out (cell_of_row W1 _ 2 _ _ _ BX.out)
    have q3 := belowBy_cell YX.out (cell_of_row W1 _ 3 _ _ _ BX.out)
    have q4 := belowBy_cell YX.out (cell_of_row W1 _ 4 _ _ _ BX.out)
    have q5 := belowBy_cell YX.out (cell_of_row W1 _ 5 _ _ _ BX.out)
    have q6 := belowBy_cell YX.out (cell_of_row W1 _ 6 _ _ _ BX.out)
    have q7 := belowBy_cell YX.out (cell_of_row W1 _ 7 _ _ _ BX.out)
    have DM : ∀ p : BelowBy W1, (convert 22 9 (.slice (some ⟨w1.heap.size, 1, none⟩) 3 3)).run Try.prog p.W = .ok (.string (T.extract 3 6)) p.W := fun p => by
      rw [← ME.out]
      exact run_convert_bytes_back (P := Try.prog) p.W 22 9 5 ⟨w1.heap.size, 1, none⟩ 3 (bytesOf [b.m0, b.m1, b.m2]) Try.underlying22 Try.underlying5 Try.underlying9 (fun j hj => by
        rw [Addr.add_lit]
        have hj' : j = 0 ∨ j = 1 ∨ j = 2 := by rw [bytesOf_len] at hj; simp only [List.length_cons, List.length_nil] at hj; omega
        rcases hj' with rfl | rfl | rfl
        · rw [show (bytesOf [b.m0, b.m1, b.m2])[0] = UInt8.ofNat b.m0.toNat from rfl, utoNat M0.out]; exact q1 p
        · rw [show (bytesOf [b.m0, b.m1, b.m2])[1] = UInt8.ofNat b.m1.toNat from rfl, utoNat M1.out]; exact q2 p
        · rw [show (bytesOf [b.m0, b.m1, b.m2])[2] = UInt8.ofNat b.m2.toNat from rfl, utoNat M2.out]; exact q3 p)
    refine wp_region_below (by kernel_rfl) (by kernel_rfl) ?_
    iterate 11 (first | go_big_quiet_step ((first | (go_at_call 24; with_reducible exact calls_below (CK.out _)) | (go_at_call 25; with_reducible exact calls_below (VK.out _)))) | quiet_step ((first | (go_at_call 24; with_reducible exact calls_below (CK.out _)) | (go_at_call 25; with_reducible exact calls_below (VK.out _)))))
    refine wpQuiet_nil ?_
    rintro w2 ⟨⟨_, hq⟩, rfl⟩
    have B2 := Lib.hid (bnext GX.out hq)
    clear q0 q1 q2 q3 q4 q5 q6 q7 DM hq
    go_wp2
    (try simp only [Exit.inBlock, Exit.then]); refine bodyPost_ret (results_tmp4 rfl _ _ _) rfl ?_
    exact ⟨by rw [E.out.1, E.out.2.1, E.out.2.2.1, E.out.2.2.2]; rfl, B2.out⟩
end Go.Proofs.Ytimojjkblofhnaa
