/- The text of a list of books, by the model and by the program: contracts. Condition: the table of powers of ten is as laid. -/
import Derived.Test.YtaahfcdpgcfmhaaDoorBkX
import Derived.Test.YtaahfcdpgcfmhaaDoorBooksOk
namespace Go.Proofs.YtaahfcdpgcfmhaaDoor
set_option linter.unusedSimpArgs false
set_option linter.unusedVariables false
set_option maxRecDepth 100000
open Go.RowKit

/-- The text of the first k books, a line each. -/
def booksTo (xs : List Bk) : Nat → List UInt8
  | 0 => []
  | k + 1 => booksTo xs k ++ (bookT (xs.getD k default) ++ [10])
theorem bk_getD {xs : List Bk} {k : Nat} (h : k < xs.length) : xs.getD k default = xs[k] := by
  rw [List.getD_eq_getElem?_getD, List.getElem?_eq_getElem h]; rfl
theorem booksTo_succ {xs : List Bk} {k : Nat} (h : k < xs.length) : booksTo xs (k + 1) = booksTo xs k ++ (bookT xs[k] ++ [10]) := by
  rw [booksTo, bk_getD h]
theorem booksTo_len {xs : List Bk} (hp : ∀ b ∈ xs, b.Pos) : ∀ k, k ≤ xs.length → (booksTo xs k).length ≤ 111 * k
  | 0, _ => by simp [booksTo]
  | k + 1, h => by
    have h1 := booksTo_len hp k (by omega)
    have h2 := bookT_len (hp _ (List.getElem_mem (show k < xs.length by omega)))
    rw [booksTo_succ (by omega)]
    simp only [List.length_append, List.length_cons, List.length_nil]
    omega
/-- What BooksText answers. -/
def booksS (xs : List Bk) : ByteArray := if okB xs then strOf (booksTo xs xs.length) else ⟨#[]⟩
theorem okB_pos {xs : List Bk} (hw : ∀ b ∈ xs, b.Wf) (h : okB xs = true) : (∀ b ∈ xs, b.Pos) ∧ xs.length ≤ 60 := by
  have h60 : xs.length ≤ 60 := by
    rcases Nat.lt_or_ge 60 xs.length with h1 | h1
    · rw [okB_long (by omega)] at h; cases h
    · exact h1
  refine ⟨fun b hb => ?_, h60⟩
  obtain ⟨k, hk, rfl⟩ := List.getElem_of_mem hb
  cases hb2 : bookB xs[k]
  · rw [okB_bad hk hb2] at h; cases h
  · exact pos_of (hw _ hb) hb2
set_option maxHeartbeats 4000000 in
theorem l01ListText_any (v : Value) (xs : List Bk) (hp : ∀ b ∈ xs, b.Pos) (w : World) (hs : SliceOf w v xs) (hn : xs.length ≤ 60) :
    Calls Tryd.prog 82 #[v] w fun e w' => e = .returned (.string (strOf (booksTo xs xs.length))) ∧ Below w.heap.size w w' := by
  obtain ⟨A, c, rfl, hs⟩ := hs
  have HS := Lib.hid hs
  have HP := Lib.hid hp
  have HL := Lib.hid (booksTo_len hp)
  clear hs hp
  go_enter Tryd.func82, Tryd.ntmps82
  go_wp2
  go_loopw [3, 4] (fun o i wr => ∃ k : Nat, k ≤ xs.length ∧ i = .int .i64 k ∧ o = .string (strOf (booksTo xs k)) ∧ Below w.heap.size w wr) (fun _ i _ => xs.length - (intOf i).toNat)
  case atStart => exact ⟨0, Nat.zero_le _, rfl, rfl, Below.refl _ _⟩
  case round =>
    obtain ⟨k, hk, rfl, rfl, hb⟩ := hrel
    by_cases hlt : k < xs.length
    · obtain ⟨ga, oa, rfl, hga, hat⟩ := HS.out (by omega)
      obtain ⟨p0, p1, p2, p3, p4, p5, p6, p7⟩ := booksAt_some (hat.below hb hga) hlt
      have z1 := Nat.lt_of_lt_of_le hga hb.size
      have LT := Lib.hid (l01Text_any xs[k] (HP.out _ (List.getElem_mem hlt)) ga _ wr z1 p0 p1 p2 p3 p4 p5 p6 p7)
      have ES := Lib.hid (booksTo_succ hlt)
      have l1 := HL.out k hk
      have l2 := bookT_len (HP.out _ (List.getElem_mem hlt))
      have s1 := strOf_size (booksTo xs k)
      have s2 := strOf_size (bookT xs[k])
      have s3 : (⟨#[10]⟩ : ByteArray).size = 1 := rfl
      have CT := Lib.hid (show strOf (booksTo xs k) ++ (strOf (bookT xs[k]) ++ ⟨#[10]⟩) = strOf (booksTo xs (k + 1)) by
        rw [ES.out, ← strOf_cat, ← strOf_cat]
        rfl)
      clear hat p0 p1 p2 p3 p4 p5 p6 p7
      have a1 : ¬ (9223372036854775807 < (strOf (bookT xs[k])).size + 1) := by omega
      have a2 : ¬ (9223372036854775807 < (strOf (booksTo xs k)).size + ((strOf (bookT xs[k])).size + 1)) := by omega
      generalize strOf (bookT xs[k]) = T at *
      generalize hS : strOf (booksTo xs k) = S at *
      have HSS := Lib.hid hS
      clear s1 s2 s3 l1 l2 hS
      go_wp2_with fail
      refine LT.out.mono ?_
      rintro e w1 ⟨rfl, h1⟩
      have hb1 := bnext hb h1
      go_wp2
      exact ⟨⟨k + 1, hlt, by simp, by rw [CT.out], hb1⟩, by simp only [intOf]; omega⟩
    · have ek : k = xs.length := by omega
      have EK := Lib.hid (show booksTo xs k = booksTo xs xs.length by rw [ek])
      go_wp2
      go_ret
      exact ⟨by rw [EK.out]; rfl, hb⟩
set_option maxHeartbeats 1000000 in
theorem specBooksText_any (v : Value) (xs : List Bk) (hw : ∀ b ∈ xs, b.Wf) (w : World) (hs : SliceOf w v xs) (hn : xs.length ≤ maxLen) :
    Calls Tryd.prog 30 #[v] w fun e w' => e = .returned (.string (booksS xs)) ∧ Below w.heap.size w w' := by
  have OK := Lib.hid (l01Ok_any v xs hw w hs hn)
  have HS := Lib.hid hs
  have HP := Lib.hid (fun h => okB_pos hw h)
  obtain ⟨A, c, rfl, -⟩ := hs
  clear hw hn
  go_enter Tryd.func30, Tryd.ntmps30
  go_wp2_with fail
  refine OK.out.mono ?_
  rintro e w1 ⟨rfl, h1⟩
  cases hk : okB xs
  · have E := Lib.hid (show booksS xs = ⟨#[]⟩ by unfold booksS; rw [hk]; rfl)
    go_wp2
    go_ret
    exact ⟨by rw [E.out]; rfl, h1⟩
  · have E := Lib.hid (show booksS xs = strOf (booksTo xs xs.length) by unfold booksS; rw [hk]; rfl)
    have LT := Lib.hid (l01ListText_any _ xs (HP.out hk).1 w1 (HS.out.below h1) (HP.out hk).2)
    go_wp2_with fail
    refine LT.out.mono ?_
    rintro e w2 ⟨rfl, h2⟩
    go_wp2
    go_ret
    exact ⟨by rw [E.out]; rfl, bnext h1 h2⟩
set_option maxHeartbeats 8000000 in
theorem booksText_any (v : Value) (xs : List Bk) (hw : ∀ b ∈ xs, b.Wf) (w : World) (hs : SliceOf w v xs) (hn : xs.length ≤ maxLen) (htab : Tab w.heap.size w) :
    Calls Tryd.prog 31 #[v] w fun e w' => e = .returned (.string (booksS xs)) ∧ Below w.heap.size w w' := by
  obtain ⟨i0, hi0, hz0, hz1, hz2⟩ := info_parts infoByteT
  have OK := Lib.hid (validBooks_any v xs w hs hn)
  obtain ⟨A, c, rfl, hs⟩ := hs
  have HS := Lib.hid hs
  have HP := Lib.hid (fun h => okB_pos hw h)
  have HT := Lib.hid htab
  clear hw hn hs htab
  go_enter Tryd.func31, Tryd.ntmps31
  go_wp2_with fail
  refine OK.out.mono ?_
  rintro e w1 ⟨rfl, h1⟩
  cases hk : okB xs
  · have E := Lib.hid (show booksS xs = ⟨#[]⟩ by unfold booksS; rw [hk]; rfl)
    go_wp2
    go_ret
    exact ⟨by rw [E.out]; rfl, h1⟩
  · have E := Lib.hid (show booksS xs = strOf (booksTo xs xs.length) by unfold booksS; rw [hk]; rfl)
    obtain ⟨hp, h60⟩ := HP.out hk
    have PP := Lib.hid hp
    have HL := Lib.hid (booksTo_len hp)
    have K1 := Lib.hid ((Kp.refl w.heap.size w).below (Nat.le_refl _) h1)
    clear hp
    go_wp2
    go_loopw [3, 11] (fun o i wr => ∃ k : Nat, k ≤ xs.length ∧ i = .int .i64 k ∧ Txt wr w.heap.size o (booksTo xs k) ∧ Kp w.heap.size w wr) (fun _ i _ => xs.length - (intOf i).toNat)
    case atStart => exact ⟨0, Nat.zero_le _, rfl, Txt.nil _ _, K1.out⟩
    case round =>
      obtain ⟨k, hk, rfl, ht, hb⟩ := hrel
      have TR := Lib.hid ht
      have KR := Lib.hid hb
      have zr := hb.size
      clear ht
      by_cases hlt : k < xs.length
      · obtain ⟨ga, oa, rfl, hga, hat⟩ := HS.out (by omega)
        obtain ⟨p0, p1, p2, p3, p4, p5, p6, p7⟩ := booksAt_some (hat.below hb.b hga) hlt
        have ES := Lib.hid (booksTo_succ hlt)
        have l1 := HL.out k hk
        have l2 := bookT_len (PP.out _ (List.getElem_mem hlt))
        have GX := Lib.hid (show Kp w.heap.size w (wr.alloc (.cells #[.int .i16 xs[k].c, .int .u8 xs[k].m0, .int .u8 xs[k].m1, .int .u8 xs[k].m2, .int .i16 xs[k].v, .int .i16 xs[k].wi, .int .i16 xs[k].hi, .int .i16 xs[k].we] 44)) from KR.out.alloc zr _)
        have BX := Lib.hid (heap_alloc_new wr (.cells #[.int .i16 xs[k].c, .int .u8 xs[k].m0, .int .u8 xs[k].m1, .int .u8 xs[k].m2, .int .i16 xs[k].v, .int .i16 xs[k].wi, .int .i16 xs[k].hi, .int .i16 xs[k].we] 44))
        have TX := Lib.hid (show Txt (wr.alloc (.cells #[.int .i16 xs[k].c, .int .u8 xs[k].m0, .int .u8 xs[k].m1, .int .u8 xs[k].m2, .int .i16 xs[k].v, .int .i16 xs[k].wi, .int .i16 xs[k].hi, .int .i16 xs[k].we] 44)) w.heap.size u3 (booksTo xs k) from TR.out.below ((Below.refl _ _).alloc (Nat.le_refl _) _))
        have ZX := Lib.hid (show w.heap.size ≤ (wr.alloc (.cells #[.int .i16 xs[k].c, .int .u8 xs[k].m0, .int .u8 xs[k].m1, .int .u8 xs[k].m2, .int .i16 xs[k].v, .int .i16 xs[k].wi, .int .i16 xs[k].hi, .int .i16 xs[k].we] 44)).heap.size by simp; omega)
        clear hat hb
        go_upto_region 7 with (fail)
        generalize World.alloc wr _ = W1 at GX BX TX ZX ⊢
        clear p0 p1 p2 p3 p4 p5 p6 p7
        have q0 : W1.cell? ⟨wr.heap.size, 0, none⟩ = some (.int .i16 xs[k].c) := cell_of_row W1 _ 0 _ _ _ BX.out
        have q1 : W1.cell? ⟨wr.heap.size, 1, none⟩ = some (.int .u8 xs[k].m0) := cell_of_row W1 _ 1 _ _ _ BX.out
        have q2 : W1.cell? ⟨wr.heap.size, 2, none⟩ = some (.int .u8 xs[k].m1) := cell_of_row W1 _ 2 _ _ _ BX.out
        have q3 : W1.cell? ⟨wr.heap.size, 3, none⟩ = some (.int .u8 xs[k].m2) := cell_of_row W1 _ 3 _ _ _ BX.out
        have q4 : W1.cell? ⟨wr.heap.size, 4, none⟩ = some (.int .i16 xs[k].v) := cell_of_row W1 _ 4 _ _ _ BX.out
        have q5 : W1.cell? ⟨wr.heap.size, 5, none⟩ = some (.int .i16 xs[k].wi) := cell_of_row W1 _ 5 _ _ _ BX.out
        have q6 : W1.cell? ⟨wr.heap.size, 6, none⟩ = some (.int .i16 xs[k].hi) := cell_of_row W1 _ 6 _ _ _ BX.out
        have q7 : W1.cell? ⟨wr.heap.size, 7, none⟩ = some (.int .i16 xs[k].we) := cell_of_row W1 _ 7 _ _ _ BX.out
        go_wp2_with fail
        refine (appendBook_any xs[k] (PP.out _ (List.getElem_mem hlt)) w.heap.size (booksTo xs k) _ _ TX.out ZX.out (by omega) (HT.out.on GX.out.b)).mono ?_
        rintro e w2 ⟨v2, rfl, ht2, hk2⟩
        have T2 := Lib.hid ht2
        have G2 := Lib.hid (GX.out.trans hk2)
        have z2 := (GX.out.trans hk2).size
        clear ht2 hk2 q0 q1 q2 q3 q4 q5 q6 q7
        have T3 := Lib.hid (show Txt (w2.alloc (.cells #[.int .u8 10] 5)) w.heap.size v2 (booksTo xs k ++ bookT xs[k]) from T2.out.below ((Below.refl _ _).alloc (Nat.le_refl _) _))
        go_wp2_with (at_builtin; refine wpList_append_own _ rfl (.tmp 17) (.tmp 18) _ rfl w.heap.size 5 i0 (.int .u8 0) 1 1 Tryd.underlying121 hi0 hz0 hz1 hz2 rfl (by decide) _ _ _ rfl T3.out ⟨w2.heap.size, 0, none⟩ 1 1 [.int .u8 10] rfl rfl (cellOne w2 _ _) ?d2a ?d3a ?d4a ?d5a ?_)
        case d2a => (intro u hu; simp at hu; subst hu; rfl)
        case d3a => (simp only [List.length_append, List.length_cons, List.length_nil]; unfold maxLen; omega)
        case d4a => (simp only [List.length_append, List.length_cons, List.length_nil]; omega)
        case d5a => (simp; omega)
        intro v3 w3 hown3 hgrow3 _
        have T4 := Lib.hid (show Txt w3 w.heap.size v3 (booksTo xs (k + 1)) by
          rw [ES.out]
          refine Txt.of hown3 ?_ ?_
          · simp only [List.length_append, List.length_cons, List.length_nil]
            omega
          · rw [← List.append_assoc, Lib.byteCells_append _ [10]]
            rfl)
        have G4 := Lib.hid ((G2.out.alloc z2 (.cells #[.int .u8 10] 5)).grown T3.out hgrow3 (by simp; omega))
        clear hown3 hgrow3
        go_wp2
        exact ⟨⟨k + 1, hlt, by simp, T4.out, G4.out⟩, by simp only [intOf]; omega⟩
      · have ek : k = xs.length := by omega
        have DC := TR.out.string
        have EK := Lib.hid (show booksTo xs k = booksTo xs xs.length by rw [ek])
        go_wp2
        go_ret
        exact ⟨by rw [E.out, ← EK.out]; rfl, KR.out.b⟩
end Go.Proofs.YtaahfcdpgcfmhaaDoor
