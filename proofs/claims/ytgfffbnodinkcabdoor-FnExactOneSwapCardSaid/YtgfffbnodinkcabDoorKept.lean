/- The books that are kept, by the program: a contract. Condition: at most 60 books, whose numbers lie within their kinds. -/
import Derived.Test.YtgfffbnodinkcabDoorRev
namespace Go.Proofs.YtgfffbnodinkcabDoor
set_option linter.unusedSimpArgs false
set_option linter.unusedVariables false
set_option maxRecDepth 100000
open Go.RowKit

/-- The book that was kept last, no book if there is none. -/
def lastB (xs : List Bk) (ks : List Nat) : Bk := if ks.length = 0 then default else xs.getD (ks.getLastD 0) default

theorem Bx.grown {w w' : World} {g : Nat} {b : Bk} {row : Option Nat} (h : Bx w g b) (hg : w.grownBy w' row) (hne : ∀ k, row = some k → k ≠ g) : Bx w' g b :=
  (hg.block g h.lt (by intro e; first | exact hne g e rfl | exact hne g e.symm rfl)).trans h
theorem Bx.alloc {w : World} {g : Nat} {b : Bk} (h : Bx w g b) (o : Obj) : Bx (w.alloc o) g b := h.below ((Below.refl w.heap.size w).alloc (Nat.le_refl _) o) h.lt
theorem Bx.frz {w : World} {g : Nat} {b : Bk} (h : Bx w g b) (o : Nat) : w.frozen? ⟨g, o, none⟩ = false := frozen_of_row w g _ _ _ h
/-- The world behind a store of a whole book. -/
def put8 (w : World) (g : Nat) (b : Bk) : World := ((((((((w.setCell ⟨g, 0, none⟩ (.int .i16 b.c)).setCell ⟨g, 1, none⟩ (.int .u8 b.m0)).setCell ⟨g, 2, none⟩ (.int .u8 b.m1)).setCell ⟨g, 3, none⟩ (.int .u8 b.m2)).setCell ⟨g, 4, none⟩ (.int .i16 b.v)).setCell ⟨g, 5, none⟩ (.int .i16 b.wi)).setCell ⟨g, 6, none⟩ (.int .i16 b.hi)).setCell ⟨g, 7, none⟩ (.int .i16 b.we))
theorem put8_block (w : World) (g k : Nat) (b : Bk) (h : k ≠ g) : (put8 w g b).heap[k]? = w.heap[k]? := by
  have e : ∀ (w : World) (o : Nat) (v : Value), (w.setCell ⟨g, o, none⟩ v).heap[k]? = w.heap[k]? := fun w o v => Below.heap_setCell w ⟨g, o, none⟩ v k (by simpa using h)
  unfold put8
  rw [e, e, e, e, e, e, e, e]
theorem Bx.store {w : World} {g : Nat} {b : Bk} (h : Bx w g b) (c : Bk) : Bx (put8 w g c) g c ∧ (∀ {B : Nat} {w0 : World}, Below B w0 w → B ≤ g → Below B w0 (put8 w g c)) ∧ (∀ k, k ≠ g → (put8 w g c).heap[k]? = w.heap[k]?) := by
  refine ⟨?_, fun hb hg => ?_, fun k hk => put8_block w g k c hk⟩
  · have h0 := heap_setCell_same w g 0 _ _ (.int .i16 c.c) h
    have h1 := heap_setCell_same _ g 1 _ _ (.int .u8 c.m0) h0
    have h2 := heap_setCell_same _ g 2 _ _ (.int .u8 c.m1) h1
    have h3 := heap_setCell_same _ g 3 _ _ (.int .u8 c.m2) h2
    have h4 := heap_setCell_same _ g 4 _ _ (.int .i16 c.v) h3
    have h5 := heap_setCell_same _ g 5 _ _ (.int .i16 c.wi) h4
    have h6 := heap_setCell_same _ g 6 _ _ (.int .i16 c.hi) h5
    have h7 := heap_setCell_same _ g 7 _ _ (.int .i16 c.we) h6
    unfold Bx put8
    rw [h7]
    simp
  · exact ((((((((hb.setCell (p := ⟨g, 0, none⟩) hg _).setCell (p := ⟨g, 1, none⟩) hg _).setCell (p := ⟨g, 2, none⟩) hg _).setCell (p := ⟨g, 3, none⟩) hg _).setCell (p := ⟨g, 4, none⟩) hg _).setCell (p := ⟨g, 5, none⟩) hg _).setCell (p := ⟨g, 6, none⟩) hg _).setCell (p := ⟨g, 7, none⟩) hg _)
theorem ownsBlock {w w' : World} {base g : Nat} {e : TypeId} {size n : Nat} {v : Value} {l : List Value} (h : w.ownsRow base e size v n l) (hb : ∀ k, k ≠ g → w'.heap[k]? = w.heap[k]?) (hg : g < base) : w'.ownsRow base e size v n l := by
  refine ⟨h.1, ?_⟩
  rcases h.2 with hn | ⟨k, cap, cur, hv, hbk, hk, rest⟩
  · exact .inl hn
  · exact .inr ⟨k, cap, cur, hv, hbk, (hb k (by omega)).trans hk, rest⟩
theorem ownsBlock' {w w' : World} {base g k0 c0 : Nat} {e : TypeId} {size n m : Nat} {l : List Value} (h : w.ownsRow base e size (.slice (some ⟨k0, 0, none⟩) m c0) n l) (hb : ∀ k, k ≠ g → w'.heap[k]? = w.heap[k]?) (hg : k0 ≠ g) : w'.ownsRow base e size (.slice (some ⟨k0, 0, none⟩) m c0) n l := by
  refine ⟨h.1, ?_⟩
  rcases h.2 with hn | ⟨k, cap, cur, hv, hbk, hk, rest⟩
  · exact .inl hn
  · obtain rfl : k0 = k := by injection hv with h1 _ _; injection h1 with h1; injection h1
    exact .inr ⟨k0, cap, cur, hv, hbk, (hb k0 hg).trans hk, rest⟩

set_option maxHeartbeats 8000000 in
theorem keptOf_any (b o c : Nat) (xs : List Bk) (wf : ∀ b ∈ xs, b.Wf) (w : World) (hs : SliceOf w (.slice (some ⟨b, o, none⟩) xs.length c) xs) (hcap : xs.length ≤ c) (h60 : xs.length ≤ 60) :
    Calls Tryd.prog 65 #[.slice (some ⟨b, o, none⟩) xs.length c] w fun e w' => ∃ u, e = .returned u ∧ w'.ownsRow w.heap.size 2 1 u (keptL xs).length ((keptL xs).map (Value.int .i64)) ∧ Below w.heap.size w w' := by
  have HS0 := Lib.hid hs
  replace hs := hs.at_slice
  obtain ⟨i0, hi0, hz0, hz1, hz2⟩ := info_parts infoInt64
  have HS := Lib.hid hs
  have WF := Lib.hid wf
  have BD := Lib.hid (fun k (h : k < xs.length) => backs_bd xs h)
  have BA := Lib.hid (fun k (h : k < xs.length) => show ((backs xs).map (Value.int .i64))[k]? = some (.int .i64 ((backs xs).getD k 0)) by rw [List.getElem?_map, List.getD_eq_getElem?_getD, List.getElem?_eq_getElem (by rw [backs_length]; exact h)]; rfl)
  have MB := Lib.hid (mostTo_all_bd xs)
  clear hs wf
  go_enter Tryd.func65, Tryd.ntmps65
  go_wp2_with fail
  refine (longestFrom_any b o c xs WF.out _ HS0.out h60).mono ?_
  rintro e w1 ⟨gb, rfl, ho1, h1⟩
  have O1 := Lib.hid ho1
  have B1 := Lib.hid h1
  clear ho1 h1
  go_wp2
  go_loopw [4, 16] (fun m_ k_ wr => ∃ k : Nat, k ≤ xs.length ∧ k_ = .int .i64 (k : Int) ∧ m_ = .int .i64 (mostTo (fun _ => true) (backs xs) k) ∧ wr = w1) (fun _ k_ _ => xs.length - (intOf k_).toNat)
  case atStart => exact ⟨0, Nat.zero_le _, rfl, rfl, rfl⟩
  case round =>
    obtain ⟨k, hk, rfl, rfl, rfl⟩ := hrel
    have mb := MB.out k hk
    by_cases hlt : k < xs.length
    · have c1 := (O1.out.cellAt k (by omega)).trans (BA.out k hlt)
      have MS := Lib.hid (show mostTo (fun _ => true) (backs xs) (k + 1) = max (mostTo (fun _ => true) (backs xs) k) ((backs xs).getD k 0) from rfl)
      generalize mostTo (fun _ => true) (backs xs) k = M at *
      generalize (backs xs).getD k 0 = C at *
      by_cases hmc : M < C
      · have hmc2 : M ≤ C := by omega
        have MX := Lib.hid (show max M C = C by omega)
        go_wp2
        go_roundw
        case rel => exact ⟨k + 1, by omega, by go_num, by rw [MS.out, MX.out], by first | rfl | trivial⟩
        case measure => simp [intOf]; omega
      · have hmc2 : C ≤ M := by omega
        have MX := Lib.hid (show max M C = M by omega)
        go_wp2
        go_roundw
        case rel => exact ⟨k + 1, by omega, by go_num, by rw [MS.out, MX.out], by first | rfl | trivial⟩
        case measure => simp [intOf]; omega
    · obtain rfl : k = xs.length := by omega
      have MO := Lib.hid (show mostTo (fun _ => true) (backs xs) xs.length = mostOf xs from rfl)
      rw [MO.out] at mb ⊢
      have hsz := B1.out.size
      have HSW := Lib.hid hsz
      have hgb2 : gb < wr.heap.size := (O1.out.lt gb rfl).2
      obtain ⟨w2, rfl⟩ : ∃ w2 : World, w2 = wr := ⟨_, rfl⟩
      have HM0 := Lib.hid mb
      clear mb
      go_wp2
      go_loopw [7, 26] (fun v_ i_ wr => ∃ (i : Nat) (ks : List Nat), i ≤ xs.length ∧ ks = keptTo xs i ∧ 0 ≤ mostOf xs - (ks.length : Int) ∧ i_ = .int .i64 (i : Int) ∧ wr.ownsRow (w2.heap.size + 1) 2 1 v_ ks.length ((ks.map fun n : Nat => (n : Int)).map (Value.int .i64)) ∧ wr.ownsRow w.heap.size 2 1 (.slice (some ⟨gb, 0, none⟩) xs.length xs.length) xs.length ((backs xs).map (Value.int .i64)) ∧ Bx wr w2.heap.size (lastB xs ks) ∧ Below w.heap.size w wr) (fun _ i_ _ => xs.length - (intOf i_).toNat)
      case atStart => exact ⟨0, [], Nat.zero_le _, rfl, by simpa using HM0.out.1, rfl, ⟨rfl, .inl ⟨rfl, rfl⟩⟩, O1.out.alloc _, heap_alloc_new w2 _, B1.out.alloc hsz _⟩
      case round =>
        obtain ⟨i, ks, hi, hks, hm0, rfl, hown, ho, hbx, hb⟩ := hrel
        have OW := Lib.hid hown
        have OB := Lib.hid ho
        have HKS := Lib.hid hks
        have BX := Lib.hid hbx
        have HM := Lib.hid HM0.out
        have hlen : ks.length ≤ i := by rw [hks]; exact keptTo_len xs i
        have HLA := Lib.hid (show 0 < ks.length → ks.getLastD 0 < i by rw [hks]; exact last_lt xs i)
        obtain ⟨A3, c3, rfl⟩ := vlen_own1 hown
        clear hown ho hks hbx
        have hsz := hb.size
        by_cases hlt : i < xs.length
        · have bd := BD.out i hlt
          have gLB := BX.out.lt
          have hgbl : gb < wr.heap.size := (OB.out.lt gb rfl).2
          have hgb0 : w.heap.size ≤ gb := (OB.out.lt gb rfl).1
          obtain ⟨ga, oa, e1, hga, hat⟩ := HS.out (by omega)
          cases e1
          obtain ⟨p0, p1, p2, p3, p4, p5, p6, p7⟩ := booksAt_some (hat.below hb hga) hlt
          have HAT := Lib.hid hat
          clear hat
          have c1 := (OB.out.cellAt i (by omega)).trans (BA.out i hlt)
          have hm1 := MB.out xs.length (Nat.le_refl _)
          rw [show mostTo (fun _ => true) (backs xs) xs.length = mostOf xs from rfl] at hm1
          have n1 : IntKind.i64.wrap (mostOf xs - (ks.length : Int)) = mostOf xs - (ks.length : Int) := IntWalk.i64_in _ (by omega)
          obtain ⟨wo, rfl⟩ : ∃ wo : World, wo = wr := ⟨_, rfl⟩
          have OBa := Lib.hid (OB.out.alloc (.cells #[.int .i16 xs[i].c, .int .u8 xs[i].m0, .int .u8 xs[i].m1, .int .u8 xs[i].m2, .int .i16 xs[i].v, .int .i16 xs[i].wi, .int .i16 xs[i].hi, .int .i16 xs[i].we] 50))
          have OWa := Lib.hid (OW.out.alloc (.cells #[.int .i16 xs[i].c, .int .u8 xs[i].m0, .int .u8 xs[i].m1, .int .u8 xs[i].m2, .int .i16 xs[i].v, .int .i16 xs[i].wi, .int .i16 xs[i].hi, .int .i16 xs[i].we] 50))
          have BXa := Lib.hid (BX.out.below ((Below.refl wo.heap.size wo).alloc (Nat.le_refl _) (.cells #[.int .i16 xs[i].c, .int .u8 xs[i].m0, .int .u8 xs[i].m1, .int .u8 xs[i].m2, .int .i16 xs[i].v, .int .i16 xs[i].wi, .int .i16 xs[i].hi, .int .i16 xs[i].we] 50)) gLB)
          have BBa := Lib.hid (show Bx (wo.alloc (.cells #[.int .i16 xs[i].c, .int .u8 xs[i].m0, .int .u8 xs[i].m1, .int .u8 xs[i].m2, .int .i16 xs[i].v, .int .i16 xs[i].wi, .int .i16 xs[i].hi, .int .i16 xs[i].we] 50)) wo.heap.size xs[i] from heap_alloc_new wo _)
          have Ba := Lib.hid (hb.alloc hsz (.cells #[.int .i16 xs[i].c, .int .u8 xs[i].m0, .int .u8 xs[i].m1, .int .u8 xs[i].m2, .int .i16 xs[i].v, .int .i16 xs[i].wi, .int .i16 xs[i].hi, .int .i16 xs[i].we] 50))
          by_cases heq : (backs xs).getD i 0 = mostOf xs - (ks.length : Int)
          · have e1 : (((backs xs).getD i 0) == (mostOf xs - (ks.length : Int))) = true := by simpa using heq
            by_cases h0 : ks.length = 0
            · have TK := Lib.hid (kept_take HKS.out (take_first heq h0))
              have d0 : ((ks.length : Int) == 0) = true := by simp [h0]
              have HEQ := Lib.hid heq
              clear heq h0
              have DB := Lib.hid Ba.out
              go_wp2_with (at_builtin; refine wpList_append_own _ rfl (.tmp 52) (.tmp 54) _ rfl (w2.heap.size + 1) 2 i0 (.int .i64 0) 1 8 Tryd.underlying41 hi0 hz0 hz1 hz2 rfl (by decide) _ _ _ rfl (OWa.out.alloc _) ⟨wo.heap.size + 1, 0, none⟩ 1 1 [.int .i64 (i : Int)] rfl rfl ?c1a ?c2a ?c3a ?c4a ?c5a ?_)
              case c1a => (have h := cell_one_new (wo.alloc (.cells #[.int .i16 xs[i].c, .int .u8 xs[i].m0, .int .u8 xs[i].m1, .int .u8 xs[i].m2, .int .i16 xs[i].v, .int .i16 xs[i].wi, .int .i16 xs[i].hi, .int .i16 xs[i].we] 50)) (.int .i64 (i : Int)) 2; simpa using h)
              case c2a => (intro u hu; simp at hu; subst hu; rfl)
              case c3a => (unfold maxLen; omega)
              case c4a => omega
              case c5a => (simp; omega)
              intro v' w4 hown' hgrow' _
              have OW4 := Lib.hid hown'
              have ltk := fun k hk => OWa.out.lt k hk
              have B4 := Lib.hid ((DB.out.alloc DB.out.size _).grown hgrow' (by simp; have := DB.out.size; omega) (fun k hk => by have := (ltk k hk).1; omega))
              have OB4 := Lib.hid (ownsOther (OBa.out.alloc _) hgrow' (fun k hk e => by obtain rfl : gb = k := Option.some.inj hk; have := (ltk gb e.symm).1; omega))
              have BX4 := Lib.hid (Bx.grown (BXa.out.alloc _) hgrow' (fun k hk => by have := (ltk k hk).1; omega))
              have BB4 := Lib.hid (Bx.grown (BBa.out.alloc _) hgrow' (fun k hk => by have := (OW.out.lt k hk).2; omega))
              clear hown' hgrow' ltk p0 p1 p2 p3 p4 p5 p6 p7 c1
              obtain ⟨q0, q1, q2, q3, q4, q5, q6, q7⟩ := BB4.out.cells
              obtain ⟨r0, r1, r2, r3, r4, r5, r6, r7⟩ := BX4.out.cells
              have fz := BX4.out.frz
              go_wp2
              go_roundw
              case rel =>
                have S8 := Bx.store BX4.out xs[i]
                have LS := Lib.hid (show lastB xs (ks ++ [i]) = xs[i] by unfold lastB; rw [if_neg (by simp), last_snoc, getD_nth hlt])
                exact ⟨i + 1, ks ++ [i], by omega, TK.out, by have h := HEQ.out; simp; omega, by go_num, by have h := ownsBlock OW4.out S8.2.2 (by omega); simpa [put8] using h, ownsBlock' OB4.out S8.2.2 (by omega), by rw [LS.out]; exact S8.1, S8.2.1 B4.out (by omega)⟩
              case measure => simp [intOf]; omega
            · have d0 : ((ks.length : Int) == 0) = false := beq_eq_false_iff_ne.2 (by omega)
              have hl := HLA.out (by omega)
              obtain ⟨l, hle⟩ : ∃ l, ks.getLastD 0 = l := ⟨_, rfl⟩
              rw [hle] at hl
              have hlx : l < xs.length := by omega
              have TL := Lib.hid (take_later' WF.out heq h0 hle hlt hlx)
              have BL := Lib.hid (show lastB xs ks = xs[l] by unfold lastB; rw [if_neg h0, hle, getD_nth hlx])
              have bxl := BX.out
              rw [BL.out] at bxl
              obtain ⟨q0, q1, q2, q3, q4, q5, q6, q7⟩ := bxl.cells
              have HEQ := Lib.hid heq
              clear heq h0 bxl hle
              go_wp2_with fail
              refine (compareBooks_any xs[l] xs[i] (WF.out _ (List.getElem_mem _)) (WF.out _ (List.getElem_mem _)) _).mono ?_
              rintro e w3 ⟨rfl, h3⟩
              clear p0 p1 p2 p3 p4 p5 p6 p7 q0 q1 q2 q3 q4 q5 q6 q7 c1
              generalize usual xs[l] xs[i] = r at TL ⊢
              cases ht : takeB xs ks i
              · have hr : ¬ r ≤ 0 := of_decide_eq_false (TL.out.symm.trans ht)
                have TK := Lib.hid (kept_leave HKS.out ht)
                clear ht
                have OW3 := Lib.hid (ownsBelow OWa.out h3)
                have OB3 := Lib.hid (ownsBelow OBa.out h3)
                have BX3 := Lib.hid (BXa.out.below h3 BXa.out.lt)
                have B3 := Lib.hid (bnext Ba.out h3)
                go_wp2
                go_roundw
                case rel => exact ⟨i + 1, ks, by omega, TK.out, hm0, by go_num, OW3.out, OB3.out, BX3.out, B3.out⟩
                case measure => simp [intOf]; omega
              · have hr : r ≤ 0 := of_decide_eq_true (TL.out.symm.trans ht)
                have TK := Lib.hid (kept_take HKS.out ht)
                clear ht
                have OW3 := Lib.hid (ownsBelow OWa.out h3)
                have OB3 := Lib.hid (ownsBelow OBa.out h3)
                have BX3 := Lib.hid (BXa.out.below h3 BXa.out.lt)
                have BB3 := Lib.hid (BBa.out.below h3 BBa.out.lt)
                have B3 := Lib.hid (bnext Ba.out h3)
                have s3 : wo.heap.size + 1 ≤ w3.heap.size := by have := h3.size; simpa using this
                clear h3
                have DB := Lib.hid B3.out
                go_wp2_with (at_builtin; refine wpList_append_own _ rfl (.tmp 52) (.tmp 54) _ rfl (w2.heap.size + 1) 2 i0 (.int .i64 0) 1 8 Tryd.underlying41 hi0 hz0 hz1 hz2 rfl (by decide) _ _ _ rfl (OW3.out.alloc _) ⟨w3.heap.size, 0, none⟩ 1 1 [.int .i64 (i : Int)] rfl rfl ?c1b ?c2b ?c3b ?c4b ?c5b ?_)
                case c1b => exact cell_one_new _ _ _
                case c2b => (intro u hu; simp at hu; subst hu; rfl)
                case c3b => (unfold maxLen; omega)
                case c4b => omega
                case c5b => (simp; omega)
                intro v' w4 hown' hgrow' _
                have OW4 := Lib.hid hown'
                have ltk := fun k hk => OW3.out.lt k hk
                have B4 := Lib.hid ((DB.out.alloc DB.out.size _).grown hgrow' (by simp; have := DB.out.size; omega) (fun k hk => by have := (ltk k hk).1; omega))
                have OB4 := Lib.hid (ownsOther (OB3.out.alloc _) hgrow' (fun k hk e => by obtain rfl : gb = k := Option.some.inj hk; have := (ltk gb e.symm).1; omega))
                have BX4 := Lib.hid (Bx.grown (BX3.out.alloc _) hgrow' (fun k hk => by have := (ltk k hk).1; omega))
                have BB4 := Lib.hid (Bx.grown (BB3.out.alloc _) hgrow' (fun k hk => by have := (OW.out.lt k hk).2; omega))
                clear hown' hgrow' ltk 
                obtain ⟨q0, q1, q2, q3, q4, q5, q6, q7⟩ := BB4.out.cells
                obtain ⟨r0, r1, r2, r3, r4, r5, r6, r7⟩ := BX4.out.cells
                have fz := BX4.out.frz
                go_wp2
                go_roundw
                case rel =>
                  have S8 := Bx.store BX4.out xs[i]
                  have LS := Lib.hid (show lastB xs (ks ++ [i]) = xs[i] by unfold lastB; rw [if_neg (by simp), last_snoc, getD_nth hlt])
                  exact ⟨i + 1, ks ++ [i], by omega, TK.out, by have h := HEQ.out; simp; omega, by go_num, by have h := ownsBlock OW4.out S8.2.2 (by omega); simpa [put8] using h, ownsBlock' OB4.out S8.2.2 (by omega), by rw [LS.out]; exact S8.1, S8.2.1 B4.out (by omega)⟩
                case measure => simp [intOf]; omega
          · have e1 : (((backs xs).getD i 0) == (mostOf xs - (ks.length : Int))) = false := by simpa using heq
            have TK := Lib.hid (kept_leave HKS.out (take_no heq))
            go_wp2
            go_roundw
            case rel => exact ⟨i + 1, ks, by omega, TK.out, hm0, by go_num, OWa.out, OBa.out, BXa.out, Ba.out⟩
            case measure => simp [intOf]; omega
        · obtain rfl : i = xs.length := by omega
          go_wp2
          go_ret
          exact ⟨_, rfl, by unfold keptL; rw [← HKS.out, List.length_map]; exact ownsMono OW.out (by have := HSW.out; omega), hb⟩

end Go.Proofs.YtgfffbnodinkcabDoor
