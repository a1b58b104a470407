/- The reader's last numbers at int16, by the program; the law's marks in such a list that a call hands back: contracts. Condition: the error variable holds an error of errors.New's make; a text no longer than told; at most 300 numbers. -/
import Derived.Test.YtkojnepgeegalaaDoorRdV1
import Derived.Test.YtkojnepgeegalaaDoorCaseOk
namespace Go.Proofs.YtkojnepgeegalaaDoor
set_option linter.unusedSimpArgs false
set_option linter.unusedVariables false
set_option maxRecDepth 100000
open Go.RowKit

theorem infoI16 : (Tryd.prog.info? 22).map (fun i => (i.zero, i.size, i.bytes)) = some (some (.int .i16 0), 1, 2) := by kernel_rfl
theorem tRd16 : (76 : Nat) ≠ 22 := by decide
theorem own_not16 {w : World} {g : Nat} {T : ByteArray} {p : Nat} {f : Bool} {y : Addr} (h : Rd w g T p f y) {B n : Nat} {v : Value} {xs : List Value} (ho : w.ownsRow B 22 1 v n xs) : ∀ k, v.ownBlock = some k → k ≠ g := by
  intro k hk e
  rcases ho.2 with ⟨rfl, _⟩ | ⟨g', cap, cur, rfl, e2, e3, e4⟩
  · exact absurd hk (by simp [Value.ownBlock])
  · have e5 : g' = k := by simpa [Value.ownBlock] using hk
    rw [e5, e] at e3
    rw [h.cs] at e3
    injection e3 with e3
    injection e3 with _ e6 _
    exact tRd16 e6
set_option maxHeartbeats 8000000 in
theorem lastNumbers16 (g : Nat) (hg : g ≠ 0) (T : ByteArray) (hT : T.size ≤ 1048576) (p : Nat) (y : Addr) (c : UInt8) (hc : isDig c = false) (most : Int) (hm : 0 ≤ most ∧ most ≤ 32767) (f0 : Bool) (w : World) (h : Rd w g T p f0 y) (hs : Syn w y) :
    Calls Tryd.prog 56 #[.pointer (some ⟨g, 0, none⟩), .int .u8 (c.toNat : Int), .int .i64 most] w fun e w' => ∃ (u : Value) (zs : List Int) (q : Nat) (f' : Bool), e = .returned u ∧ LastF c most T p f0 zs f' ∧ AllIn most zs ∧ zs.length ≤ 12 ∧ w'.ownsRow w.heap.size 22 1 u zs.length (zs.map (Value.int .i16)) ∧ Rd w' g T q f' y ∧ Gr g w w' := by
  obtain ⟨i0, hi0, hz0, hz1, hz2⟩ := info_parts infoI16
  have S := Lib.hid hs
  have H := Lib.hid h
  have h0 := World.block_lt_of_cell? _ _ hs
  have H0 := Lib.hid h0
  have HC := Lib.hid hc
  clear h hs hc h0
  go_enter Tryd.func56, Tryd.ntmps56
  go_wp2
  go_loopw [7] (fun v wr => ∃ (zs : List Int) (q : Nat) (f : Bool), zs.length ≤ 12 ∧ AllIn most zs ∧ ((f = false ∧ f0 = false ∧ restT T p = flatC c zs ++ restT T q) ∨ (f = true ∧ (f0 = false → NoLast c most (restT T p)))) ∧ wr.ownsRow w.heap.size 22 1 v zs.length (zs.map (Value.int .i16)) ∧ Rd wr g T q f y ∧ Syn wr y ∧ Gr g w wr) (fun v _ => 13 - lenV v)
  case atStart => exact ⟨[], p, f0, Nat.zero_le _, fun _ h => (by simp at h), (by cases f0; exact .inl ⟨rfl, rfl, rfl⟩; exact .inr ⟨rfl, fun h => by cases h⟩), ⟨rfl, .inl ⟨rfl, rfl⟩⟩, H.out, S.out, Gr.refl _ _⟩
  case round =>
    obtain ⟨zs, q, f, h12, ha, hst, ho, r, sy, hb⟩ := hrel
    have AL := Lib.hid ha
    have ST := Lib.hid hst
    have OW := Lib.hid ho
    have R := Lib.hid r
    have SY := Lib.hid sy
    have HB := Lib.hid hb
    have zr := hb.size
    have h0 : 0 < w.heap.size := H0.out
    clear ha hst ho r sy hb
    have FA := Lib.hid (fail_any g T q f y wr R.out SY.out)
    cases f
    · have hr : restT T p = flatC c zs ++ restT T q := by
        rcases ST.out with h | h
        · exact h.2.2
        · exact absurd h.1 (by decide)
      have HR := Lib.hid hr
      have F0 := Lib.hid (show f0 = false from by
        rcases ST.out with h | h
        · exact h.2.1
        · exact absurd h.1 (by decide))
      have c2 : wr.cell? ⟨g, 2, none⟩ = some .nilIface := R.out.c2
      have ne := fun W => nilEq W
      obtain ⟨A7, cap7, rfl⟩ := own_sl OW.out
      clear hr
      by_cases hk : zs.length < 12
      · have hk2 : (zs.length : Int) < 12 := by omega
        have gd : decide ((zs.length : Int) < 12) = true := decide_eq_true hk2
        have NU := Lib.hid (number_any g hg T hT q false y most ⟨hm.1, by omega⟩ wr R.out SY.out)
        go_wp2_with fail
        refine NU.out.mono ?_
        rintro e w1 ⟨n, q1, f1, rfl, hn, r1, g1⟩
        have HN := Lib.hid hn
        have hw16 : IntKind.i16.wrap n = n := IntWalk.i16_in _ (by have := num_in hm.1 hn; omega)
        have R1 := Lib.hid r1
        have S1 := Lib.hid (SY.out.gr g1 hg)
        have O1 := Lib.hid (ownOther OW.out g1 (fun k hk e => own_not16 R.out OW.out k hk (by injection e)))
        have B1 := Lib.hid (HB.out.trans g1)
        have z1 := g1.size
        have RX := Lib.hid (r1.below ((Below.refl w1.heap.size w1).alloc (Nat.le_refl _) (.cells #[.int .i16 n] 22)))
        have SX := Lib.hid (show Syn (w1.alloc (.cells #[.int .i16 n] 22)) y from S1.out.gr (Gr.of (g := g) ((Below.refl w1.heap.size w1).alloc (Nat.le_refl _) _)) hg)
        have OX := Lib.hid (show (w1.alloc (.cells #[.int .i16 n] 22)).ownsRow w.heap.size 22 1 (.slice A7 zs.length cap7) zs.length (zs.map (Value.int .i16)) from O1.out.alloc _)
        have BX := Lib.hid (show Gr g w (w1.alloc (.cells #[.int .i16 n] 22)) from B1.out.trans (Gr.of ((Below.refl w1.heap.size w1).alloc (Nat.le_refl _) _)))
        clear hn r1 g1 c2
        go_wp2_with (at_builtin; refine wpList_append_own _ rfl (.tmp 18) (.tmp 23) _ rfl w.heap.size 22 i0 (.int .i16 0) 1 2 Tryd.underlying51 hi0 hz0 hz1 hz2 rfl (by decide) _ _ _ rfl OX.out ⟨w1.heap.size, 0, none⟩ 1 1 [.int .i16 n] rfl rfl (cellNew1 w1 _ _) ?d2a ?d3a ?d4a ?d5a ?_)
        case d2a => (intro u hu; simp at hu; subst hu; rfl)
        case d3a => (unfold maxLen; omega)
        case d4a => omega
        case d5a => (simp; omega)
        intro v3 w3 hown3 hgrow3 _
        have O3 := Lib.hid (show w3.ownsRow w.heap.size 22 1 v3 (zs ++ [n]).length ((zs ++ [n]).map (Value.int .i16)) by
          rw [List.length_append, List.length_singleton, List.map_append]
          exact hown3)
        have R3 := Lib.hid (RX.out.kept hgrow3 (fun e => own_not16 RX.out OX.out g e.symm rfl))
        have S3 := Lib.hid (SX.out.kept hgrow3 (fun e => by have := (OX.out.lt _ e).1; omega))
        have B3 := Lib.hid (BX.out.grown hgrow3 (fun k hk => .inl (OX.out.lt k hk).1))
        have z3 := B3.out.size
        have zw : w1.heap.size ≤ w3.heap.size := by have := hgrow3.size; simp at this; omega
        have AE := Lib.hid (atEnd_any g T q1 f1 y w3 R3.out)
        clear hown3 hgrow3 gd hk2 ne
        by_cases hend : q1 = T.size
        · rw [decide_eq_true hend] at AE
          have HE := Lib.hid (show restT T q1 = [] from restT_end (by omega))
          have LS := Lib.hid (show LastF c most T p f0 (zs ++ [n]) f1 from by
            rcases HN.out with ⟨h1, _, h3⟩ | ⟨h1, _, h3⟩
            · refine .inl ⟨h3, F0.out, by rw [List.length_append, List.length_singleton]; omega, by rw [List.length_append, List.length_singleton]; omega, fun z hz => ?_, ?_⟩
              · rcases List.mem_append.1 hz with h | h
                · exact AL.out z h
                · rw [List.mem_singleton] at h; rw [h]; exact ⟨h1.2.2.1, h1.2.2.2⟩
              · rw [join_flat, HR.out, h1.1, HE.out, List.append_nil]
            · exact .inr ⟨h3, fun _ => noLast_num HC.out AL.out HR.out h1⟩)
          have AL2 := Lib.hid (al_snoc ⟨hm.1, by omega⟩ AL.out HN.out)
          clear hend
          go_wp2_with fail
          refine AE.out.mono ?_
          rintro e w4 ⟨rfl, h4⟩
          have R4 := Lib.hid (R3.out.below h4)
          have O4 := Lib.hid (ownBelow O3.out h4)
          have B4 := Lib.hid (B3.out.trans (Gr.of h4))
          clear h4
          go_wp2
          go_ret
          exact ⟨_, zs ++ [n], q1, f1, rfl, LS.out, AL2.out, by rw [List.length_append, List.length_singleton]; omega, O4.out, R4.out, B4.out⟩
        · rw [decide_eq_false hend] at AE
          have NE := Lib.hid (show restT T q1 ≠ [] from fun e => by
            have := congrArg List.length e
            rw [restT_len, List.length_nil] at this
            have := R3.out.le
            omega)
          clear hend
          go_wp2_with fail
          refine AE.out.mono ?_
          rintro e w4 ⟨rfl, h4⟩
          have O4 := Lib.hid (ownBelow O3.out h4)
          have B4 := Lib.hid (B3.out.trans (Gr.of h4))
          have S4 := Lib.hid (S3.out.gr (Gr.of (g := g) h4) hg)
          have R4 := Lib.hid (R3.out.below h4)
          have z4 := h4.size
          have SK := Lib.hid (skip_any g hg T hT q1 f1 y c _ rfl w4 R4.out S4.out)
          clear h4
          go_wp2_with fail
          refine SK.out.mono ?_
          rintro e w5 ⟨q2, f2, rfl, hs5, r5, g5⟩
          have O5 := Lib.hid (ownOther O4.out g5 (fun k hk e => own_not16 R4.out O4.out k hk (by injection e)))
          have B5 := Lib.hid (B4.out.trans g5)
          have S5 := Lib.hid (S4.out.gr g5 hg)
          have AL2 := Lib.hid (al_snoc ⟨hm.1, by omega⟩ AL.out HN.out)
          have ST2 := Lib.hid (show (f2 = false ∧ f0 = false ∧ restT T p = flatC c (zs ++ [n]) ++ restT T q2) ∨ (f2 = true ∧ (f0 = false → NoLast c most (restT T p))) from by
            rcases HN.out with ⟨h1, _, h3⟩ | ⟨h1, _, h3⟩
            · rcases hs5 with ⟨k1, k2, k3⟩ | ⟨k1, k2⟩
              · refine .inl ⟨k3.trans h3, F0.out, ?_⟩
                rw [HR.out, h1.1, flatC_snoc, k1, k2]
                simp only [List.append_assoc, List.singleton_append]
              · exact .inr ⟨k2, fun _ => noLast_skip HC.out AL.out HR.out h1 NE.out k1⟩
            · have hn := noLast_num HC.out AL.out HR.out h1
              rcases hs5 with ⟨_, _, k3⟩ | ⟨_, k2⟩
              · exact .inr ⟨k3.trans h3, fun _ => hn⟩
              · exact .inr ⟨k2, fun _ => hn⟩)
          have R5 := Lib.hid r5
          obtain ⟨A9, cap9, e9⟩ := own_sl O5.out
          have E9 := Lib.hid e9
          clear hs5 r5 g5 e9
          go_wp2
          exact ⟨⟨zs ++ [n], q2, f2, by rw [List.length_append, List.length_singleton]; omega, AL2.out, ST2.out, O5.out, R5.out, S5.out, B5.out⟩, by rw [E9.out]; simp only [lenV, List.length_append, List.length_singleton]; omega⟩
      · have gd : decide ((zs.length : Int) < 12) = false := decide_eq_false (by omega)
        have NL := Lib.hid (noLast_many HC.out AL.out HR.out (by omega))
        go_wp2_with fail
        refine FA.out.mono ?_
        rintro e w4 ⟨rfl, r4, g4⟩
        have R4 := Lib.hid r4
        have B4 := Lib.hid (HB.out.trans g4)
        clear r4 g4
        go_wp2
        go_ret
        exact ⟨_, [], q, true, rfl, .inr ⟨rfl, fun _ => NL.out⟩, (fun _ h => by simp at h), by simp, ⟨rfl, .inl ⟨rfl, rfl⟩⟩, R4.out, B4.out⟩
    · have NL := Lib.hid (show f0 = false → NoLast c most (restT T p) from by
        rcases ST.out with h | h
        · exact absurd h.1 (by decide)
        · exact h.2)
      have c2 : wr.cell? ⟨g, 2, none⟩ = some (.iface 166 (.pointer (some y))) := R.out.c2
      go_wp2_with fail
      refine FA.out.mono ?_
      rintro e w4 ⟨rfl, r4, g4⟩
      have R4 := Lib.hid r4
      have B4 := Lib.hid (HB.out.trans g4)
      clear r4 g4
      go_wp2
      go_ret
      exact ⟨_, [], q, true, rfl, .inr ⟨rfl, NL.out⟩, (fun _ h => by simp at h), by simp, ⟨rfl, .inl ⟨rfl, rfl⟩⟩, R4.out, B4.out⟩
set_option maxHeartbeats 2000000 in
theorem markI16o_any (v : Value) (l : List Int) (k0 : Int) (base : Nat) (w : World) (hn : l.length ≤ 300) (hk0 : 0 ≤ k0) (hk1 : k0 ≤ 1000) (hown : w.ownsRow base 22 1 v l.length (l.map (Value.int .i16))) :
    Calls Tryd.prog 59 #[v, .int .i64 k0] w fun e w' => e = .returned (.int .i64 (k0 + l.length)) ∧ w'.ownsRow base 22 1 v (mks k0 l).length ((mks k0 l).map (Value.int .i16)) ∧ w.grownBy w' v.ownBlock := by
  have el := mks_length k0 l
  by_cases h0 : l = []
  · subst h0
    obtain ⟨A, c, rfl⟩ : ∃ A c, v = .slice A 0 c := by
      rcases hown.2 with ⟨rfl, _⟩ | ⟨g, cap, cur, rfl, _⟩
      · exact ⟨_, _, rfl⟩
      · exact ⟨_, _, rfl⟩
    have HO := Lib.hid hown
    clear hown el hn
    go_enter Tryd.func59, Tryd.ntmps59
    go_wp2
    refine wp_loop_rounds 1 ?_
    rw [rounds_succ]; go_wp2
    go_ret
    exact ⟨by simp, HO.out, World.grownBy.refl w _⟩
  · have hpos : 0 < l.length := List.length_pos_iff.2 h0
    obtain ⟨g, cap, rfl⟩ : ∃ g cap, v = .slice (some ⟨g, 0, none⟩) l.length cap := by
      rcases hown.2 with ⟨_, h⟩ | ⟨g, cap, cur, h, _⟩
      · omega
      · exact ⟨g, cap, h⟩
    have HO := Lib.hid hown
    clear hown h0
    rw [el]
    clear el
    go_enter Tryd.func59, Tryd.ntmps59
    go_wp2
    go_loopw [1, 5] (fun x i wr => ∃ j : Nat, j ≤ l.length ∧ i = .int .i64 j ∧ x = .int .i64 (k0 + (j : Int)) ∧ wr.ownsRow base 22 1 (.slice (some ⟨g, 0, none⟩) l.length cap) l.length ((mksTo k0 l j).map (Value.int .i16)) ∧ w.grownBy wr (some g)) (fun _ i _ => l.length - (intOf i).toNat)
    case atStart => exact ⟨0, Nat.zero_le _, rfl, by simp, by rw [mksTo_zero]; exact HO.out, World.grownBy.refl w _⟩
    case round =>
      obtain ⟨j, hj, rfl, rfl, how, hgr⟩ := hrel
      have HW := Lib.hid how
      have HG := Lib.hid hgr
      clear how hgr
      by_cases hlt : j < l.length
      · have hlj : j < (mksTo k0 l j).length := by rw [mksTo_length]; exact hlt
        obtain ⟨u, hu⟩ : ∃ u, wr.cell? ⟨g, j, none⟩ = some u := ⟨_, (HW.out.cellAt j (by omega)).trans (by rw [List.getElem?_eq_getElem (by simpa using hlj)])⟩
        have fz := HW.out.frozenAt
        have hw16 : IntKind.i16.wrap (k0 + (j : Int)) = k0 + (j : Int) := IntWalk.i16_in _ (by omega)
        clear hlj
        go_wp2
        go_roundw
        case rel => exact ⟨j + 1, by omega, by go_num, by first | go_num | (congr 1; push_cast; omega), by rw [← mksTo_succ k0 .i16 l j hlt]; exact (HW.out.stored j _).1, only_set2 HG.out _ _⟩
        case measure => simp [intOf]; omega
      · obtain rfl : j = l.length := by omega
        go_wp2
        go_ret
        exact ⟨rfl, HW.out, HG.out⟩
set_option maxHeartbeats 2000000 in
theorem heldI16o_any (v : Value) (l : List Int) (k0 : Int) (w : World) (hn : l.length ≤ 300) (hk0 : 0 ≤ k0) (hk1 : k0 ≤ 1000) (hs : IntsOf .i16 w v (mks k0 l)) :
    Calls Tryd.prog 60 #[v, .int .i64 k0] w fun e w' => e = .returned (.int .i64 (k0 + l.length)) ∧ Below w.heap.size w w' := by
  obtain ⟨A, c, rfl, hs⟩ := hs
  have el := mks_length k0 l
  have HS := Lib.hid hs
  have EL := Lib.hid el
  clear hs
  rw [el]
  clear el
  go_enter Tryd.func60, Tryd.ntmps60
  go_wp2
  go_loopw [1, 5] (fun x i wr => ∃ j : Nat, j ≤ l.length ∧ i = .int .i64 j ∧ x = .int .i64 (k0 + (j : Int)) ∧ Below w.heap.size w wr) (fun _ i _ => l.length - (intOf i).toNat)
  case atStart => exact ⟨0, Nat.zero_le _, rfl, by simp, Below.refl _ _⟩
  case round =>
    obtain ⟨j, hj, rfl, rfl, hb⟩ := hrel
    by_cases hlt : j < l.length
    · obtain ⟨g, o, rfl, hg, hat⟩ := HS.out (by have := EL.out; omega)
      have c0 := hat.below hb hg j (by have := EL.out; omega)
      have e : (mks k0 l)[j]'(by have := EL.out; omega) = k0 + (j : Int) := by simp [mks, mksTo, hlt]
      rw [e] at c0
      have hw16 : IntKind.i16.wrap (k0 + (j : Int)) = k0 + (j : Int) := IntWalk.i16_in _ (by omega)
      clear hat e
      go_wp2
      go_roundw
      case rel => exact ⟨j + 1, by omega, by go_num, by first | go_num | (congr 1; push_cast; omega), hb⟩
      case measure => simp [intOf]; omega
    · obtain rfl : j = l.length := by omega
      go_wp2
      go_ret
      exact ⟨rfl, hb⟩
end Go.Proofs.YtkojnepgeegalaaDoor
