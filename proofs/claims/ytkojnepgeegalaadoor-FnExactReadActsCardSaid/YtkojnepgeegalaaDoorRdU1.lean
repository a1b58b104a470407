/- ReadActs, by the program: a contract. Condition: the two error variables hold two different errors of errors.New's make; a text no longer than told. -/
import Derived.Test.YtkojnepgeegalaaDoorAxN
namespace Go.Proofs.YtkojnepgeegalaaDoor
set_option linter.unusedSimpArgs false
set_option linter.unusedVariables false
set_option maxRecDepth 100000
open Go.RowKit

set_option maxHeartbeats 8000000 in
theorem readActs_any (T : ByteArray) (hT : T.size ≤ 1048576) (w : World) (s y : Addr) (he : Es2 w s y) :
    Calls Tryd.prog 27 #[.string T] w fun e w' => ∃ u, e = .returned (.tuple #[u, .int .i64 (rtC T.data.toList)]) ∧ w'.ownsRow w.heap.size 42 3 u (rtX T.data.toList).length (axC (rtX T.data.toList)) ∧ Below w.heap.size w w' := by
  have hl0 := World.block_lt_of_cell? _ _ he.cy
  have hne : w.heap.size ≠ 0 := fun e => by
    have h2 : (0 : Nat) < w.heap.size := hl0
    omega
  obtain ⟨i0, hi0, hz0, hz1, hz2⟩ := info_parts infoAct
  have X0 := Lib.hid (mrt_start w T s y he)
  have HE := Lib.hid he
  clear he
  go_enter Tryd.func27, Tryd.ntmps27
  go_upto_region 2 with (fail)
  generalize World.alloc _ _ = w1 at X0 ⊢
  have Z1 : w.heap.size < w1.heap.size := X0.out.rd.lt
  go_wp2
  go_loopw [5] (fun o_ wr => ∃ (ms : List Ax) (q : Nat) (f : Bool), ms.length ≤ 201 ∧ PreA T.data.toList ms T q f ∧ wr.ownsRow w1.heap.size 42 3 o_ ms.length (axC ms) ∧ MRt w wr T s y q f ∧ w1.heap.size ≤ wr.heap.size) (fun o_ _ => 201 - lenV o_)
  case atStart => exact ⟨[], 0, false, by simp, preA_zero T, ⟨rfl, .inl ⟨rfl, rfl⟩⟩, X0.out, Nat.le_refl _⟩
  case round =>
    obtain ⟨ms, q, f, hk, hp, ho, hx, hz⟩ := hrel
    have PM := Lib.hid hp
    have OW := Lib.hid ho
    have XR := Lib.hid hx
    clear hp ho hx
    cases f
    case true =>
      have c2 : wr.cell? ⟨w.heap.size, 2, none⟩ = some (.iface 166 (.pointer (some y))) := XR.out.rd.c2
      have EN := Lib.hid (preA_end PM.out (.inl rfl))
      obtain ⟨e1, e2⟩ : rtX T.data.toList = [] ∧ rtC T.data.toList = 5 := by
        rcases EN.out with ⟨h, _⟩ | ⟨_, e1, e2⟩
        · cases h
        · exact ⟨e1, e2⟩
      have Z := Lib.hid e1
      have C := Lib.hid e2
      clear e1 e2
      go_wp2_with fail
      refine (codeOf_syn wr s y XR.out.es).mono ?_
      rintro e w' ⟨rfl, rfl⟩
      go_wp2
      go_ret2
      exact ⟨_, by rw [C.out]; rfl, by rw [Z.out]; exact ⟨rfl, .inl ⟨rfl, rfl⟩⟩, XR.out.bl⟩
    have c2 : wr.cell? ⟨w.heap.size, 2, none⟩ = some .nilIface := XR.out.rd.c2
    have ne := fun W => nilEq W
    have AE := Lib.hid (atEnd_any w.heap.size T q false y wr XR.out.rd)
    obtain ⟨A5, cap5, rfl⟩ := vlen_own2 OW.out
    by_cases hq : q = T.size
    · have EN := Lib.hid (preA_end PM.out (.inr hq))
      rw [decide_eq_true hq] at AE
      obtain ⟨e1, e2⟩ : rtX T.data.toList = ms ∧ rtC T.data.toList = 0 := by
        rcases EN.out with ⟨_, e1, e2⟩ | ⟨h, _⟩
        · exact ⟨e1, e2⟩
        · cases h
      have Z := Lib.hid e1
      have C := Lib.hid e2
      have nn := fun W => nilNeq W
      clear e1 e2 hq
      go_wp2_with fail
      refine AE.out.mono ?_
      rintro e w4 ⟨rfl, h4⟩
      have X4 := Lib.hid (XR.out.bx HE.out h4)
      have O4 := Lib.hid (ownMono (ownBelow OW.out h4) (Nat.le_of_lt Z1))
      have d2 : w4.cell? ⟨w.heap.size, 2, none⟩ = some .nilIface := X4.out.rd.c2
      clear h4 c2
      go_wp2
      go_ret2
      exact ⟨_, by rw [C.out]; rfl, by rw [Z.out]; exact O4.out, X4.out.bl⟩
    · have QN := Lib.hid (show restT T q ≠ [] from fun e => by
        have := congrArg List.length e
        rw [restT_len, List.length_nil] at this
        have := XR.out.rd.le
        omega)
      have hk2 : ms.length ≤ 200 := by
        rcases PM.out with ⟨_, _, h, _⟩ | ⟨h, _⟩
        · exact h
        · cases h
      rw [decide_eq_false hq] at AE
      clear hq
      go_wp2_with fail
      refine AE.out.mono ?_
      rintro e w2 ⟨rfl, h2⟩
      have X2 := Lib.hid (XR.out.bx HE.out h2)
      have O2 := Lib.hid (ownBelow OW.out h2)
      have z2 := h2.size
      clear h2 c2
      obtain ⟨n1, hn1⟩ : ∃ n1, n1 = ms.length + 1 := ⟨_, rfl⟩
      have N1 := Lib.hid hn1
      have hn1b : n1 ≤ 201 := by omega
      clear hn1
      go_wp2_with fail
      refine (act_any w.heap.size hne T hT q false y w2 X2.out.rd X2.out.es.cy).mono ?_
      rintro e w4 ⟨b, q1, f1, rfl, ⟨hm4, -⟩, r4, g4⟩
      have HM := Lib.hid hm4
      have X4 := Lib.hid (X2.out.nx HE.out g4 r4)
      have O4 := Lib.hid (ownOther O2.out g4 (fun k hk e => by have := (O2.out.lt k hk).1; injection e with e; omega))
      have z4 := g4.size
      have bx := (Below.refl w4.heap.size w4).alloc (Nat.le_refl _) (.cells #[.int .i8 (b.1 : Int), .int .i8 (b.2.1 : Int), .int .i8 (b.2.2 : Int)] 42)
      have X5 := Lib.hid (X4.out.bx HE.out bx)
      have O5 := Lib.hid (show (w4.alloc (.cells #[.int .i8 (b.1 : Int), .int .i8 (b.2.1 : Int), .int .i8 (b.2.2 : Int)] 42)).ownsRow w1.heap.size 42 3 (.slice A5 ms.length cap5) ms.length (axC ms) from O4.out.alloc _)
      clear hm4 r4 g4 bx
      go_wp2_with (at_builtin; refine wpList_append_own _ rfl (.tmp 15) (.tmp 17) _ rfl w1.heap.size 42 i0 (.agg #[.int .i8 0, .int .i8 0, .int .i8 0]) 3 3 Tryd.underlying46 hi0 hz0 hz1 hz2 rfl (by decide) _ _ _ rfl O5.out ⟨w4.heap.size, 0, none⟩ 1 1 [.int .i8 (b.1 : Int), .int .i8 (b.2.1 : Int), .int .i8 (b.2.2 : Int)] rfl rfl (cell3_new _ _ _ _ _) (one3 _ _ _) (by unfold maxLen; omega) (by omega) (by simp; omega) ?_)
      intro v6 w6 hown6 hgrow6 _
      have O6 := Lib.hid (show w6.ownsRow w1.heap.size 42 3 v6 n1 (axC (ms ++ [b])) by rw [N1.out, axC_snoc]; exact hown6)
      have X6 := Lib.hid (X5.out.kx HE.out hgrow6 (fun k hk => by have := (O5.out.lt k hk).1; omega))
      have z6 := hgrow6.size
      have z6b : w1.heap.size ≤ w6.heap.size := by simp at z6; omega
      obtain ⟨A6, cap6, rfl⟩ := vlen_own2 O6.out
      have EL := Lib.hid (show (ms ++ [b]).length = n1 by rw [List.length_append, List.length_singleton, N1.out])
      clear hown6 hgrow6 z6
      go_wp2_with fail
      refine (skip_any w.heap.size hne T hT q1 f1 y 10 10 rfl w6 X6.out.rd X6.out.es.cy).mono ?_
      rintro e w8 ⟨q2, f2, rfl, hs8, r8, g8⟩
      have PS := Lib.hid (fun f3 (h3 : f3 = (f2 || decide (200 < ms.length + 1))) => preA_step PM.out QN.out HM.out hs8 h3)
      have X8 := Lib.hid (X6.out.nx HE.out g8 r8)
      have O8 := Lib.hid (ownOther O6.out g8 (fun k hk e => by have := (O6.out.lt k hk).1; injection e with e; omega))
      have z8 := g8.size
      clear hs8 r8 g8
      by_cases hl : 200 < n1
      · have d2 : decide (200 < n1) = true := decide_eq_true hl
        have d3 : decide ((200 : Int) < (n1 : Int)) = true := decide_eq_true (by omega)
        have P7 := Lib.hid (PS.out true (by rw [← N1.out, decide_eq_true hl]; simp))
        go_wp2_with fail
        refine (fail_any w.heap.size T q2 f2 y w8 X8.out.rd X8.out.es.cy).mono ?_
        rintro e w7 ⟨rfl, r7, g7⟩
        have X7 := Lib.hid (X8.out.nx HE.out g7 r7)
        have O7 := Lib.hid (ownOther O8.out g7 (fun k hk e => by have := (O8.out.lt k hk).1; injection e with e; omega))
        have z7 := g7.size
        clear r7 g7
        go_wp2
        exact ⟨⟨ms ++ [b], q2, true, by have := EL.out; omega, P7.out, by rw [EL.out]; exact O7.out, X7.out, by omega⟩, by simp only [lenV]; have := N1.out; omega⟩
      · have d2 : decide (200 < n1) = false := decide_eq_false hl
        have d3 : decide ((200 : Int) < (n1 : Int)) = false := decide_eq_false (by omega)
        have P7 := Lib.hid (PS.out f2 (by rw [← N1.out, decide_eq_false hl]; simp))
        go_wp2
        exact ⟨⟨ms ++ [b], q2, f2, by have := EL.out; omega, P7.out, by rw [EL.out]; exact O8.out, X8.out, by omega⟩, by simp only [lenV]; have := N1.out; omega⟩
end Go.Proofs.YtkojnepgeegalaaDoor
