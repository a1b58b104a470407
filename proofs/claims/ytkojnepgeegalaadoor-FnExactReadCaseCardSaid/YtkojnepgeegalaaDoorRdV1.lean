/- ReadMoves, by the program: a contract. Condition: the two error variables hold two different errors of errors.New's make; a text no longer than told. -/
import Derived.Test.YtkojnepgeegalaaDoorRdV0
import Derived.Test.YtkojnepgeegalaaDoorRdB2
import Derived.Test.YtkojnepgeegalaaDoorMvN
namespace Go.Proofs.YtkojnepgeegalaaDoor
set_option linter.unusedSimpArgs false
set_option linter.unusedVariables false
set_option maxRecDepth 100000
open Go.RowKit

theorem infoMv : (Tryd.prog.info? 83).map (fun i => (i.zero, i.size, i.bytes)) = some (some (.agg #[.int .i16 0, .int .i16 0]), 2, 4) := by kernel_rfl
theorem vlen_own2 {w : World} {base size : Nat} {e : TypeId} {v : Value} {n : Nat} {l : List Value} (h : w.ownsRow base e size v n l) : ∃ A c, v = .slice A n c := by
  rcases h.2 with ⟨h, h0⟩ | ⟨g, cap, cur, h, _⟩
  · exact ⟨none, 0, by rw [h, h0]⟩
  · exact ⟨_, cap, h⟩
def MB (W : World) (g : Nat) (a b : Int) : Prop := W.heap[g]? = some (.cells #[.int .i16 a, .int .i16 b] 83 (0, 0))
theorem MB.c0 {W : World} {g : Nat} {a b : Int} (h : MB W g a b) : W.cell? ⟨g, 0, none⟩ = some (.int .i16 a) := cell_of_row W g 0 _ _ _ h
theorem MB.c1 {W : World} {g : Nat} {a b : Int} (h : MB W g a b) : W.cell? ⟨g, 1, none⟩ = some (.int .i16 b) := cell_of_row W g 1 _ _ _ h
theorem MB.fz {W : World} {g : Nat} {a b : Int} (h : MB W g a b) (i : Nat) : W.frozen? ⟨g, i, none⟩ = false := frozen_of_row W g i _ _ h
theorem MB.lt {W : World} {g : Nat} {a b : Int} (h : MB W g a b) : g < W.heap.size := (Array.getElem?_eq_some_iff.1 h).1
theorem MB.gr {W W' : World} {g k : Nat} {a b : Int} (h : MB W g a b) (hg : Gr k W W') (hne : g ≠ k) : MB W' g a b := (hg.block g h.lt (fun e => hne (by injection e))).trans h
theorem MB.put {W : World} {g : Nat} {a b : Int} (h : MB W g a b) (x z : Int) : MB ((W.setCell ⟨g, 0, none⟩ (.int .i16 x)).setCell ⟨g, 1, none⟩ (.int .i16 z)) g x z := by
  unfold MB at *
  have h1 := heap_setCell_same _ _ 0 _ _ (.int .i16 x) h
  have h2 := heap_setCell_same _ _ 1 _ _ (.int .i16 z) h1
  simpa using h2
set_option maxHeartbeats 4000000 in
theorem move_any (g : Nat) (hg : g ≠ 0) (T : ByteArray) (hT : T.size ≤ 1048576) (p : Nat) (f : Bool) (y : Addr) (w : World) (h : Rd w g T p f y) (hs : Syn w y) :
    Calls Tryd.prog 50 #[.pointer (some ⟨g, 0, none⟩)] w fun e w' => ∃ (a b q : Nat) (f' : Bool), e = .returned (.agg #[.int .i16 (a : Int), .int .i16 (b : Int)]) ∧ MoveS T p f a b q f' ∧ Rd w' g T q f' y ∧ Gr g w w' := by
  have b0 := (Below.refl w.heap.size w).alloc (Nat.le_refl _) (.cells #[.int .i16 0, .int .i16 0] 83)
  have hl := h.lt
  have R0 := Lib.hid (h.below b0)
  have S0 := Lib.hid (show Syn (w.alloc (.cells #[.int .i16 0, .int .i16 0] 83)) y from hs.gr (Gr.of (g := g) b0) hg)
  have G0 := Lib.hid (Gr.of (g := g) b0)
  have M0 := Lib.hid (show MB (w.alloc (.cells #[.int .i16 0, .int .i16 0] 83)) w.heap.size 0 0 from heap_alloc_new w _)
  clear b0 h hs
  go_enter Tryd.func50, Tryd.ntmps50
  go_upto_region 1 with (fail)
  generalize World.alloc _ _ = W0 at R0 S0 G0 M0 ⊢
  go_wp2_with fail
  refine (number_any g hg T hT p f y 99 (by omega) W0 R0.out S0.out).mono ?_
  rintro e w1 ⟨n, q1, f1, rfl, hn, r1, g1⟩
  have nb := num_in (by omega) hn
  obtain ⟨a, rfl⟩ : ∃ a : Nat, n = (a : Int) := ⟨n.toNat, by omega⟩
  have HN := Lib.hid hn
  have R1 := Lib.hid r1
  have S1 := Lib.hid (S0.out.gr g1 hg)
  have G1 := Lib.hid (G0.out.trans g1)
  have M1 := Lib.hid (M0.out.gr g1 (by omega))
  have ha : a ≤ 99 := by omega
  clear hn r1 g1 nb
  go_wp2_with fail
  refine (skip_any g hg T hT q1 f1 y 62 62 rfl w1 R1.out S1.out).mono ?_
  rintro e w2 ⟨q2, f2, rfl, hk, r2, g2⟩
  have HK := Lib.hid hk
  have R2 := Lib.hid r2
  have S2 := Lib.hid (S1.out.gr g2 hg)
  have G2 := Lib.hid (G1.out.trans g2)
  have M2 := Lib.hid (M1.out.gr g2 (by omega))
  clear hk r2 g2
  go_wp2_with fail
  refine (number_any g hg T hT q2 f2 y 99 (by omega) w2 R2.out S2.out).mono ?_
  rintro e w3 ⟨n2, q3, f3, rfl, hn, r3, g3⟩
  have nb := num_in (by omega) hn
  obtain ⟨b, rfl⟩ : ∃ b : Nat, n2 = (b : Int) := ⟨n2.toNat, by omega⟩
  have HM := Lib.hid (moveS_of HN.out HK.out hn)
  have G3 := Lib.hid (G2.out.trans g3)
  have M3 := Lib.hid (M2.out.gr g3 (by omega))
  have hb : b ≤ 99 := by omega
  have a0 := M3.out.c0
  have a1 := M3.out.c1
  have fz := M3.out.fz
  have PR := Lib.hid (M3.out.put (a : Int) (b : Int))
  have RD := Lib.hid (show Rd ((w3.setCell ⟨w.heap.size, 0, none⟩ (.int .i16 (a : Int))).setCell ⟨w.heap.size, 1, none⟩ (.int .i16 (b : Int))) g T q3 f3 y from (r3.gr ((Gr.refl w.heap.size w3).set 0 (.int .i16 (a : Int))) (by omega)).gr ((Gr.refl w.heap.size _).set 1 (.int .i16 (b : Int))) (by omega))
  have GR := Lib.hid (show Gr g w ((w3.setCell ⟨w.heap.size, 0, none⟩ (.int .i16 (a : Int))).setCell ⟨w.heap.size, 1, none⟩ (.int .i16 (b : Int))) from (G3.out.grown ((Gr.refl w.heap.size _).set 0 (.int .i16 (a : Int))) (own0 w)).grown ((Gr.refl w.heap.size _).set 1 (.int .i16 (b : Int))) (own0 w))
  have hw1 : IntKind.i16.wrap (a : Int) = (a : Int) := IntWalk.i16_in _ (by omega)
  have hw2 : IntKind.i16.wrap (b : Int) = (b : Int) := IntWalk.i16_in _ (by omega)
  clear hn r3 g3 nb
  go_wp2
  have q0 := PR.out.c0
  have q1' := PR.out.c1
  exact bodyPost_ret (v := .agg #[.int .i16 (a : Int), .int .i16 (b : Int)]) (by simp [results, Tryd.results50, go_sem, q0, q1']) rfl ⟨a, b, q3, f3, rfl, HM.out, RD.out, GR.out⟩
/-- Where a reading function stands: its reader is the first block of its own. -/
structure MRt (w W : World) (T : ByteArray) (s y : Addr) (q : Nat) (f : Bool) : Prop where
  rd : Rd W w.heap.size T q f y
  es : Es2 W s y
  bl : Below w.heap.size w W
theorem MRt.nx {w W W' : World} {T : ByteArray} {s y : Addr} {q q' : Nat} {f f' : Bool} (he : Es2 w s y) (h : MRt w W T s y q f) (hg : Gr w.heap.size W W') (r : Rd W' w.heap.size T q' f' y) : MRt w W' T s y q' f' := by
  have b2 := h.bl.grown hg h.bl.size (fun k hk => by injection hk with hk; omega)
  exact ⟨r, he.below b2, b2⟩
theorem MRt.bx {w W W' : World} {T : ByteArray} {s y : Addr} {q : Nat} {f : Bool} (he : Es2 w s y) (h : MRt w W T s y q f) (hb : Below W.heap.size W W') : MRt w W' T s y q f :=
  h.nx he (Gr.of hb) (h.rd.below hb)
theorem MRt.kx {w W W' : World} {T : ByteArray} {s y : Addr} {q : Nat} {f : Bool} {row : Option Nat} (he : Es2 w s y) (h : MRt w W T s y q f) (hg : W.grownBy W' row) (hr : ∀ k, row = some k → w.heap.size < k) : MRt w W' T s y q f := by
  have b2 := h.bl.grown hg h.bl.size (fun k hk => by have := hr k hk; omega)
  exact ⟨h.rd.kept hg (fun e => by have := hr _ e.symm; omega), he.below b2, b2⟩
theorem mrt_start (w : World) (T : ByteArray) (s y : Addr) (he : Es2 w s y) : MRt w (w.alloc (.cells #[.string T, .int .i64 0, .nilIface] 76)) T s y 0 false := by
  have b0 := (Below.refl w.heap.size w).alloc (Nat.le_refl _) (.cells #[.string T, .int .i64 0, .nilIface] 76)
  exact ⟨⟨heap_alloc_new w _, Nat.zero_le _⟩, he.below b0, b0⟩
set_option maxHeartbeats 8000000 in
theorem readMoves_any (T : ByteArray) (hT : T.size ≤ 1048576) (w : World) (s y : Addr) (he : Es2 w s y) :
    Calls Tryd.prog 19 #[.string T] w fun e w' => ∃ u, e = .returned (.tuple #[u, .int .i64 (rmC T.data.toList)]) ∧ w'.ownsRow w.heap.size 83 2 u (rmZ T.data.toList).length (mvC (rmZ T.data.toList)) ∧ Below w.heap.size w w' := by
  have hl0 := World.block_lt_of_cell? _ _ he.cy
  have hne : w.heap.size ≠ 0 := fun e => by
    have h2 : (0 : Nat) < w.heap.size := hl0
    omega
  obtain ⟨i0, hi0, hz0, hz1, hz2⟩ := info_parts infoMv
  have X0 := Lib.hid (mrt_start w T s y he)
  have HE := Lib.hid he
  clear he
  go_enter Tryd.func19, Tryd.ntmps19
  go_upto_region 2 with (fail)
  generalize World.alloc _ _ = w1 at X0 ⊢
  have Z1 : w.heap.size < w1.heap.size := X0.out.rd.lt
  go_wp2
  go_loopw [5] (fun o_ wr => ∃ (ms : List (Nat × Nat)) (q : Nat) (f : Bool), ms.length ≤ 201 ∧ PreM T.data.toList ms T q f ∧ wr.ownsRow w1.heap.size 83 2 o_ ms.length (mvC ms) ∧ MRt w wr T s y q f ∧ w1.heap.size ≤ wr.heap.size) (fun o_ _ => 201 - lenV o_)
  case atStart => exact ⟨[], 0, false, by simp, preM_zero T, ⟨rfl, .inl ⟨rfl, rfl⟩⟩, X0.out, Nat.le_refl _⟩
  case round =>
    obtain ⟨ms, q, f, hk, hp, ho, hx, hz⟩ := hrel
    have PM := Lib.hid hp
    have OW := Lib.hid ho
    have XR := Lib.hid hx
    clear hp ho hx
    cases f
    case true =>
      have c2 : wr.cell? ⟨w.heap.size, 2, none⟩ = some (.iface 166 (.pointer (some y))) := XR.out.rd.c2
      have EN := Lib.hid (preM_end PM.out (.inl rfl))
      obtain ⟨e1, e2⟩ : rmZ T.data.toList = [] ∧ rmC T.data.toList = 5 := by
        rcases EN.out with ⟨h, _⟩ | ⟨_, e1, e2⟩
        · cases h
        · exact ⟨e1, e2⟩
      have Z := Lib.hid e1
      have C := Lib.hid e2
      clear e1 e2
      go_wp2_with fail
      refine (codeOf_syn wr s y XR.out.es).mono ?_
      rintro e w' ⟨rfl, rfl⟩
      go_wp2
      go_ret2
      exact ⟨_, by rw [C.out]; rfl, by rw [Z.out]; exact ⟨rfl, .inl ⟨rfl, rfl⟩⟩, XR.out.bl⟩
    have c2 : wr.cell? ⟨w.heap.size, 2, none⟩ = some .nilIface := XR.out.rd.c2
    have ne := fun W => nilEq W
    have AE := Lib.hid (atEnd_any w.heap.size T q false y wr XR.out.rd)
    obtain ⟨A5, cap5, rfl⟩ := vlen_own2 OW.out
    by_cases hq : q = T.size
    · have EN := Lib.hid (preM_end PM.out (.inr hq))
      rw [decide_eq_true hq] at AE
      obtain ⟨e1, e2⟩ : rmZ T.data.toList = ms ∧ rmC T.data.toList = 0 := by
        rcases EN.out with ⟨_, e1, e2⟩ | ⟨h, _⟩
        · exact ⟨e1, e2⟩
        · cases h
      have Z := Lib.hid e1
      have C := Lib.hid e2
      have nn := fun W => nilNeq W
      clear e1 e2 hq
      go_wp2_with fail
      refine AE.out.mono ?_
      rintro e w4 ⟨rfl, h4⟩
      have X4 := Lib.hid (XR.out.bx HE.out h4)
      have O4 := Lib.hid (ownMono (ownBelow OW.out h4) (Nat.le_of_lt Z1))
      have d2 : w4.cell? ⟨w.heap.size, 2, none⟩ = some .nilIface := X4.out.rd.c2
      clear h4 c2
      go_wp2
      go_ret2
      exact ⟨_, by rw [C.out]; rfl, by rw [Z.out]; exact O4.out, X4.out.bl⟩
    · have QN := Lib.hid (show restT T q ≠ [] from fun e => by
        have := congrArg List.length e
        rw [restT_len, List.length_nil] at this
        have := XR.out.rd.le
        omega)
      have hk2 : ms.length ≤ 200 := by
        rcases PM.out with ⟨_, _, h, _⟩ | ⟨h, _⟩
        · exact h
        · cases h
      rw [decide_eq_false hq] at AE
      clear hq
      go_wp2_with fail
      refine AE.out.mono ?_
      rintro e w2 ⟨rfl, h2⟩
      have X2 := Lib.hid (XR.out.bx HE.out h2)
      have O2 := Lib.hid (ownBelow OW.out h2)
      have z2 := h2.size
      clear h2 c2
      obtain ⟨n1, hn1⟩ : ∃ n1, n1 = ms.length + 1 := ⟨_, rfl⟩
      have N1 := Lib.hid hn1
      have hn1b : n1 ≤ 201 := by omega
      have MV := fun (W : World) (p : Nat) (f : Bool) (r : Rd W w.heap.size T p f y) (sy : Syn W y) => move_any w.heap.size hne T hT p f y W r sy
      have HMo := Lib.hid MV
      clear MV hn1
      by_cases hm : ms = []
      · have m0 : ms.length = 0 := by rw [hm]; rfl
        have d0 : decide (0 < ms.length) = false := decide_eq_false (by omega)
        have d1 : decide ((0 : Int) < (ms.length : Int)) = false := decide_eq_false (by omega)
        have SK := Lib.hid hm
        have X3 := X2
        have O3 := O2
        clear hm m0
        go_wp2_with fail
        refine (HMo.out _ q false X3.out.rd X3.out.es.cy).mono ?_
        rintro e w4 ⟨a, b, q2, f2, rfl, hm4, r4, g4⟩
        have HM := Lib.hid hm4
        have X4 := Lib.hid (X3.out.nx HE.out g4 r4)
        have O4 := Lib.hid (ownOther O3.out g4 (fun k hk e => by have := (O3.out.lt k hk).1; injection e with e; omega))
        have z4 := g4.size
        have bx := (Below.refl w4.heap.size w4).alloc (Nat.le_refl _) (.cells #[.int .i16 (a : Int), .int .i16 (b : Int)] 83)
        have X5 := Lib.hid (X4.out.bx HE.out bx)
        have O5 := Lib.hid (show (w4.alloc (.cells #[.int .i16 (a : Int), .int .i16 (b : Int)] 83)).ownsRow w1.heap.size 83 2 (.slice A5 ms.length cap5) ms.length (mvC ms) from O4.out.alloc _)
        clear hm4 r4 g4 bx
        go_wp2_with (at_builtin; refine wpList_append_own _ rfl (.tmp 19) (.tmp 21) _ rfl w1.heap.size 83 i0 (.agg #[.int .i16 0, .int .i16 0]) 2 4 Tryd.underlying35 hi0 hz0 hz1 hz2 rfl (by decide) _ _ _ rfl O5.out ⟨w4.heap.size, 0, none⟩ 1 1 [.int .i16 (a : Int), .int .i16 (b : Int)] rfl rfl ?c1a ?c2a ?c3a ?c4a ?c5a ?_)
        try (case c1a => exact cell2_new _ _ _ _)
        case c2a => first | exact ⟨rfl, rfl⟩ | (intro u hu; simp at hu; rcases hu with rfl | rfl <;> rfl)
        case c3a => (unfold maxLen; omega)
        case c4a => omega
        case c5a => first | omega | (simp; omega)
        intro v6 w6 hown6 hgrow6 _
        have O6 := Lib.hid (show w6.ownsRow w1.heap.size 83 2 v6 n1 (mvC (ms ++ [(a, b)])) by rw [N1.out, mvC_snoc]; exact hown6)
        have X6 := Lib.hid (X5.out.kx HE.out hgrow6 (fun k hk => by have := (O5.out.lt k hk).1; omega))
        have z6 := hgrow6.size
        have z6b : w1.heap.size ≤ w6.heap.size := by simp at z6; omega
        obtain ⟨A6, cap6, rfl⟩ := vlen_own2 O6.out
        have PS := Lib.hid (fun f3 (h3 : f3 = (f2 || decide (200 < ms.length + 1))) => preM_step (q1 := q) (f1 := false) PM.out QN.out (.inl ⟨SK.out, rfl, rfl⟩) HM.out h3)
        have EL := Lib.hid (show (ms ++ [(a, b)]).length = n1 by rw [List.length_append, List.length_singleton, N1.out])
        clear hown6 hgrow6 z6
        by_cases hl : 200 < n1
        · have d2 : decide (200 < n1) = true := decide_eq_true hl
          have d3 : decide ((200 : Int) < (n1 : Int)) = true := decide_eq_true (by omega)
          have P7 := Lib.hid (PS.out true (by rw [← N1.out, decide_eq_true hl]; simp))
          go_wp2_with fail
          refine (fail_any w.heap.size T q2 f2 y w6 X6.out.rd X6.out.es.cy).mono ?_
          rintro e w7 ⟨rfl, r7, g7⟩
          have X7 := Lib.hid (X6.out.nx HE.out g7 r7)
          have O7 := Lib.hid (ownOther O6.out g7 (fun k hk e => by have := (O6.out.lt k hk).1; injection e with e; omega))
          have z7 := g7.size
          clear r7 g7
          go_wp2
          exact ⟨⟨ms ++ [(a, b)], q2, true, by have := EL.out; omega, P7.out, by rw [EL.out]; exact O7.out, X7.out, by omega⟩, by simp only [lenV]; have := N1.out; omega⟩
        · have d2 : decide (200 < n1) = false := decide_eq_false hl
          have d3 : decide ((200 : Int) < (n1 : Int)) = false := decide_eq_false (by omega)
          have P7 := Lib.hid (PS.out f2 (by rw [← N1.out, decide_eq_false hl]; simp))
          go_wp2
          exact ⟨⟨ms ++ [(a, b)], q2, f2, by have := EL.out; omega, P7.out, by rw [EL.out]; exact O6.out, X6.out, z6b⟩, by simp only [lenV]; have := N1.out; omega⟩
      · have m0 : 0 < ms.length := by rcases ms with _ | ⟨x, t⟩; exact absurd rfl hm; simp
        have d0 : decide (0 < ms.length) = true := decide_eq_true m0
        have d1 : decide ((0 : Int) < (ms.length : Int)) = true := decide_eq_true (by omega)
        go_wp2_with fail
        refine (skip_any w.heap.size hne T hT q false y 32 32 rfl w2 X2.out.rd X2.out.es.cy).mono ?_
        rintro e w3 ⟨q1, f1, rfl, hs3, r3, g3⟩
        have SK := Lib.hid (show (ms = [] ∧ q1 = q ∧ f1 = false) ∨ (ms ≠ [] ∧ SkipS T q false 32 q1 f1) from .inr ⟨hm, hs3⟩)
        have X3 := Lib.hid (X2.out.nx HE.out g3 r3)
        have O3 := Lib.hid (ownOther O2.out g3 (fun k hk e => by have := (O2.out.lt k hk).1; injection e with e; omega))
        have z3 := g3.size
        clear hm m0 hs3 r3 g3
        go_wp2_with fail
        refine (HMo.out _ q1 f1 X3.out.rd X3.out.es.cy).mono ?_
        rintro e w4 ⟨a, b, q2, f2, rfl, hm4, r4, g4⟩
        have HM := Lib.hid hm4
        have X4 := Lib.hid (X3.out.nx HE.out g4 r4)
        have O4 := Lib.hid (ownOther O3.out g4 (fun k hk e => by have := (O3.out.lt k hk).1; injection e with e; omega))
        have z4 := g4.size
        have bx := (Below.refl w4.heap.size w4).alloc (Nat.le_refl _) (.cells #[.int .i16 (a : Int), .int .i16 (b : Int)] 83)
        have X5 := Lib.hid (X4.out.bx HE.out bx)
        have O5 := Lib.hid (show (w4.alloc (.cells #[.int .i16 (a : Int), .int .i16 (b : Int)] 83)).ownsRow w1.heap.size 83 2 (.slice A5 ms.length cap5) ms.length (mvC ms) from O4.out.alloc _)
        clear hm4 r4 g4 bx
        go_wp2_with (at_builtin; refine wpList_append_own _ rfl (.tmp 19) (.tmp 21) _ rfl w1.heap.size 83 i0 (.agg #[.int .i16 0, .int .i16 0]) 2 4 Tryd.underlying35 hi0 hz0 hz1 hz2 rfl (by decide) _ _ _ rfl O5.out ⟨w4.heap.size, 0, none⟩ 1 1 [.int .i16 (a : Int), .int .i16 (b : Int)] rfl rfl ?c1b ?c2b ?c3b ?c4b ?c5b ?_)
        try (case c1b => exact cell2_new _ _ _ _)
        case c2b => first | exact ⟨rfl, rfl⟩ | (intro u hu; simp at hu; rcases hu with rfl | rfl <;> rfl)
        case c3b => (unfold maxLen; omega)
        case c4b => omega
        case c5b => first | omega | (simp; omega)
        intro v6 w6 hown6 hgrow6 _
        have O6 := Lib.hid (show w6.ownsRow w1.heap.size 83 2 v6 n1 (mvC (ms ++ [(a, b)])) by rw [N1.out, mvC_snoc]; exact hown6)
        have X6 := Lib.hid (X5.out.kx HE.out hgrow6 (fun k hk => by have := (O5.out.lt k hk).1; omega))
        have z6 := hgrow6.size
        have z6b : w1.heap.size ≤ w6.heap.size := by simp at z6; omega
        obtain ⟨A6, cap6, rfl⟩ := vlen_own2 O6.out
        have PS := Lib.hid (fun f3 (h3 : f3 = (f2 || decide (200 < ms.length + 1))) => preM_step (q1 := q1) (f1 := f1) PM.out QN.out SK.out HM.out h3)
        have EL := Lib.hid (show (ms ++ [(a, b)]).length = n1 by rw [List.length_append, List.length_singleton, N1.out])
        clear hown6 hgrow6 z6
        by_cases hl : 200 < n1
        · have d2 : decide (200 < n1) = true := decide_eq_true hl
          have d3 : decide ((200 : Int) < (n1 : Int)) = true := decide_eq_true (by omega)
          have P7 := Lib.hid (PS.out true (by rw [← N1.out, decide_eq_true hl]; simp))
          go_wp2_with fail
          refine (fail_any w.heap.size T q2 f2 y w6 X6.out.rd X6.out.es.cy).mono ?_
          rintro e w7 ⟨rfl, r7, g7⟩
          have X7 := Lib.hid (X6.out.nx HE.out g7 r7)
          have O7 := Lib.hid (ownOther O6.out g7 (fun k hk e => by have := (O6.out.lt k hk).1; injection e with e; omega))
          have z7 := g7.size
          clear r7 g7
          go_wp2
          exact ⟨⟨ms ++ [(a, b)], q2, true, by have := EL.out; omega, P7.out, by rw [EL.out]; exact O7.out, X7.out, by omega⟩, by simp only [lenV]; have := N1.out; omega⟩
        · have d2 : decide (200 < n1) = false := decide_eq_false hl
          have d3 : decide ((200 : Int) < (n1 : Int)) = false := decide_eq_false (by omega)
          have P7 := Lib.hid (PS.out f2 (by rw [← N1.out, decide_eq_false hl]; simp))
          go_wp2
          exact ⟨⟨ms ++ [(a, b)], q2, f2, by have := EL.out; omega, P7.out, by rw [EL.out]; exact O6.out, X6.out, z6b⟩, by simp only [lenV]; have := N1.out; omega⟩
end Go.Proofs.YtkojnepgeegalaaDoor
