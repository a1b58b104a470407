/- AskedBy: the list by the model and by the program: contracts. Condition: no longer than slices can be, numbers within their kinds. -/
import Derived.Test.YtmafjncaigllbaaDkQ
namespace Go.Proofs.Ytmafjncaigllbaa
set_option linter.unusedSimpArgs false
set_option linter.unusedVariables false
set_option maxRecDepth 100000
open Go.RowKit

set_option maxHeartbeats 8000000 in
theorem specAskedBy_any (d : Dk) (hv : Value) (wf : d.Wf ∧ ∀ c ∈ d.cs, c.q.length ≤ maxLen) (who : Int) (w : World) (hs : CpsOf w hv d.cs) (hn : d.cs.length ≤ maxLen) :
    Calls Try.prog 31 #[.agg #[.int .i16 d.day, hv], .int .i64 who] w fun e w' => ∃ v, e = .returned (.tuple #[v, .int .i64 (cnC d who)]) ∧ w'.ownsRow w.heap.size 2 1 v (wh (cnCs d who) (askedB who)).length ((wh (cnCs d who) (askedB who)).map (Value.int .i64)) ∧ Below w.heap.size w w' := by
  have HD := Lib.hid (DkAt.new (t := 30) hs)
  have WF := Lib.hid wf
  have OK := Lib.hid (fun W (h : DkAt W w.heap.size d hv) => l06Ok_any d hv wf w.heap.size W h hn)
  obtain ⟨A, c, rfl, -⟩ := hs
  have G0 := Lib.hid (show Below w.heap.size w (w.alloc (.cells #[.int .i16 d.day, .slice A d.cs.length c] 30)) from (Below.refl _ _).alloc (Nat.le_refl _) _)
  obtain ⟨y1, y2⟩ := wf.1.day
  clear wf
  rcases cn_cases d who with ⟨h1, h2, -, h4⟩ | ⟨h1, hp, h2, -, h4⟩ | ⟨h1, hp, h2, -, h4⟩
  · rw [h2, h4, wh_nil]
    rw [h1] at OK
    clear h1 h2 h4
    go_enter Try.func31, Try.ntmps31
    go_wp2_with fail
    generalize World.alloc w _ = W at HD G0 ⊢
    refine (OK.out _ HD.out).mono ?_
    rintro e w1 ⟨rfl, g1⟩
    have G1 := Lib.hid (bnext G0.out g1)
    go_wp2
    go_ret2
    exact ⟨_, rfl, emptyOwn _ _ G1.out.size, G1.out.alloc G1.out.size _⟩
  · rw [h2, h4, wh_nil]
    rw [h1] at OK
    clear h1 h2 h4
    go_enter Try.func31, Try.ntmps31
    go_wp2_with fail
    generalize World.alloc w _ = W at HD G0 ⊢
    refine (OK.out _ HD.out).mono ?_
    rintro e w1 ⟨rfl, g1⟩
    have G1 := Lib.hid (bnext G0.out g1)
    go_wp2_with fail
    refine (l06Person_any _ _).mono ?_
    rintro e w' ⟨rfl, rfl⟩
    rw [hp]
    go_wp2
    go_ret2
    exact ⟨_, rfl, emptyOwn _ _ G1.out.size, G1.out.alloc G1.out.size _⟩
  · rw [h2, h4]
    rw [h1] at OK
    have h60 := dk_60 h1
    obtain ⟨i0, hi0, hz0, hz1, hz2⟩ := info_parts infoI64d
    clear h1 h2 h4
    go_enter Try.func31, Try.ntmps31
    go_wp2_with fail
    generalize World.alloc w _ = W at HD G0 ⊢
    refine (OK.out _ HD.out).mono ?_
    rintro e w1 ⟨rfl, g1⟩
    have G1 := Lib.hid (bnext G0.out g1)
    have HD1 := Lib.hid (HD.out.below g1)
    clear g1
    go_wp2_with fail
    refine (l06Person_any _ _).mono ?_
    rintro e w' ⟨rfl, rfl⟩
    rw [hp]
    have H0 := Lib.hid (show (w1.alloc (.cells #[] 2)).ownsRow w1.heap.size 2 1 (.slice (some ⟨w1.heap.size, 0, none⟩) 0 0) (whTo d.cs (askedB who) 0).length ((whTo d.cs (askedB who) 0).map (Value.int .i64)) from emptyOwn _ _ (Nat.le_refl _))
    have GA := Lib.hid ((Below.refl w1.heap.size w1).alloc (Nat.le_refl _) (.cells #[] 2))
    clear hp
    go_wp2
    generalize World.alloc w1 _ = W2 at H0 GA ⊢
    go_loopw [6, 7] (fun v_ i_ wr => ∃ i : Nat, i ≤ d.cs.length ∧ i_ = .int .i64 (i : Int) ∧ wr.ownsRow w1.heap.size 2 1 v_ (whTo d.cs (askedB who) i).length ((whTo d.cs (askedB who) i).map (Value.int .i64)) ∧ Below w1.heap.size w1 wr) (fun _ i_ _ => d.cs.length - (intOf i_).toNat)
    case atStart => exact ⟨0, Nat.zero_le _, rfl, H0.out, GA.out⟩
    case round =>
      obtain ⟨i, hi, rfl, hown, hb⟩ := hrel
      have OW := Lib.hid hown
      obtain ⟨A3, c3, rfl⟩ := vlen_own1 hown
      have WL := Lib.hid (whTo_len d.cs (askedB who) i)
      have HB := Lib.hid hb
      have hsz := hb.size
      obtain ⟨b0, b1, hg2, hs⟩ := HD1.out.below hb
      clear hown hb
      by_cases hlt : i < d.cs.length
      · obtain ⟨ga, oa, rfl, hga, hin⟩ := hs.in0 hlt
        have WK := Lib.hid (WF.out.1.cs _ (List.getElem_mem hlt))
        have QM := Lib.hid (WF.out.2 _ (List.getElem_mem hlt))
        have WY := Lib.hid (fun h => whTo_yes (p := askedB who) hlt h)
        have WN := Lib.hid (fun h => whTo_no (p := askedB who) hlt h)
        have HI := Lib.hid hin
        clear hs hin
        obtain ⟨x, hx⟩ : ∃ x, x = d.cs[i] := ⟨_, rfl⟩
        rw [← hx] at WK QM WY WN HI
        clear hx
        obtain ⟨p0, p1, -, -, u, p4, hq⟩ := HI.out
        have CL := Lib.hid (l06Place_any u x.q who wr hq WK.out.q QM.out)
        obtain ⟨⟨x1, x2⟩, ⟨x3, x4⟩, -, -, -⟩ := WK.out
        obtain ⟨Aq, kq, rfl, -⟩ := hq
        obtain ⟨st, wh, due, ren, q⟩ := x
        dsimp only at *
        have WB := Lib.hid (show askedB who ⟨st, wh, due, ren, q⟩ = decide ((st = 2 ∧ wh = who) ∨ 0 ≤ placeI q who) from rfl)
        generalize placeI q who = p at CL WB
        by_cases hs2 : st = 2
        · subst hs2
          by_cases hw : wh = who
          · have hv : askedB who ⟨2, wh, due, ren, q⟩ = true := by rw [WB.out]; simp [hw]
            rw [hw] at p1 x3 x4
            have YS := Lib.hid (WY.out hv)
            have hml := WL.out
            generalize whTo d.cs (askedB who) i = L at OW YS hml ⊢
            clear WY WN
            go_wp2_with (first | (go_at_call 67; refine CL.out.mono ?_; rintro e w5 ⟨rfl, rfl⟩) | (at_builtin; refine wpList_append_own _ rfl (.tmp 51) (.tmp 53) _ rfl w1.heap.size 2 i0 (.int .i64 0) 1 8 Try.underlying39 hi0 hz0 hz1 hz2 rfl (by decide) _ _ _ rfl (OW.out.alloc _) ⟨wr.heap.size, 0, none⟩ 1 1 [.int .i64 (i : Int)] rfl rfl ?c1 ?c2 ?c3 ?c4 ?c5 ?_))
            try (case c1 => first | exact cell_one_new _ _ _ | (simp; done))
            try (case c2 => first | (intro u hu; simp at hu; subst hu; rfl) | rfl | (simp; done))
            case c3 => (unfold maxLen; omega)
            case c4 => omega
            try (case c5 => first | omega | (simp; omega))
            intro v' w4 hown' hgrow' _
            have OW' := Lib.hid hown'
            have g4 := Lib.hid (show Below w1.heap.size w1 w4 from (HB.out.alloc hsz _).grown hgrow' (by simp; omega) (fun k hk => (OW.out.lt k hk).1))
            clear hown' hgrow'
            go_wp2
            go_roundw
            case rel => exact ⟨i + 1, by omega, by go_num, by rw [YS.out]; simpa using OW'.out, g4.out⟩
            case measure => simp [intOf]; omega
          · have hwb : (wh == who) = false := by simpa using hw
            by_cases hp0 : (0 : Int) ≤ p
            · have hv : askedB who ⟨2, wh, due, ren, q⟩ = true := by rw [WB.out]; simp [hp0]
              have YS := Lib.hid (WY.out hv)
              have hml := WL.out
              generalize whTo d.cs (askedB who) i = L at OW YS hml ⊢
              clear WY WN
              go_wp2_with (first | (go_at_call 67; refine CL.out.mono ?_; rintro e w5 ⟨rfl, rfl⟩) | (at_builtin; refine wpList_append_own _ rfl (.tmp 51) (.tmp 53) _ rfl w1.heap.size 2 i0 (.int .i64 0) 1 8 Try.underlying39 hi0 hz0 hz1 hz2 rfl (by decide) _ _ _ rfl (OW.out.alloc _) ⟨wr.heap.size, 0, none⟩ 1 1 [.int .i64 (i : Int)] rfl rfl ?c1 ?c2 ?c3 ?c4 ?c5 ?_))
              try (case c1 => first | exact cell_one_new _ _ _ | (simp; done))
              try (case c2 => first | (intro u hu; simp at hu; subst hu; rfl) | rfl | (simp; done))
              case c3 => (unfold maxLen; omega)
              case c4 => omega
              try (case c5 => first | omega | (simp; omega))
              intro v' w4 hown' hgrow' _
              have OW' := Lib.hid hown'
              have g4 := Lib.hid (show Below w1.heap.size w1 w4 from (HB.out.alloc hsz _).grown hgrow' (by simp; omega) (fun k hk => (OW.out.lt k hk).1))
              clear hown' hgrow'
              go_wp2
              go_roundw
              case rel => exact ⟨i + 1, by omega, by go_num, by rw [YS.out]; simpa using OW'.out, g4.out⟩
              case measure => simp [intOf]; omega
            · have hp1 : p < 0 := by omega
              have NN := Lib.hid (WN.out (by rw [WB.out]; simp [hw, hp0]))
              clear WY WN
              go_wp2_with (go_at_call 67; refine CL.out.mono ?_; rintro e w5 ⟨rfl, rfl⟩)
              go_roundw
              case rel => exact ⟨i + 1, by omega, by go_num, by rw [NN.out]; exact OW.out, HB.out⟩
              case measure => simp [intOf]; omega
        · by_cases hp0 : (0 : Int) ≤ p
          · have hv : askedB who ⟨st, wh, due, ren, q⟩ = true := by rw [WB.out]; simp [hp0]
            have YS := Lib.hid (WY.out hv)
            have hml := WL.out
            generalize whTo d.cs (askedB who) i = L at OW YS hml ⊢
            clear WY WN
            go_wp2_with (first | (go_at_call 67; refine CL.out.mono ?_; rintro e w5 ⟨rfl, rfl⟩) | (at_builtin; refine wpList_append_own _ rfl (.tmp 51) (.tmp 53) _ rfl w1.heap.size 2 i0 (.int .i64 0) 1 8 Try.underlying39 hi0 hz0 hz1 hz2 rfl (by decide) _ _ _ rfl (OW.out.alloc _) ⟨wr.heap.size, 0, none⟩ 1 1 [.int .i64 (i : Int)] rfl rfl ?c1 ?c2 ?c3 ?c4 ?c5 ?_))
            try (case c1 => first | exact cell_one_new _ _ _ | (simp; done))
            try (case c2 => first | (intro u hu; simp at hu; subst hu; rfl) | rfl | (simp; done))
            case c3 => (unfold maxLen; omega)
            case c4 => omega
            try (case c5 => first | omega | (simp; omega))
            intro v' w4 hown' hgrow' _
            have OW' := Lib.hid hown'
            have g4 := Lib.hid (show Below w1.heap.size w1 w4 from (HB.out.alloc hsz _).grown hgrow' (by simp; omega) (fun k hk => (OW.out.lt k hk).1))
            clear hown' hgrow'
            go_wp2
            go_roundw
            case rel => exact ⟨i + 1, by omega, by go_num, by rw [YS.out]; simpa using OW'.out, g4.out⟩
            case measure => simp [intOf]; omega
          · have hp1 : p < 0 := by omega
            have NN := Lib.hid (WN.out (by rw [WB.out]; simp [hs2, hp0]))
            clear WY WN
            go_wp2_with (go_at_call 67; refine CL.out.mono ?_; rintro e w5 ⟨rfl, rfl⟩)
            go_roundw
            case rel => exact ⟨i + 1, by omega, by go_num, by rw [NN.out]; exact OW.out, HB.out⟩
            case measure => simp [intOf]; omega
      · obtain rfl : i = d.cs.length := by omega
        go_wp2
        go_ret2
        exact ⟨_, rfl, ownMono OW.out G1.out.size, bnext G1.out HB.out⟩

set_option maxHeartbeats 4000000 in
theorem closAskedBy_any (x : Cp) (who : Int) (A4 : Option Addr) (c4 : Nat) (u : Value) (hu : u = .slice A4 x.q.length c4) (B : Nat) (w : World) (hc : w.cell? ⟨B, 0, none⟩ = some (.int .i64 who)) (hB : B < w.heap.size) (hq : IntsOf .i64 w u x.q) (hm : x.q.length ≤ maxLen) :
    Calls Try.prog 68 #[.agg #[.int .i64 x.st, .int .i64 x.who, .int .i64 x.due, .int .i64 x.ren, u], .pointer (some ⟨B, 0, none⟩)] w fun e w' => e = .returned (.bool (askedB who x)) ∧ Below w.heap.size w w' := by
  subst hu
  have A0 := Lib.hid (show Below w.heap.size w (w.alloc (.cells #[.int .i64 x.st, .int .i64 x.who, .int .i64 x.due, .int .i64 x.ren, .slice A4 x.q.length c4] 84)) from (Below.refl _ _).alloc (Nat.le_refl _) _)
  have hc' := (A0.out.cell (p := ⟨B, 0, none⟩) hB).trans hc
  have A1 := Lib.hid (show w.heap.size < (w.alloc (.cells #[.int .i64 x.st, .int .i64 x.who, .int .i64 x.due, .int .i64 x.ren, .slice A4 x.q.length c4] 84)).heap.size by simp)
  have X0 := Lib.hid (heap_alloc_new w (.cells #[.int .i64 x.st, .int .i64 x.who, .int .i64 x.due, .int .i64 x.ren, .slice A4 x.q.length c4] 84))
  have WA := Lib.hid (fun W (h : Below w.heap.size w W) => waits_any x (.slice A4 x.q.length c4) who W (hq.below h) hm)
  have E := Lib.hid (show askedB who x = (decide (0 ≤ placeI x.q who) || heldFor who x) by unfold askedB heldFor; rw [Bool.eq_iff_iff]; simp; exact Or.comm)
  have HF := Lib.hid (fun W => heldFor_any x who W)
  generalize heldFor who x = h at E HF
  by_cases hp : (0 : Int) ≤ placeI x.q who
  · have hd : decide ((0 : Int) ≤ placeI x.q who) = true := decide_eq_true hp
    rw [hd] at WA E
    go_enter Try.func68, Try.ntmps68
    go_wp2_with fail
    refine (WA.out _ A0.out).mono ?_
    rintro e w1 ⟨rfl, k1⟩
    have G1 := Lib.hid (bnext A0.out k1)
    clear k1 hc'
    go_wp2
    go_ret
    exact ⟨by rw [E.out]; first | rfl | simp, G1.out⟩
  · have hd : decide ((0 : Int) ≤ placeI x.q who) = false := decide_eq_false hp
    rw [hd] at WA E
    go_enter Try.func68, Try.ntmps68
    go_wp2_with fail
    generalize World.alloc w _ = W at A0 A1 X0 hc' ⊢
    refine (WA.out _ A0.out).mono ?_
    rintro e w1 ⟨rfl, k1⟩
    have G1 := Lib.hid (bnext A0.out k1)
    have X1 := (k1.block w.heap.size A1.out).trans X0.out
    have z0 : w1.cell? ⟨w.heap.size, 0, none⟩ = some (.int .i64 x.st) := cell_of_row w1 _ 0 _ _ _ X1
    have z1 : w1.cell? ⟨w.heap.size, 1, none⟩ = some (.int .i64 x.who) := cell_of_row w1 _ 1 _ _ _ X1
    have z2 : w1.cell? ⟨w.heap.size, 2, none⟩ = some (.int .i64 x.due) := cell_of_row w1 _ 2 _ _ _ X1
    have z3 : w1.cell? ⟨w.heap.size, 3, none⟩ = some (.int .i64 x.ren) := cell_of_row w1 _ 3 _ _ _ X1
    have hc1 := (k1.cell (p := ⟨B, 0, none⟩) (Nat.lt_of_lt_of_le hB A0.out.size)).trans hc'
    clear X1 k1 hc'
    go_wp2_with fail
    refine (HF.out _).mono ?_
    rintro e w2 ⟨rfl, k2⟩
    have G2 := Lib.hid (bnext G1.out k2)
    clear k2 z0 z1 z2 z3 hc1
    go_wp2
    go_ret
    exact ⟨by rw [E.out]; first | rfl | simp, G2.out⟩

set_option maxHeartbeats 8000000 in
theorem whereAskedBy_any (xs : List Cp) (wfx : ∀ c ∈ xs, c.Wf) (qmx : ∀ c ∈ xs, c.q.length ≤ maxLen) (day0 : Int) (who : Int) (v : Value) (base : Nat) (B : Nat) (w : World) (hit : ItsOf w base v xs) (h60 : xs.length ≤ 60) (hc : w.cell? ⟨B, 0, none⟩ = some (.int .i64 who)) (hB : B < w.heap.size) :
    Calls Try.prog 64 #[.agg #[.int .i64 day0, v, .int .i64 0], .func (.func 68) #[] #[.pointer (some ⟨B, 0, none⟩)]] w fun e w' => ∃ u, e = .returned u ∧ w'.ownsRow w.heap.size 2 1 u (wh xs (askedB who)).length ((wh xs (askedB who)).map (Value.int .i64)) ∧ Below w.heap.size w w' := by
  have IT := Lib.hid hit
  obtain ⟨A, c, rfl⟩ := hit.form
  have WX := Lib.hid wfx
  have QX := Lib.hid qmx
  obtain ⟨i0, hi0, hz0, hz1, hz2⟩ := info_parts infoI64d
  have H0 := Lib.hid (show (w.alloc (.cells #[.int .i64 day0, .slice A xs.length c, .int .i64 0] 77)).ownsRow w.heap.size 2 1 (.slice none 0 0) (whTo xs (askedB who) 0).length ((whTo xs (askedB who) 0).map (Value.int .i64)) from nilOwn _ _)
  have G0 := Lib.hid (show Below w.heap.size w (w.alloc (.cells #[.int .i64 day0, .slice A xs.length c, .int .i64 0] 77)) from (Below.refl _ _).alloc (Nat.le_refl _) _)
  clear hit wfx qmx
  go_enter Try.func64, Try.ntmps64
  go_wp2
  generalize World.alloc w _ = W at H0 G0 ⊢
  go_loopw [5, 11] (fun v_ i_ wr => ∃ i : Nat, i ≤ xs.length ∧ i_ = .int .i64 (i : Int) ∧ wr.ownsRow w.heap.size 2 1 v_ (whTo xs (askedB who) i).length ((whTo xs (askedB who) i).map (Value.int .i64)) ∧ Below w.heap.size w wr) (fun _ i_ _ => xs.length - (intOf i_).toNat)
  case atStart => exact ⟨0, Nat.zero_le _, rfl, H0.out, G0.out⟩
  case round =>
    obtain ⟨i, hi, rfl, hown, hb⟩ := hrel
    have OW := Lib.hid hown
    obtain ⟨A3, c3, rfl⟩ := vlen_own1 hown
    have WL := Lib.hid (whTo_len xs (askedB who) i)
    have HB := Lib.hid hb
    have hsz := hb.size
    clear hown hb
    by_cases hlt : i < xs.length
    · obtain ⟨ga, rfl, -, hga, p0, p1, p2, p3, u, p4, hq⟩ := (IT.out.below HB.out).at_ hlt
      have HQ := Lib.hid hq.ints
      obtain ⟨A4, c4, rfl⟩ := hq.form
      have WK := Lib.hid (WX.out _ (List.getElem_mem hlt))
      have QM := Lib.hid (QX.out _ (List.getElem_mem hlt))
      have WY := Lib.hid (fun h => whTo_yes (p := askedB who) hlt h)
      have WN := Lib.hid (fun h => whTo_no (p := askedB who) hlt h)
      clear hq
      obtain ⟨x, hx⟩ : ∃ x, x = xs[i] := ⟨_, rfl⟩
      rw [← hx] at p0 p1 p2 p3 p4 HQ WK QM WY WN
      clear hx
      have A5 := Lib.hid (show Below wr.heap.size wr (wr.alloc (.cells #[.int .i64 x.st, .int .i64 x.who, .int .i64 x.due, .int .i64 x.ren, .slice A4 x.q.length c4] 84)) from (Below.refl _ _).alloc (Nat.le_refl _) _)
      go_wp2_with fail
      generalize World.alloc wr _ = W5 at A5 ⊢
      refine (closAskedBy_any x who A4 c4 _ rfl B W5 ((bnext HB.out A5.out).cell (p := ⟨B, 0, none⟩) hB |>.trans hc) (Nat.lt_of_lt_of_le hB (bnext HB.out A5.out).size) (HQ.out.below A5.out) QM.out).mono ?_
      rintro e w6 ⟨rfl, k6⟩
      have B6 := Lib.hid (bnext HB.out (bnext A5.out k6))
      have O6 := Lib.hid (ownBelow OW.out (bnext A5.out k6))
      have z6 := B6.out.size
      clear k6 p0 p1 p2 p3 p4
      generalize hr : askedB who x = r at WY WN ⊢
      clear hr
      cases r
      · have NN := Lib.hid (WN.out rfl)
        clear WY WN
        go_wp2
        go_roundw
        case rel => exact ⟨i + 1, by omega, by go_num, by rw [NN.out]; exact O6.out, B6.out⟩
        case measure => simp [intOf]; omega
      · have YS := Lib.hid (WY.out rfl)
        have hml := WL.out
        clear WY WN
        generalize whTo xs (askedB who) i = L at O6 YS hml ⊢
        go_wp2_with (at_builtin; refine wpList_append_own _ rfl (.tmp 19) (.tmp 21) _ rfl w.heap.size 2 i0 (.int .i64 0) 1 8 Try.underlying39 hi0 hz0 hz1 hz2 rfl (by decide) _ _ _ rfl (O6.out.alloc _) ⟨w6.heap.size, 0, none⟩ 1 1 [.int .i64 (i : Int)] rfl rfl ?c1 ?c2 ?c3 ?c4 ?c5 ?_)
        case c1 => exact cell_one_new _ _ _
        case c2 => (intro u hu; simp at hu; subst hu; rfl)
        case c3 => (unfold maxLen; omega)
        case c4 => omega
        case c5 => (simp; omega)
        intro v' w4 hown' hgrow' _
        have OW' := Lib.hid hown'
        have g4 : Below w.heap.size w w4 := (B6.out.alloc z6 _).grown hgrow' (by simp; omega) (fun k hk => (O6.out.lt k hk).1)
        clear hown' hgrow'
        go_wp2
        go_roundw
        case rel => exact ⟨i + 1, by omega, by go_num, by rw [YS.out]; simpa using OW'.out, g4⟩
        case measure => simp [intOf]; omega
    · obtain rfl : i = xs.length := by omega
      go_wp2
      go_ret
      exact ⟨_, rfl, OW.out, HB.out⟩

set_option maxHeartbeats 8000000 in
theorem implAskedBy_any (d : Dk) (wf : d.Wf ∧ ∀ c ∈ d.cs, c.q.length ≤ maxLen) (who : Int) (g : Nat) (w : World) (hs : CRowK w g g d.cs d.cs.length d.cs.length) (hn : d.cs.length ≤ maxLen) :
    Calls Try.prog 32 #[.agg #[.int .i16 d.day, .slice (some ⟨g, 0, none⟩) d.cs.length d.cs.length], .int .i64 who] w fun e w' => ∃ v, e = .returned (.tuple #[v, .int .i64 (cnC d who)]) ∧ w'.ownsRow w.heap.size 2 1 v (wh (cnCs d who) (askedB who)).length ((wh (cnCs d who) (askedB who)).map (Value.int .i64)) ∧ Below w.heap.size w w' := by
  have CO := Lib.hid (fun W (h : Below w.heap.size w W) => counterOf_any d wf who g W (hs.below h) hn)
  have XW := Lib.hid (show (∀ c ∈ cnCs d who, c.Wf) ∧ (∀ c ∈ cnCs d who, c.q.length ≤ maxLen) ∧ (cnCs d who).length ≤ 60 ∧ (cnCs d who = [] ∨ cnDay d who = d.day) by
    rcases cn_cases d who with ⟨_, _, _, h⟩ | ⟨_, _, _, _, h⟩ | ⟨h1, _, _, hd, h⟩
    · rw [h]; simp
    · rw [h]; simp
    · rw [h]; exact ⟨wf.1.cs, wf.2, dk_60 h1, .inr hd⟩)
  have DI := Lib.hid (show -32768 ≤ cnDay d who ∧ cnDay d who ≤ 32767 by
    unfold cnDay
    split
    · exact wf.1.day
    · omega)
  obtain ⟨y1, y2⟩ := wf.1.day
  clear wf hs
  generalize cnC d who = k at *
  generalize cnDay d who = dy at *
  generalize cnCs d who = xs at *

  go_enter Try.func32, Try.ntmps32
  go_wp2_with fail
  generalize hW : World.alloc (World.alloc w _) _ = W2
  have D1 := Lib.hid (show W2.heap[w.heap.size + 1]? = some (.cells #[.int .i64 who] 2 (0, 0)) by rw [← hW]; exact (alloc2 w _ _).2)
  have G0 := Lib.hid (show Below w.heap.size w W2 by rw [← hW]; exact ((Below.refl _ _).alloc (Nat.le_refl _) _).alloc (by simp) _)
  have Z0 := Lib.hid (show w.heap.size + 1 < W2.heap.size by rw [← hW]; simp)
  clear hW

  refine (CO.out _ G0.out).mono ?_
  rintro e w1 ⟨v, rfl, hit, k1⟩
  obtain ⟨A3, c3, rfl⟩ := hit.form
  have HIT := Lib.hid hit
  have G1 := Lib.hid (bnext G0.out k1)
  have R1 := Lib.hid ((k1.block (w.heap.size + 1) Z0.out).trans D1.out)
  have Z1 := Lib.hid (Nat.lt_of_lt_of_le Z0.out k1.size)
  have z1 := Z1.out
  have AX := Lib.hid (show Below w1.heap.size w1 (w1.alloc (.cells #[.int .i64 dy, .slice A3 xs.length c3, .int .i64 0] 77)) from (Below.refl _ _).alloc (Nat.le_refl _) _)
  have X1 := Lib.hid (heap_alloc_new w1 (.cells #[.int .i64 dy, .slice A3 xs.length c3, .int .i64 0] 77))
  have S1 := Lib.hid (show w1.heap.size < (w1.alloc (.cells #[.int .i64 dy, .slice A3 xs.length c3, .int .i64 0] 77)).heap.size by simp)
  clear hit k1
  go_wp2_with fail
  generalize World.alloc w1 _ = W4 at AX X1 S1 ⊢
  refine (whereAskedBy_any xs XW.out.1 XW.out.2.1 dy who _ _ (w.heap.size + 1) _ (HIT.out.below AX.out) XW.out.2.2.1 ((AX.out.cell (p := ⟨w.heap.size + 1, 0, none⟩) Z1.out).trans (cell_of_row w1 _ 0 _ _ _ R1.out)) (Nat.lt_of_lt_of_le Z1.out AX.out.size)).mono ?_
  rintro e w5 ⟨u, rfl, ho, k5⟩
  have HO := Lib.hid ho
  obtain ⟨A6, c6, rfl⟩ := vlen_own1 ho
  have G5 := Lib.hid (bnext (bnext G1.out AX.out) k5)
  clear ho k5
  go_wp2
  go_ret2
  exact ⟨_, rfl, ownMono HO.out (by have := (bnext G1.out AX.out).size; omega), G5.out⟩
end Go.Proofs.Ytmafjncaigllbaa
