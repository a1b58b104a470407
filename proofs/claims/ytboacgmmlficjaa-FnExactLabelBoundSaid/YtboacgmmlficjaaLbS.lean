/- The bound of labels, by the model: a contract. Condition: lists no longer than can be, whose numbers lie within their kinds. -/
import Derived.Test.YtboacgmmlficjaaLbP
import Derived.Test.YtboacgmmlficjaaHas
import Derived.Test.YtboacgmmlficjaaFields
import Derived.Test.YtboacgmmlficjaaQuiet
import Derived.Deep.RegionWith
import Derived.StillTailTactics
import Derived.BigQuiet
namespace Go.Proofs.Ytboacgmmlficjaa
set_option linter.unusedSimpArgs false
set_option linter.unusedVariables false
set_option maxRecDepth 100000
open Go.RowKit

theorem elemInts' : Try.prog.underlying 23 = some (.slice (Try.prog.elem 23)) := by kernel_rfl
theorem sizeInts' (w : World) : (sizeOf (Try.prog.elem 23)).run Try.prog w = .ok 1 w := by kernel_rfl
theorem run_hiI (A : Option Addr) (n c k : Nat) (hk : k ≤ c) (w : World) :
    (Instr.slice 23 (.slice A n c) none (some (.int .i64 (k : Int))) none).run Try.prog w = .ok (.slice A k c) w := by
  rw [run_slice_h w _ _ _ _ elemInts' _ _ (by omega) (by omega), sizeInts']
  cases A <;> simp [Result.andThen, sliced, Addr.add]
theorem IntsOf.at_some {k : IntKind} {w : World} {b o c : Nat} {zs : List Int} (h : IntsOf k w (.slice (some ⟨b, o, none⟩) zs.length c) zs) (h0 : 0 < zs.length) : b < w.heap.size ∧ IntsAt k w b o zs := by
  obtain ⟨A, c', e, h⟩ := h
  obtain ⟨g, o', r, hg, hat⟩ := h h0
  cases e
  cases r
  exact ⟨hg, hat⟩
theorem IntsOf.hi {k : IntKind} {w : World} {b o c : Nat} {zs : List Int} (h : IntsOf k w (.slice (some ⟨b, o, none⟩) zs.length c) zs) {i : Nat} (hi : i ≤ zs.length) : IntsOf k w (.slice (some ⟨b, o, none⟩) i c) (zs.take i) := by
  have hl : (zs.take i).length = i := by rw [List.length_take]; omega
  refine ⟨some ⟨b, o, none⟩, c, by rw [hl], fun h0 => ?_⟩
  obtain ⟨hg, hat⟩ := h.at_some (by omega)
  refine ⟨b, o, rfl, hg, fun j hj => ?_⟩
  rw [List.getElem_take]
  exact hat j (by omega)
theorem getD_int {zs : List Int} {i : Nat} (h : i < zs.length) : zs.getD i 0 = zs[i] := by simp [List.getD, List.getElem?_eq_getElem h]

set_option maxHeartbeats 8000000 in
theorem specLabelBound_any (v0 : Value) (b1 o1 c1 : Nat) (xs : List Bk) (ls : List Int) (wf : ∀ b ∈ xs, b.Wf) (w : World) (hs : SliceOf w v0 xs) (hz : IntsOf .i64 w (.slice (some ⟨b1, o1, none⟩) ls.length c1) ls) (hc1 : ls.length ≤ c1) (hm : xs.length ≤ maxLen) (hml : ls.length ≤ maxLen) :
    Calls Try.prog 5 #[v0, .slice (some ⟨b1, o1, none⟩) ls.length c1] w fun e w' => e = .returned (.tuple #[.int .i64 (lbV xs ls), .int .i64 (lbC xs ls)]) ∧ Below w.heap.size w w' := by
  have LO := Lib.hid (fun W (h : SliceOf W v0 xs) => l01Ok_any v0 xs wf W h hm)
  have LH := Lib.hid (fun W i (hi : i ≤ ls.length) n (h : IntsOf .i64 W (.slice (some ⟨b1, o1, none⟩) ls.length c1) ls) => l00Has_any (.slice (some ⟨b1, o1, none⟩) i c1) (ls.take i) n W (h.hi hi) (by rw [List.length_take]; omega))
  have SL := Lib.hid hs
  have SZ := Lib.hid hz
  have WF := Lib.hid wf
  obtain ⟨A, c, rfl, hat⟩ := hs
  have HS := Lib.hid hat
  unfold maxLen at hml
  clear hat hz wf
  cases hok : okB xs
  · obtain ⟨e1, e2⟩ := lb_invalid (ls := ls) hok
    rw [e1, e2]
    rw [hok] at LO
    go_enter Try.func5, Try.ntmps5
    go_wp2_with fail
    refine (LO.out _ SL.out).mono ?_
    rintro e w1 ⟨rfl, h1⟩
    go_wp2
    go_ret2
    exact ⟨rfl, h1⟩
  · have h60 : xs.length ≤ 60 := by have h := hok; unfold okB at h; simp at h; exact h.2
    have OK := Lib.hid hok
    rw [hok] at LO
    clear hok
    by_cases hl : ls.length = xs.length
    · have HL := Lib.hid hl
      go_enter Try.func5, Try.ntmps5
      go_wp2_with fail
      refine (LO.out _ SL.out).mono ?_
      rintro e w1 ⟨rfl, h1⟩
      have B1 := Lib.hid h1
      clear h1
      go_wp2
      go_loopw [6, 7] (fun n_ i_ wr => ∃ (i n : Nat), i ≤ xs.length ∧ i_ = .int .i64 (i : Int) ∧ n_ = .int .i64 (n : Int) ∧ n + dnT ls i = xs.length ∧ NoBad xs ls i ∧ Below w.heap.size w wr) (fun _ i_ _ => xs.length - (intOf i_).toNat)
      case atStart => exact ⟨0, xs.length, Nat.zero_le _, rfl, rfl, rfl, fun j hj => absurd hj (Nat.not_lt_zero _), B1.out⟩
      case round =>
        obtain ⟨i, n, hi, rfl, rfl, hn, hno, hb⟩ := hrel
        have HN := Lib.hid hno
        have HB := Lib.hid hb
        have HD := Lib.hid hn
        have nle : n ≤ xs.length := by omega
        clear hno hb hn
        by_cases hlt : i < xs.length
        · have hli : i < ls.length := by omega
          obtain ⟨hg1, hat1⟩ := IntsOf.at_some SZ.out (by omega)
          have HA1 := Lib.hid hat1
          have p0 := hat1.below HB.out hg1 i hli
          have s1 := fun W => run_hiI (some ⟨b1, o1, none⟩) ls.length c1 i (by omega) W
          have GI := Lib.hid (getD_int hli)
          have DN := Lib.hid (show dnT ls (i + 1) = dnT ls i + (if memB (ls.take i) ls[i] then 0 else 1) by rw [dnT, getD_int hli]; unfold memB; by_cases q : ls[i] ∈ ls.take i <;> simp [q])
          obtain ⟨ga, oa, rfl, hga, hat⟩ := HS.out (by omega)
          have HAT := Lib.hid hat
          have DL := Lib.hid (dn_le ls (i + 1))
          clear hat hat1
          obtain ⟨wo, rfl⟩ : ∃ wo : World, wo = wr := ⟨_, rfl⟩
          have LI := Lib.hid (fun (p : BelowBy wo) => LH.out p.W i (by omega) ls[i] ((SZ.out.below HB.out).below p.h))
          generalize hzi : ls[i] = zi at *
          have HZI := Lib.hid hzi
          clear hzi
          cases hin : memB (ls.take i) zi
          all_goals
            rw [hin] at LI DN
            clear hin
            have hgw : b1 < wo.heap.size := Nat.lt_of_lt_of_le hg1 HB.out.size
            have pq : ∀ p : BelowBy wo, p.W.cell? ⟨b1, o1 + i, none⟩ = some (.int .i64 zi) := fun p => belowBy_cell hgw p0 p
            go_wp2
            refine wp_region_below (by kernel_rfl) (by kernel_rfl) ?_
            repeat (first | go_big_quiet_step ((go_at_call 12; exact calls_below (LI.out _))) | quiet_step ((go_at_call 12; exact calls_below (LI.out _))))
            refine wpQuiet_nil ?_
            rintro wq ⟨⟨_, hq⟩, rfl⟩
            have B2 := Lib.hid (HB.out.trans (hq.mono HB.out.size))
            clear hq p0 hgw pq
            have DN2 := DN.out
            have HD2 := HD.out
            have DL2 := DL.out
            first
              | (have DN3 : dnT ls (i + 1) = dnT ls i + 1 := DN2
                 have NX : ∃ m : Nat, m + 1 = n ∧ m + dnT ls (i + 1) = xs.length := ⟨n - 1, by omega, by omega⟩
                 obtain ⟨m, hmn, hm1⟩ := NX)
              | (have DN3 : dnT ls (i + 1) = dnT ls i + 0 := DN2
                 have NX : ∃ m : Nat, m = n ∧ m + dnT ls (i + 1) = xs.length := ⟨n, rfl, by omega⟩
                 obtain ⟨m, hmn, hm1⟩ := NX)
            clear DN2 HD2 DL2 DN3
            have HM := Lib.hid hm1
            clear hm1
            go_wp2
            go_loopw [8] (fun k_ wr => ∃ (k : Nat), k ≤ i ∧ k_ = .int .i64 (k : Int) ∧ badTo xs ls i k = false ∧ Below w.heap.size w wr) (fun k_ _ => i - (intOf k_).toNat)
            case atStart => exact ⟨0, Nat.zero_le _, rfl, badTo_zero _ _ _, B2.out⟩
            case round =>
              obtain ⟨k, hk, rfl, hbad, hb⟩ := hrel
              have HK := Lib.hid hbad
              have HB3 := Lib.hid hb
              clear hbad hb
              by_cases hlt2 : k < i
              · have hkl : k < ls.length := by omega
                have hkx : k < xs.length := by omega
                have q0 := HA1.out.below HB3.out hg1 i hli
                have q1 := HA1.out.below HB3.out hg1 k hkl
                rw [HZI.out] at q0
                have BS := Lib.hid (badTo_succ xs ls i k)
                have GK := Lib.hid (getD_int hkl)
                have zg := Nat.lt_of_lt_of_le hga HB3.out.size
                have A1 := Lib.hid ((HAT.out.below HB3.out hga).at_ zg hlt)
                have A0 := Lib.hid ((HAT.out.below HB3.out hga).at_ zg hkx)
                have GX := Lib.hid (getD_nth hlt)
                have GY := Lib.hid (getD_nth hkx)
                have WX := Lib.hid (WF.out _ (List.getElem_mem hlt))
                have WY := Lib.hid (WF.out _ (List.getElem_mem hkx))
                generalize xs[i] = xi at *
                generalize xs[k] = xk at *
                generalize ls[k] = zk at *
                have hgx : b1 < wr.heap.size := Nat.lt_of_lt_of_le hg1 HB3.out.size
                have pq0 : ∀ p : BelowBy wr, p.W.cell? ⟨b1, o1 + i, none⟩ = some (.int .i64 zi) := fun p => belowBy_cell hgx q0 p
                have pq1 : ∀ p : BelowBy wr, p.W.cell? ⟨b1, o1 + k, none⟩ = some (.int .i64 zk) := fun p => belowBy_cell hgx q1 p
                have LU := Lib.hid (fun W (h1 : BkAt W ga (oa + i * 8) xi) (h2 : BkAt W ga (oa + k * 8) xk) => l01Usual_any xi xk WX.out WY.out _ _ _ _ W h1 h2)
                by_cases he : zk = zi
                · subst he
                  have BS2 := Lib.hid (show badTo xs ls i (k + 1) = decide (0 ≤ usual xi xk) by rw [BS.out, HK.out, GK.out, GI.out, GX.out, GY.out, decide_eq_true rfl]; simp)
                  by_cases hu : 0 ≤ usual xi xk
                  · rw [decide_eq_true hu] at BS2
                    obtain ⟨e1, e2⟩ := lb_proof OK.out HL.out (any_yes hlt (badTo_mono BS2.out (by omega)))
                    have E := Lib.hid (And.intro e1 e2)
                    clear e1 e2
                    generalize usual xi xk = r at *
                    go_wp2
                    refine wp_region_below (by kernel_rfl) (by kernel_rfl) ?_
                    repeat (first | go_big_quiet_step ((go_at_call 13; exact calls_below (LU.out _ (A1.out.next (BelowBy.h _)) (A0.out.next (BelowBy.h _))))) | quiet_step ((go_at_call 13; exact calls_below (LU.out _ (A1.out.next (BelowBy.h _)) (A0.out.next (BelowBy.h _))))))
                    refine wpQuiet_nil ?_
                    rintro wq ⟨⟨_, hq⟩, rfl⟩
                    have B7 := Lib.hid (HB3.out.trans (hq.mono HB3.out.size))
                    clear hq q0 q1 pq0 pq1
                    all_goals
                      go_wp2
                      go_ret2
                      exact ⟨by rw [E.out.1, E.out.2]; rfl, B7.out⟩
                  · rw [decide_eq_false hu] at BS2
                    generalize usual xi xk = r at *
                    go_wp2
                    refine wp_region_below (by kernel_rfl) (by kernel_rfl) ?_
                    repeat (first | go_big_quiet_step ((go_at_call 13; exact calls_below (LU.out _ (A1.out.next (BelowBy.h _)) (A0.out.next (BelowBy.h _))))) | quiet_step ((go_at_call 13; exact calls_below (LU.out _ (A1.out.next (BelowBy.h _)) (A0.out.next (BelowBy.h _))))))
                    refine wpQuiet_nil ?_
                    rintro wq ⟨⟨_, hq⟩, rfl⟩
                    have B7 := Lib.hid (HB3.out.trans (hq.mono HB3.out.size))
                    clear hq q0 q1 pq0 pq1
                    all_goals
                      go_wp2
                      go_roundw
                      case rel => exact ⟨k + 1, by omega, by go_num, BS2.out, B7.out⟩
                      case measure => simp [intOf]; omega
                · have BS2 := Lib.hid (show badTo xs ls i (k + 1) = false by rw [BS.out, HK.out, GK.out, GI.out, decide_eq_false he]; rfl)
                  have he2 : (zk == zi) = false := by simpa using he
                  go_wp2
                  refine wp_region_below (by kernel_rfl) (by kernel_rfl) ?_
                  repeat (first | go_big_quiet_step (fail) | quiet_step (fail))
                  refine wpQuiet_nil ?_
                  rintro wq ⟨⟨_, hq⟩, rfl⟩
                  have B7 := Lib.hid (HB3.out.trans (hq.mono HB3.out.size))
                  clear hq q0 q1 pq0 pq1
                  all_goals
                    go_wp2
                    go_roundw
                    case rel => exact ⟨k + 1, by omega, by go_num, BS2.out, B7.out⟩
                    case measure => simp [intOf]; omega
              · obtain rfl : k = i := by omega
                have HN2 := Lib.hid (noBad_succ HN.out HK.out)
                go_wp2
                go_roundw
                case rel => exact ⟨k + 1, m, by omega, by go_num, by go_num, HM.out, HN2.out, HB3.out⟩
                case measure => simp [intOf]; omega
        · obtain rfl : i = xs.length := by omega
          obtain ⟨e1, e2⟩ := lb_good OK.out HL.out (any_no HN.out)
          have E := Lib.hid (show lbC xs ls = 0 ∧ lbV xs ls = (n : Int) from ⟨e1, by rw [e2]; have := HD.out; omega⟩)
          clear e1 e2
          go_wp2
          go_ret2
          exact ⟨by rw [E.out.1, E.out.2]; rfl, HB.out⟩
    · obtain ⟨e1, e2⟩ := lb_range OK.out hl
      rw [e1, e2]
      have hl2 : ¬ (ls.length : Int) = (xs.length : Int) := by omega
      have hl3 : ((ls.length : Int) != (xs.length : Int)) = true := by simpa using hl2
      go_enter Try.func5, Try.ntmps5
      go_wp2_with fail
      refine (LO.out _ SL.out).mono ?_
      rintro e w1 ⟨rfl, h1⟩
      go_wp2
      go_ret2
      exact ⟨rfl, h1⟩
end Go.Proofs.Ytboacgmmlficjaa
