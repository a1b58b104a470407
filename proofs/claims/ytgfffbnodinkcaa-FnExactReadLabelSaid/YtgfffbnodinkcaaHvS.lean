/- The heaviest books that stand next to each other on a width, by the model: a contract. Condition: no longer than a slice can be; numbers within their kinds. -/
import Derived.Test.YtgfffbnodinkcaaHv
namespace Go.Proofs.Ytgfffbnodinkcaa
set_option linter.unusedSimpArgs false
set_option linter.unusedVariables false
set_option maxRecDepth 100000
open Go.RowKit

theorem results_tmp4 {fn : Func} {t u v x : Tmp} (h : fn.results = #[.tmp t, .tmp u, .tmp v, .tmp x]) (tmps : Array Value) (P : Program) (w : World) :
    (results fn tmps).run P w = .ok (.tuple #[tmps.getD t undef, tmps.getD u undef, tmps.getD v undef, tmps.getD x undef]) w := by
  simp [results, h]

set_option maxHeartbeats 8000000 in
theorem specHeaviest_any (v0 : Value) (xs : List Bk) (wf : ∀ b ∈ xs, b.Wf) (wide : Int) (w : World) (hs : SliceOf w v0 xs) (hm : xs.length ≤ maxLen) :
    Calls Try.prog 20 #[v0, .int .i64 wide] w fun e w' => e = .returned (.tuple #[.int .i64 (hvV xs wide).f, .int .i64 (hvV xs wide).c, .int .i64 (hvV xs wide).m, .int .i64 (hvC xs wide)]) ∧ Below w.heap.size w w' := by
  have LO := Lib.hid (fun W (h : SliceOf W v0 xs) => l01Ok_any v0 xs wf W h hm)
  have LI := Lib.hid (fun W => l00In_any wide 1 6000 W)
  have SL := Lib.hid hs
  have WF := Lib.hid wf
  have HC := Lib.hid (hv_cases xs wide)
  obtain ⟨A, c, rfl, hs⟩ := hs
  have HS := Lib.hid hs
  clear hs wf
  by_cases hok : okB xs = true
  · have h60 : xs.length ≤ 60 := by unfold okB at hok; simp at hok; exact hok.2
    cases hin : inB wide 1 6000
    · have E : hvC xs wide = 2 ∧ hvV xs wide = ⟨0, 0, 0⟩ := by
        rcases HC.out with ⟨h1, _⟩ | ⟨_, _, h2, h3⟩ | ⟨_, h1, _⟩ | ⟨_, h1, _⟩
        · rw [hok] at h1; cases h1
        · exact ⟨h2, h3⟩
        · rw [hin] at h1; cases h1
        · rw [hin] at h1; cases h1
      obtain ⟨E1, E2⟩ := E
      rw [hok] at LO
      rw [hin] at LI
      rw [E1, E2]
      clear hok hin E1 E2 HC
      go_enter Try.func20, Try.ntmps20
      go_wp2_with fail
      refine (LO.out _ SL.out).mono ?_
      rintro e w1 ⟨rfl, h1⟩
      go_wp2_with fail
      refine (LI.out _).mono ?_
      rintro e w' ⟨rfl, rfl⟩
      go_wp2
      (try simp only [Exit.inBlock, Exit.then]); refine bodyPost_ret (results_tmp4 rfl _ _ _) rfl ?_
      exact ⟨rfl, h1⟩
    · have hw : 1 ≤ wide ∧ wide ≤ 6000 := by simpa [inB] using hin
      have H0 := Lib.hid (show hvOut wide (xs.drop 0) 0 ⟨0, 0, 0⟩ = hvAll xs wide from rfl)
      have E : ((hvAll xs wide).c = 0 ∧ hvC xs wide = 6 ∧ hvV xs wide = ⟨0, 0, 0⟩) ∨ ((hvAll xs wide).c ≠ 0 ∧ hvC xs wide = 0 ∧ hvV xs wide = hvAll xs wide) := by
        rcases HC.out with ⟨h1, _⟩ | ⟨_, h1, _⟩ | ⟨_, _, h2⟩ | ⟨_, _, h2⟩
        · rw [hok] at h1; cases h1
        · rw [hin] at h1; cases h1
        · exact .inl h2
        · exact .inr h2
      have EE := Lib.hid E
      rw [hok] at LO
      rw [hin] at LI
      obtain ⟨hw1, hw2⟩ := hw
      clear hok hin E HC
      go_enter Try.func20, Try.ntmps20
      go_wp2_with fail
      refine (LO.out _ SL.out).mono ?_
      rintro e w1 ⟨rfl, h1⟩
      have B1 := Lib.hid h1
      clear h1
      go_wp2_with fail
      refine (LI.out _).mono ?_
      rintro e w' ⟨rfl, rfl⟩
      go_wp2
      go_loopw [8, 9, 10, 11] (fun f_ c_ m_ i_ wr => ∃ (i : Nat) (s : Hv), i ≤ xs.length ∧ i_ = .int .i64 (i : Int) ∧ f_ = .int .i64 s.f ∧ c_ = .int .i64 s.c ∧ m_ = .int .i64 s.m ∧ s.Ok ∧ hvOut wide (xs.drop i) i s = hvAll xs wide ∧ Below w.heap.size w wr) (fun _ _ _ i_ _ => xs.length - (intOf i_).toNat)
      case atStart => exact ⟨0, ⟨0, 0, 0⟩, Nat.zero_le _, rfl, rfl, rfl, rfl, ⟨by simp, by simp, by simp⟩, H0.out, B1.out⟩
      case round =>
        obtain ⟨i, s, hi, rfl, rfl, rfl, rfl, hsok, hrest, hb⟩ := hrel
        have HR := Lib.hid hrest
        have HB := Lib.hid hb
        clear hrest hb
        by_cases hlt : i < xs.length
        · obtain ⟨ga, oa, rfl, hga, hat⟩ := HS.out (by omega)
          have HAT := Lib.hid hat
          have SO := Lib.hid hsok
          have OS := Lib.hid (hvOut_step (wide := wide) (s := s) hlt)
          clear hat hsok
          obtain ⟨wo, rfl⟩ : ∃ wo : World, wo = wr := ⟨_, rfl⟩
          go_wp2
          go_loopw [8, 9, 10, 12, 13, 14] (fun f_ c_ m_ r_ e_ k_ wr => ∃ (k n : Nat) (r wd we : Int) (t : Hv), k ≤ xs.length ∧ k = i + n ∧ k_ = .int .i64 (k : Int) ∧ r_ = .int .i64 r ∧ r = wide - wd ∧ e_ = .int .i64 we ∧ f_ = .int .i64 t.f ∧ c_ = .int .i64 t.c ∧ m_ = .int .i64 t.m ∧ t.Ok ∧ (-32768 * (n : Int) ≤ wd ∧ wd ≤ 32767 * (n : Int)) ∧ (-32768 * (n : Int) ≤ we ∧ we ≤ 32767 * (n : Int)) ∧ hvIn wide i (xs.drop k) n wd we t = hvIn wide i (xs.drop i) 0 0 0 s ∧ Below w.heap.size w wr) (fun _ _ _ _ _ k_ _ => xs.length - (intOf k_).toNat)
          case atStart => exact ⟨i, 0, wide, 0, 0, s, by omega, by omega, rfl, rfl, by omega, rfl, rfl, rfl, rfl, SO.out, by omega, by omega, rfl, HB.out⟩
          case round =>
            obtain ⟨k, n, r, wd, we, t, hk, hkn, rfl, rfl, hr, rfl, rfl, rfl, rfl, htok, hwd, hwe, hrest, hb⟩ := hrel
            have HI := Lib.hid hrest
            have HB2 := Lib.hid hb
            have HN := Lib.hid hkn
            have HRR := Lib.hid hr
            clear hrest hb
            by_cases hkt : k < xs.length
            · obtain ⟨p0, p1, p2, p3, p4, p5, p6, p7⟩ := booksAt_some (HAT.out.below HB2.out hga) hkt
              obtain ⟨_, _, _, _, _, ⟨wi1, wi2⟩, _, ⟨we1, we2⟩⟩ := (WF.out _ (List.getElem_mem hkt))
              have IS := Lib.hid (hvIn_step (wide := wide) (i := i) (wd := wd) (we := we) (c := n) (s := t) hkt)
              obtain ⟨⟨tf1, tf2⟩, ⟨tc1, tc2⟩, ⟨tm1, tm2⟩⟩ := htok
              obtain ⟨wd1, wd2⟩ := hwd
              obtain ⟨we3, we4⟩ := hwe
              have hn60 : n ≤ 59 := by omega
              have hrl : -2000000 ≤ r := by omega
              have hru : r ≤ 2000000 := by omega
              generalize xs[k] = b at *
              by_cases hd : wd + b.wi ≤ wide
              · by_cases hg : t.m < we + b.we
                · have PE := Lib.hid (hvPut_yes (i := i) (c := n + 1) hd hg)
                  have hd2 : b.wi ≤ r := by omega
                  have hdk : ((k : Int) - (i : Int)) = (n : Int) := by omega
                  have HDK := Lib.hid hdk
                  clear hr hkn hdk
                  go_wp2
                  go_roundw
                  case rel => exact ⟨k + 1, n + 1, _, wd + b.wi, we + b.we, ⟨i, (n + 1 : Nat), we + b.we⟩, by omega, by have := HN.out; omega, by go_num, rfl, by have := HRR.out; omega, rfl, rfl, by first | rfl | (congr 1; have := HDK.out; push_cast; omega), rfl, ⟨by simp; omega, by simp; omega, by simp; omega⟩, by push_cast; omega, by push_cast; omega, by rw [← HI.out, IS.out, PE.out], HB2.out⟩
                  case measure => simp [intOf]; omega
                · have PE := Lib.hid (hvPut_no (wide := wide) (i := i) (c := n + 1) (wd := wd + b.wi) hg)
                  have hd2 : b.wi ≤ r := by omega
                  have hg2 : we + b.we ≤ t.m := by omega
                  clear hr hkn
                  go_wp2
                  go_roundw
                  case rel => exact ⟨k + 1, n + 1, _, wd + b.wi, we + b.we, t, by omega, by have := HN.out; omega, by go_num, rfl, by have := HRR.out; omega, rfl, rfl, rfl, rfl, ⟨⟨tf1, tf2⟩, ⟨tc1, tc2⟩, ⟨tm1, tm2⟩⟩, by push_cast; omega, by push_cast; omega, by rw [← HI.out, IS.out, PE.out], HB2.out⟩
                  case measure => simp [intOf]; omega
              · have PE := Lib.hid (hvPut_wide (i := i) (c := n + 1) (we := we + b.we) (s := t) hd)
                have hd2 : r < b.wi := by omega
                clear hr hkn
                go_wp2
                go_roundw
                case rel => exact ⟨k + 1, n + 1, _, wd + b.wi, we + b.we, t, by omega, by have := HN.out; omega, by go_num, rfl, by have := HRR.out; omega, rfl, rfl, rfl, rfl, ⟨⟨tf1, tf2⟩, ⟨tc1, tc2⟩, ⟨tm1, tm2⟩⟩, by push_cast; omega, by push_cast; omega, by rw [← HI.out, IS.out, PE.out], HB2.out⟩
                case measure => simp [intOf]; omega
            · obtain rfl : k = xs.length := by omega
              have IE := Lib.hid (show t = hvIn wide i (xs.drop i) 0 0 0 s by rw [← HI.out, hvIn_end])
              have hi' : i < xs.length := hlt
              go_wp2
              go_roundw
              case rel => exact ⟨i + 1, t, by omega, by go_num, rfl, rfl, rfl, htok, by rw [← HR.out, OS.out, IE.out], HB2.out⟩
              case measure => simp [intOf]; omega
        · obtain rfl : i = xs.length := by omega
          have IE := Lib.hid (show s = hvAll xs wide by rw [← HR.out, hvOut_end])
          rcases EE.out with ⟨h0, e1, e2⟩ | ⟨h0, e1, e2⟩
          · rw [← IE.out] at h0
            have h0b : (s.c == 0) = true := by simp [h0]
            have E1 := Lib.hid e1
            have E2 := Lib.hid e2
            have H0' := Lib.hid h0
            clear h0 e1 e2 EE
            go_wp2
            (try simp only [Exit.inBlock, Exit.then]); refine bodyPost_ret (results_tmp4 rfl _ _ _) rfl ?_
            exact ⟨by rw [E1.out, E2.out]; rfl, HB.out⟩
          · rw [← IE.out] at h0 e2
            have h0b : (s.c == 0) = false := by simp [h0]
            have E1 := Lib.hid e1
            have E2 := Lib.hid e2
            clear h0 e1 e2 EE
            go_wp2
            (try simp only [Exit.inBlock, Exit.then]); refine bodyPost_ret (results_tmp4 rfl _ _ _) rfl ?_
            exact ⟨by rw [E1.out, E2.out]; rfl, HB.out⟩
  · have hok : okB xs = false := by simpa using hok
    have E : hvC xs wide = 1 ∧ hvV xs wide = ⟨0, 0, 0⟩ := by
      rcases HC.out with ⟨_, h2, h3⟩ | ⟨h1, _⟩ | ⟨h1, _⟩ | ⟨h1, _⟩
      · exact ⟨h2, h3⟩
      · rw [hok] at h1; cases h1
      · rw [hok] at h1; cases h1
      · rw [hok] at h1; cases h1
    obtain ⟨E1, E2⟩ := E
    rw [hok] at LO
    rw [E1, E2]
    clear hok E1 E2 HC
    go_enter Try.func20, Try.ntmps20
    go_wp2_with fail
    refine (LO.out _ SL.out).mono ?_
    rintro e w1 ⟨rfl, h1⟩
    go_wp2
    (try simp only [Exit.inBlock, Exit.then]); refine bodyPost_ret (results_tmp4 rfl _ _ _) rfl ?_
    exact ⟨rfl, h1⟩

end Go.Proofs.Ytgfffbnodinkcaa
