/- The heaviest books that stand next to each other on a width: plain form, by the model and by the program. -/
import Derived.Test.YtecpddkbbfpeeaaBooksOk
import Derived.Test.YtecpddkbbfpeeaaWkI
namespace Go.Proofs.Ytecpddkbbfpeeaa
set_option linter.unusedSimpArgs false
set_option linter.unusedVariables false
set_option maxRecDepth 100000

section
open Go.RowKit

structure Hv where
  f : Int
  c : Int
  m : Int
/-- What is known of the best books so far, at the first i books. -/
structure Hv.Ok (s : Hv) : Prop where
  f : 0 ≤ s.f ∧ s.f ≤ 60
  c : 0 ≤ s.c ∧ s.c ≤ 60
  m : 0 ≤ s.m ∧ s.m ≤ 2000000
def hvPut (wide : Int) (i c : Nat) (wd we : Int) (s : Hv) : Hv := if wd ≤ wide ∧ s.m < we then ⟨i, c, we⟩ else s
def hvIn (wide : Int) (i : Nat) : List Bk → Nat → Int → Int → Hv → Hv
  | [], _, _, _, s => s
  | b :: t, c, wd, we, s => hvIn wide i t (c + 1) (wd + b.wi) (we + b.we) (hvPut wide i (c + 1) (wd + b.wi) (we + b.we) s)
def hvOut (wide : Int) : List Bk → Nat → Hv → Hv
  | [], _, s => s
  | b :: t, i, s => hvOut wide t (i + 1) (hvIn wide i (b :: t) 0 0 0 s)
def hvAll (xs : List Bk) (wide : Int) : Hv := hvOut wide xs 0 ⟨0, 0, 0⟩
def hvC (xs : List Bk) (wide : Int) : Int := if okB xs then (if inB wide 1 6000 then (if (hvAll xs wide).c = 0 then 6 else 0) else 2) else 1
def hvV (xs : List Bk) (wide : Int) : Hv := if hvC xs wide = 0 then hvAll xs wide else ⟨0, 0, 0⟩
theorem hv_cases (xs : List Bk) (wide : Int) : (okB xs = false ∧ hvC xs wide = 1 ∧ hvV xs wide = ⟨0, 0, 0⟩) ∨ (okB xs = true ∧ inB wide 1 6000 = false ∧ hvC xs wide = 2 ∧ hvV xs wide = ⟨0, 0, 0⟩) ∨ (okB xs = true ∧ inB wide 1 6000 = true ∧ (hvAll xs wide).c = 0 ∧ hvC xs wide = 6 ∧ hvV xs wide = ⟨0, 0, 0⟩) ∨ (okB xs = true ∧ inB wide 1 6000 = true ∧ (hvAll xs wide).c ≠ 0 ∧ hvC xs wide = 0 ∧ hvV xs wide = hvAll xs wide) := by
  unfold hvV hvC
  cases h1 : okB xs
  · exact .inl ⟨rfl, rfl, rfl⟩
  · cases h2 : inB wide 1 6000
    · exact .inr (.inl ⟨rfl, rfl, rfl, rfl⟩)
    · by_cases h3 : (hvAll xs wide).c = 0
      · exact .inr (.inr (.inl ⟨rfl, rfl, h3, by simp [h3], by simp [h3]⟩))
      · exact .inr (.inr (.inr ⟨rfl, rfl, h3, by simp [h3], by simp [h3]⟩))
theorem hvPut_yes {wide : Int} {i c : Nat} {wd we : Int} {s : Hv} (h1 : wd ≤ wide) (h2 : s.m < we) : hvPut wide i c wd we s = ⟨i, c, we⟩ := by unfold hvPut; rw [if_pos ⟨h1, h2⟩]
theorem hvPut_wide {wide : Int} {i c : Nat} {wd we : Int} {s : Hv} (h1 : ¬ wd ≤ wide) : hvPut wide i c wd we s = s := by unfold hvPut; rw [if_neg (fun h => h1 h.1)]
theorem hvPut_no {wide : Int} {i c : Nat} {wd we : Int} {s : Hv} (h1 : ¬ s.m < we) : hvPut wide i c wd we s = s := by unfold hvPut; rw [if_neg (fun h => h1 h.2)]
theorem hvIn_step {xs : List Bk} {wide : Int} {i k : Nat} {wd we : Int} {c : Nat} {s : Hv} (h : k < xs.length) : hvIn wide i (xs.drop k) c wd we s = hvIn wide i (xs.drop (k + 1)) (c + 1) (wd + xs[k].wi) (we + xs[k].we) (hvPut wide i (c + 1) (wd + xs[k].wi) (we + xs[k].we) s) := by
  rw [List.drop_eq_getElem_cons h]
  rfl
theorem hvIn_end {xs : List Bk} {wide : Int} {i : Nat} {wd we : Int} {c : Nat} {s : Hv} : hvIn wide i (xs.drop xs.length) c wd we s = s := by rw [List.drop_length]; rfl
theorem hvOut_step {xs : List Bk} {wide : Int} {i : Nat} {s : Hv} (h : i < xs.length) : hvOut wide (xs.drop i) i s = hvOut wide (xs.drop (i + 1)) (i + 1) (hvIn wide i (xs.drop i) 0 0 0 s) := by
  rw [List.drop_eq_getElem_cons h]
  rfl
theorem hvOut_end {xs : List Bk} {wide : Int} {i : Nat} {s : Hv} : hvOut wide (xs.drop xs.length) i s = s := by rw [List.drop_length]; rfl
end

section
open Go.RowKit

theorem results_tmp4 {fn : Func} {t u v x : Tmp} (h : fn.results = #[.tmp t, .tmp u, .tmp v, .tmp x]) (tmps : Array Value) (P : Program) (w : World) :
    (results fn tmps).run P w = .ok (.tuple #[tmps.getD t undef, tmps.getD u undef, tmps.getD v undef, tmps.getD x undef]) w := by
  simp [results, h]

set_option maxHeartbeats 8000000 in
theorem specHeaviest_any (v0 : Value) (xs : List Bk) (wf : ∀ b ∈ xs, b.Wf) (wide : Int) (w : World) (hs : SliceOf w v0 xs) (hm : xs.length ≤ maxLen) :
    Calls Try.prog 13 #[v0, .int .i64 wide] w fun e w' => e = .returned (.tuple #[.int .i64 (hvV xs wide).f, .int .i64 (hvV xs wide).c, .int .i64 (hvV xs wide).m, .int .i64 (hvC xs wide)]) ∧ Below w.heap.size w w' := by
  have LO := Lib.hid (fun W (h : SliceOf W v0 xs) => l01Ok_any v0 xs wf W h hm)
  have LI := Lib.hid (fun W => l00In_any wide 1 6000 W)
  have SL := Lib.hid hs
  have WF := Lib.hid wf
  have HC := Lib.hid (hv_cases xs wide)
  obtain ⟨A, c, rfl, hs⟩ := hs
  have HS := Lib.hid hs
  clear hs wf
  by_cases hok : okB xs = true
  · have h60 : xs.length ≤ 60 := by unfold okB at hok; simp at hok; exact hok.2
    cases hin : inB wide 1 6000
    · have E : hvC xs wide = 2 ∧ hvV xs wide = ⟨0, 0, 0⟩ := by
        rcases HC.out with ⟨h1, _⟩ | ⟨_, _, h2, h3⟩ | ⟨_, h1, _⟩ | ⟨_, h1, _⟩
        · rw [hok] at h1; cases h1
        · exact ⟨h2, h3⟩
        · rw [hin] at h1; cases h1
        · rw [hin] at h1; cases h1
      obtain ⟨E1, E2⟩ := E
      rw [hok] at LO
      rw [hin] at LI
      rw [E1, E2]
      clear hok hin E1 E2 HC
      go_enter Try.func13, Try.ntmps13
      go_wp2_with fail
      refine (LO.out _ SL.out).mono ?_
      rintro e w1 ⟨rfl, h1⟩
      go_wp2_with fail
      refine (LI.out _).mono ?_
      rintro e w' ⟨rfl, rfl⟩
      go_wp2
      (try simp only [Exit.inBlock, Exit.then]); refine bodyPost_ret (results_tmp4 rfl _ _ _) rfl ?_
      exact ⟨rfl, h1⟩
    · have hw : 1 ≤ wide ∧ wide ≤ 6000 := by simpa [inB] using hin
      have H0 := Lib.hid (show hvOut wide (xs.drop 0) 0 ⟨0, 0, 0⟩ = hvAll xs wide from rfl)
      have E : ((hvAll xs wide).c = 0 ∧ hvC xs wide = 6 ∧ hvV xs wide = ⟨0, 0, 0⟩) ∨ ((hvAll xs wide).c ≠ 0 ∧ hvC xs wide = 0 ∧ hvV xs wide = hvAll xs wide) := by
        rcases HC.out with ⟨h1, _⟩ | ⟨_, h1, _⟩ | ⟨_, _, h2⟩ | ⟨_, _, h2⟩
        · rw [hok] at h1; cases h1
        · rw [hin] at h1; cases h1
        · exact .inl h2
        · exact .inr h2
      have EE := Lib.hid E
      rw [hok] at LO
      rw [hin] at LI
      obtain ⟨hw1, hw2⟩ := hw
      clear hok hin E HC
      go_enter Try.func13, Try.ntmps13
      go_wp2_with fail
      refine (LO.out _ SL.out).mono ?_
      rintro e w1 ⟨rfl, h1⟩
      have B1 := Lib.hid h1
      clear h1
      go_wp2_with fail
      refine (LI.out _).mono ?_
      rintro e w' ⟨rfl, rfl⟩
      go_wp2
      go_loopw [8, 9, 10, 11] (fun f_ c_ m_ i_ wr => ∃ (i : Nat) (s : Hv), i ≤ xs.length ∧ i_ = .int .i64 (i : Int) ∧ f_ = .int .i64 s.f ∧ c_ = .int .i64 s.c ∧ m_ = .int .i64 s.m ∧ s.Ok ∧ hvOut wide (xs.drop i) i s = hvAll xs wide ∧ Below w.heap.size w wr) (fun _ _ _ i_ _ => xs.length - (intOf i_).toNat)
      case atStart => exact ⟨0, ⟨0, 0, 0⟩, Nat.zero_le _, rfl, rfl, rfl, rfl, ⟨by simp, by simp, by simp⟩, H0.out, B1.out⟩
      case round =>
        obtain ⟨i, s, hi, rfl, rfl, rfl, rfl, hsok, hrest, hb⟩ := hrel
        have HR := Lib.hid hrest
        have HB := Lib.hid hb
        clear hrest hb
        by_cases hlt : i < xs.length
        · obtain ⟨ga, oa, rfl, hga, hat⟩ := HS.out (by omega)
          have HAT := Lib.hid hat
          have SO := Lib.hid hsok
          have OS := Lib.hid (hvOut_step (wide := wide) (s := s) hlt)
          clear hat hsok
          obtain ⟨wo, rfl⟩ : ∃ wo : World, wo = wr := ⟨_, rfl⟩
          go_wp2
          go_loopw [8, 9, 10, 12, 13, 14] (fun f_ c_ m_ r_ e_ k_ wr => ∃ (k n : Nat) (r wd we : Int) (t : Hv), k ≤ xs.length ∧ k = i + n ∧ k_ = .int .i64 (k : Int) ∧ r_ = .int .i64 r ∧ r = wide - wd ∧ e_ = .int .i64 we ∧ f_ = .int .i64 t.f ∧ c_ = .int .i64 t.c ∧ m_ = .int .i64 t.m ∧ t.Ok ∧ (-32768 * (n : Int) ≤ wd ∧ wd ≤ 32767 * (n : Int)) ∧ (-32768 * (n : Int) ≤ we ∧ we ≤ 32767 * (n : Int)) ∧ hvIn wide i (xs.drop k) n wd we t = hvIn wide i (xs.drop i) 0 0 0 s ∧ Below w.heap.size w wr) (fun _ _ _ _ _ k_ _ => xs.length - (intOf k_).toNat)
          case atStart => exact ⟨i, 0, wide, 0, 0, s, by omega, by omega, rfl, rfl, by omega, rfl, rfl, rfl, rfl, SO.out, by omega, by omega, rfl, HB.out⟩
          case round =>
            obtain ⟨k, n, r, wd, we, t, hk, hkn, rfl, rfl, hr, rfl, rfl, rfl, rfl, htok, hwd, hwe, hrest, hb⟩ := hrel
            have HI := Lib.hid hrest
            have HB2 := Lib.hid hb
            have HN := Lib.hid hkn
            have HRR := Lib.hid hr
            clear hrest hb
            by_cases hkt : k < xs.length
            · obtain ⟨p0, p1, p2, p3, p4, p5, p6, p7⟩ := booksAt_some (HAT.out.below HB2.out hga) hkt
              obtain ⟨_, _, _, _, _, ⟨wi1, wi2⟩, _, ⟨we1, we2⟩⟩ := (WF.out _ (List.getElem_mem hkt))
              have IS := Lib.hid (hvIn_step (wide := wide) (i := i) (wd := wd) (we := we) (c := n) (s := t) hkt)
              obtain ⟨⟨tf1, tf2⟩, ⟨tc1, tc2⟩, ⟨tm1, tm2⟩⟩ := htok
              obtain ⟨wd1, wd2⟩ := hwd
              obtain ⟨we3, we4⟩ := hwe
              have hn60 : n ≤ 59 := by omega
              have hrl : -2000000 ≤ r := by omega
              have hru : r ≤ 2000000 := by omega
              generalize xs[k] = b at *
              by_cases hd : wd + b.wi ≤ wide
              · by_cases hg : t.m < we + b.we
                · have PE := Lib.hid (hvPut_yes (i := i) (c := n + 1) hd hg)
                  have hd2 : b.wi ≤ r := by omega
                  have hdk : ((k : Int) - (i : Int)) = (n : Int) := by omega
                  have HDK := Lib.hid hdk
                  clear hr hkn hdk
                  go_wp2
                  go_roundw
                  case rel => exact ⟨k + 1, n + 1, _, wd + b.wi, we + b.we, ⟨i, (n + 1 : Nat), we + b.we⟩, by omega, by have := HN.out; omega, by go_num, rfl, by have := HRR.out; omega, rfl, rfl, by first | rfl | (congr 1; have := HDK.out; push_cast; omega), rfl, ⟨by simp; omega, by simp; omega, by simp; omega⟩, by push_cast; omega, by push_cast; omega, by rw [← HI.out, IS.out, PE.out], HB2.out⟩
                  case measure => simp [intOf]; omega
                · have PE := Lib.hid (hvPut_no (wide := wide) (i := i) (c := n + 1) (wd := wd + b.wi) hg)
                  have hd2 : b.wi ≤ r := by omega
                  have hg2 : we + b.we ≤ t.m := by omega
                  clear hr hkn
                  go_wp2
                  go_roundw
                  case rel => exact ⟨k + 1, n + 1, _, wd + b.wi, we + b.we, t, by omega, by have := HN.out; omega, by go_num, rfl, by have := HRR.out; omega, rfl, rfl, rfl, rfl, ⟨⟨tf1, tf2⟩, ⟨tc1, tc2⟩, ⟨tm1, tm2⟩⟩, by push_cast; omega, by push_cast; omega, by rw [← HI.out, IS.out, PE.out], HB2.out⟩
                  case measure => simp [intOf]; omega
              · have PE := Lib.hid (hvPut_wide (i := i) (c := n + 1) (we := we + b.we) (s := t) hd)
                have hd2 : r < b.wi := by omega
                clear hr hkn
                go_wp2
                go_roundw
                case rel => exact ⟨k + 1, n + 1, _, wd + b.wi, we + b.we, t, by omega, by have := HN.out; omega, by go_num, rfl, by have := HRR.out; omega, rfl, rfl, rfl, rfl, ⟨⟨tf1, tf2⟩, ⟨tc1, tc2⟩, ⟨tm1, tm2⟩⟩, by push_cast; omega, by push_cast; omega, by rw [← HI.out, IS.out, PE.out], HB2.out⟩
                case measure => simp [intOf]; omega
            · obtain rfl : k = xs.length := by omega
              have IE := Lib.hid (show t = hvIn wide i (xs.drop i) 0 0 0 s by rw [← HI.out, hvIn_end])
              have hi' : i < xs.length := hlt
              go_wp2
              go_roundw
              case rel => exact ⟨i + 1, t, by omega, by go_num, rfl, rfl, rfl, htok, by rw [← HR.out, OS.out, IE.out], HB2.out⟩
              case measure => simp [intOf]; omega
        · obtain rfl : i = xs.length := by omega
          have IE := Lib.hid (show s = hvAll xs wide by rw [← HR.out, hvOut_end])
          rcases EE.out with ⟨h0, e1, e2⟩ | ⟨h0, e1, e2⟩
          · rw [← IE.out] at h0
            have h0b : (s.c == 0) = true := by simp [h0]
            have E1 := Lib.hid e1
            have E2 := Lib.hid e2
            have H0' := Lib.hid h0
            clear h0 e1 e2 EE
            go_wp2
            (try simp only [Exit.inBlock, Exit.then]); refine bodyPost_ret (results_tmp4 rfl _ _ _) rfl ?_
            exact ⟨by rw [E1.out, E2.out]; rfl, HB.out⟩
          · rw [← IE.out] at h0 e2
            have h0b : (s.c == 0) = false := by simp [h0]
            have E1 := Lib.hid e1
            have E2 := Lib.hid e2
            clear h0 e1 e2 EE
            go_wp2
            (try simp only [Exit.inBlock, Exit.then]); refine bodyPost_ret (results_tmp4 rfl _ _ _) rfl ?_
            exact ⟨by rw [E1.out, E2.out]; rfl, HB.out⟩
  · have hok : okB xs = false := by simpa using hok
    have E : hvC xs wide = 1 ∧ hvV xs wide = ⟨0, 0, 0⟩ := by
      rcases HC.out with ⟨_, h2, h3⟩ | ⟨h1, _⟩ | ⟨h1, _⟩ | ⟨h1, _⟩
      · exact ⟨h2, h3⟩
      · rw [hok] at h1; cases h1
      · rw [hok] at h1; cases h1
      · rw [hok] at h1; cases h1
    obtain ⟨E1, E2⟩ := E
    rw [hok] at LO
    rw [E1, E2]
    clear hok E1 E2 HC
    go_enter Try.func13, Try.ntmps13
    go_wp2_with fail
    refine (LO.out _ SL.out).mono ?_
    rintro e w1 ⟨rfl, h1⟩
    go_wp2
    (try simp only [Exit.inBlock, Exit.then]); refine bodyPost_ret (results_tmp4 rfl _ _ _) rfl ?_
    exact ⟨rfl, h1⟩

end

section
open Go.RowKit

theorem BooksAt.drop {w : World} {g o : Nat} {xs : List Bk} (h : BooksAt w g o xs) (i : Nat) : BooksAt w g (o + i * 8) (xs.drop i) := by
  intro j hj t v hv
  have hl : i + j < xs.length := by rw [List.length_drop] at hj; omega
  have e : (xs.drop i)[j] = xs[i + j] := by simp
  rw [e] at hv
  have := h (i + j) hl t v hv
  rw [← this]
  congr 2
  omega
theorem elemBooksH : Try.prog.underlying 32 = some (.slice (Try.prog.elem 32)) := by kernel_rfl
theorem sizeBookH (w : World) : (sizeOf (Try.prog.elem 32)).run Try.prog w = .ok 8 w := by kernel_rfl
theorem run_from (g o n c i m : Nat) (hi : i < n) (hm : n = i + m) (hc : n ≤ c) (w : World) :
    (Instr.slice 32 (.slice (some ⟨g, o, none⟩) n c) (some (.int .i64 (i : Int))) none none).run Try.prog w = .ok (.slice (some ⟨g, o + i * 8, none⟩) m (c - i)) w := by
  rw [run_slice_l w _ _ _ _ elemBooksH _ _ (by omega) (by omega), sizeBookH]
  have e : n - i = m := by omega
  have e2 : ¬ c = i := by omega
  simp [Result.andThen, sliced, e, e2, Addr.add]

set_option maxHeartbeats 1000000 in
theorem wideKeyH_any (b : Bk) (hb : b.Wf) (w : World) :
    Calls Try.prog 31 #[.agg #[.int .i16 b.c, .int .u8 b.m0, .int .u8 b.m1, .int .u8 b.m2, .int .i16 b.v, .int .i16 b.wi, .int .i16 b.hi, .int .i16 b.we]] w fun e w' => e = .returned (.int .i64 b.wi) ∧ Below w.heap.size w w' := by
  have G0 := Lib.hid (show Below w.heap.size w (w.alloc (.cells #[.int .i16 b.c, .int .u8 b.m0, .int .u8 b.m1, .int .u8 b.m2, .int .i16 b.v, .int .i16 b.wi, .int .i16 b.hi, .int .i16 b.we] 42)) by go_grown)
  obtain ⟨_, _, _, _, _, ⟨h1, h2⟩, _, _⟩ := hb
  go_enter Try.func31, Try.ntmps31
  go_wp2
  go_ret
  exact ⟨rfl, G0.out⟩
set_option maxHeartbeats 1000000 in
theorem weightKeyH_any (b : Bk) (hb : b.Wf) (w : World) :
    Calls Try.prog 32 #[.agg #[.int .i16 b.c, .int .u8 b.m0, .int .u8 b.m1, .int .u8 b.m2, .int .i16 b.v, .int .i16 b.wi, .int .i16 b.hi, .int .i16 b.we]] w fun e w' => e = .returned (.int .i64 b.we) ∧ Below w.heap.size w w' := by
  have G0 := Lib.hid (show Below w.heap.size w (w.alloc (.cells #[.int .i16 b.c, .int .u8 b.m0, .int .u8 b.m1, .int .u8 b.m2, .int .i16 b.v, .int .i16 b.wi, .int .i16 b.hi, .int .i16 b.we] 42)) by go_grown)
  obtain ⟨_, _, _, _, _, _, _, ⟨h1, h2⟩⟩ := hb
  go_enter Try.func32, Try.ntmps32
  go_wp2
  go_ret
  exact ⟨rfl, G0.out⟩

set_option maxHeartbeats 8000000 in
theorem heaviest_any (b0 o0 c : Nat) (xs : List Bk) (wf : ∀ b ∈ xs, b.Wf) (wide : Int) (w : World) (hs : SliceOf w (.slice (some ⟨b0, o0, none⟩) xs.length c) xs) (hcap : xs.length ≤ c) (hm : xs.length ≤ maxLen) :
    Calls Try.prog 12 #[.slice (some ⟨b0, o0, none⟩) xs.length c, .int .i64 wide] w fun e w' => e = .returned (.tuple #[.int .i64 (hvV xs wide).f, .int .i64 (hvV xs wide).c, .int .i64 (hvV xs wide).m, .int .i64 (hvC xs wide)]) ∧ Below w.heap.size w w' := by
  have LO := Lib.hid (fun W (h : SliceOf W (.slice (some ⟨b0, o0, none⟩) xs.length c) xs) => validBooks_any _ xs W h hm)
  have LI := Lib.hid (fun W => withinN_any wide 1 6000 W)
  have SL := Lib.hid hs
  have WF := Lib.hid wf
  have HC := Lib.hid (hv_cases xs wide)
  have HS := Lib.hid (fun (h : 0 < xs.length) => show b0 < w.heap.size ∧ BooksAt w b0 o0 xs by
    obtain ⟨A', c', e, h2⟩ := hs
    obtain ⟨g, o, e2, h3, h4⟩ := h2 h
    injection e with e3 _ _
    rw [e2] at e3
    injection e3 with e3
    injection e3 with e4 e5
    subst e4 e5
    exact ⟨h3, h4⟩)
  clear hs wf
  by_cases hok : okB xs = true
  · have h60 : xs.length ≤ 60 := by unfold okB at hok; simp at hok; exact hok.2
    cases hin : inB wide 1 6000
    · have E : hvC xs wide = 2 ∧ hvV xs wide = ⟨0, 0, 0⟩ := by
        rcases HC.out with ⟨h1, _⟩ | ⟨_, _, h2, h3⟩ | ⟨_, h1, _⟩ | ⟨_, h1, _⟩
        · rw [hok] at h1; cases h1
        · exact ⟨h2, h3⟩
        · rw [hin] at h1; cases h1
        · rw [hin] at h1; cases h1
      obtain ⟨E1, E2⟩ := E
      rw [hok] at LO
      rw [hin] at LI
      rw [E1, E2]
      clear hok hin E1 E2 HC
      go_enter Try.func12, Try.ntmps12
      go_wp2_with fail
      refine (LO.out _ SL.out).mono ?_
      rintro e w1 ⟨rfl, h1⟩
      go_wp2_with fail
      refine (LI.out _).mono ?_
      rintro e w' ⟨rfl, rfl⟩
      go_wp2
      (try simp only [Exit.inBlock, Exit.then]); refine bodyPost_ret (results_tmp4 rfl _ _ _) rfl ?_
      exact ⟨rfl, h1⟩
    · have hw : 1 ≤ wide ∧ wide ≤ 6000 := by simpa [inB] using hin
      have H0 := Lib.hid (show hvOut wide (xs.drop 0) 0 ⟨0, 0, 0⟩ = hvAll xs wide from rfl)
      have E : ((hvAll xs wide).c = 0 ∧ hvC xs wide = 6 ∧ hvV xs wide = ⟨0, 0, 0⟩) ∨ ((hvAll xs wide).c ≠ 0 ∧ hvC xs wide = 0 ∧ hvV xs wide = hvAll xs wide) := by
        rcases HC.out with ⟨h1, _⟩ | ⟨_, h1, _⟩ | ⟨_, _, h2⟩ | ⟨_, _, h2⟩
        · rw [hok] at h1; cases h1
        · rw [hin] at h1; cases h1
        · exact .inl h2
        · exact .inr h2
      have EE := Lib.hid E
      rw [hok] at LO
      rw [hin] at LI
      obtain ⟨hw1, hw2⟩ := hw
      clear hok hin E HC
      go_enter Try.func12, Try.ntmps12
      go_wp2_with fail
      refine (LO.out _ SL.out).mono ?_
      rintro e w1 ⟨rfl, h1⟩
      have B1 := Lib.hid h1
      clear h1
      go_wp2_with fail
      refine (LI.out _).mono ?_
      rintro e w' ⟨rfl, rfl⟩
      go_wp2
      go_loopw [8, 9, 10, 24] (fun f_ c_ m_ i_ wr => ∃ (i : Nat) (s : Hv), i ≤ xs.length ∧ i_ = .int .i64 (i : Int) ∧ f_ = .int .i64 s.f ∧ c_ = .int .i64 s.c ∧ m_ = .int .i64 s.m ∧ s.Ok ∧ hvOut wide (xs.drop i) i s = hvAll xs wide ∧ Below w.heap.size w wr) (fun _ _ _ i_ _ => xs.length - (intOf i_).toNat)
      case atStart => exact ⟨0, ⟨0, 0, 0⟩, Nat.zero_le _, rfl, rfl, rfl, rfl, ⟨by simp, by simp, by simp⟩, H0.out, B1.out⟩
      case round =>
        obtain ⟨i, s, hi, rfl, rfl, rfl, rfl, hsok, hrest, hb⟩ := hrel
        have HR := Lib.hid hrest
        have HB := Lib.hid hb
        clear hrest hb
        by_cases hlt : i < xs.length
        · obtain ⟨hga, hat⟩ := HS.out (by omega)
          have HAT := Lib.hid (hat.drop i)
          have SO := Lib.hid hsok
          have OS := Lib.hid (hvOut_step (wide := wide) (s := s) hlt)
          have WY := Lib.hid (fun (b : Bk) (hb : b ∈ xs.drop i) => WF.out b (List.mem_of_mem_drop hb))
          have ly : xs.length = i + (xs.drop i).length := by rw [List.length_drop]; omega
          have SR := fun W => run_from b0 o0 xs.length c i (xs.drop i).length hlt ly hcap W
          clear hat hsok
          generalize xs.drop i = ys at *
          have LY := Lib.hid ly
          have hy60 : ys.length ≤ 60 := by omega
          clear ly
          obtain ⟨wo, rfl⟩ : ∃ wo : World, wo = wr := ⟨_, rfl⟩
          go_wp2
          clear SR
          go_loopw [8, 9, 10, 12, 13, 31] (fun f_ c_ m_ r_ e_ k_ wr => ∃ (k : Nat) (wd we : Int) (t : Hv), k ≤ ys.length ∧ k_ = .int .i64 (k : Int) ∧ r_ = .int .i64 wd ∧ e_ = .int .i64 we ∧ f_ = .int .i64 t.f ∧ c_ = .int .i64 t.c ∧ m_ = .int .i64 t.m ∧ t.Ok ∧ (-32768 * (k : Int) ≤ wd ∧ wd ≤ 32767 * (k : Int)) ∧ (-32768 * (k : Int) ≤ we ∧ we ≤ 32767 * (k : Int)) ∧ hvIn wide i (ys.drop k) k wd we t = hvIn wide i ys 0 0 0 s ∧ Below w.heap.size w wr) (fun _ _ _ _ _ k_ _ => ys.length - (intOf k_).toNat)
          case atStart => exact ⟨0, 0, 0, s, Nat.zero_le _, rfl, rfl, rfl, rfl, rfl, rfl, SO.out, by omega, by omega, rfl, HB.out⟩
          case round =>
            obtain ⟨k, wd, we, t, hk, rfl, rfl, rfl, rfl, rfl, rfl, htok, hwd, hwe, hrest, hb⟩ := hrel
            have HI := Lib.hid hrest
            have HB2 := Lib.hid hb
            clear hrest hb
            by_cases hkt : k < ys.length
            · obtain ⟨p0, p1, p2, p3, p4, p5, p6, p7⟩ := booksAt_some (HAT.out.below HB2.out hga) hkt
              have WB := Lib.hid (WY.out _ (List.getElem_mem hkt))
              obtain ⟨_, _, _, _, _, ⟨wi1, wi2⟩, _, ⟨we1, we2⟩⟩ := WB.out
              have IS := Lib.hid (hvIn_step (wide := wide) (i := i) (wd := wd) (we := we) (c := k) (s := t) hkt)
              obtain ⟨⟨tf1, tf2⟩, ⟨tc1, tc2⟩, ⟨tm1, tm2⟩⟩ := htok
              obtain ⟨wd1, wd2⟩ := hwd
              obtain ⟨we3, we4⟩ := hwe
              generalize ys[k] = b at *
              have KW := Lib.hid (fun W => wideKeyH_any b WB.out W)
              have KE := Lib.hid (fun W => weightKeyH_any b WB.out W)
              go_wp2_with fail
              refine (KW.out _).mono ?_
              rintro e w3 ⟨rfl, g3⟩
              clear p0 p1 p2 p3 p4 p5 p6 p7
              have hbx : w3.heap[wr.heap.size]? = some (.cells #[.int .i16 b.c, .int .u8 b.m0, .int .u8 b.m1, .int .u8 b.m2, .int .i16 b.v, .int .i16 b.wi, .int .i16 b.hi, .int .i16 b.we] 42 (0, 0)) := (g3.block _ (by simp)).trans (heap_alloc_new wr _)
              have q0 : w3.cell? ⟨wr.heap.size, 0, none⟩ = some (.int .i16 b.c) := cell_of_row w3 _ 0 _ _ _ hbx
              have q1 : w3.cell? ⟨wr.heap.size, 1, none⟩ = some (.int .u8 b.m0) := cell_of_row w3 _ 1 _ _ _ hbx
              have q2 : w3.cell? ⟨wr.heap.size, 2, none⟩ = some (.int .u8 b.m1) := cell_of_row w3 _ 2 _ _ _ hbx
              have q3 : w3.cell? ⟨wr.heap.size, 3, none⟩ = some (.int .u8 b.m2) := cell_of_row w3 _ 3 _ _ _ hbx
              have q4 : w3.cell? ⟨wr.heap.size, 4, none⟩ = some (.int .i16 b.v) := cell_of_row w3 _ 4 _ _ _ hbx
              have q5 : w3.cell? ⟨wr.heap.size, 5, none⟩ = some (.int .i16 b.wi) := cell_of_row w3 _ 5 _ _ _ hbx
              have q6 : w3.cell? ⟨wr.heap.size, 6, none⟩ = some (.int .i16 b.hi) := cell_of_row w3 _ 6 _ _ _ hbx
              have q7 : w3.cell? ⟨wr.heap.size, 7, none⟩ = some (.int .i16 b.we) := cell_of_row w3 _ 7 _ _ _ hbx
              have B3 := Lib.hid (bnext HB2.out (bnew _ g3))
              clear hbx g3 KW
              go_wp2_with fail
              refine (KE.out _).mono ?_
              rintro e w4 ⟨rfl, g4⟩
              have B4 := Lib.hid (bnext B3.out g4)
              clear g4 q0 q1 q2 q3 q4 q5 q6 q7
              by_cases hd : wd + b.wi ≤ wide
              · by_cases hg : t.m < we + b.we
                · have PE := Lib.hid (hvPut_yes (i := i) (c := k + 1) hd hg)
                  go_wp2
                  go_roundw
                  case rel => exact ⟨k + 1, wd + b.wi, we + b.we, ⟨i, (k + 1 : Nat), we + b.we⟩, by omega, by go_num, rfl, rfl, rfl, by first | rfl | (congr 1; push_cast; omega), rfl, ⟨by simp; have := LY.out; omega, by simp; omega, by simp; omega⟩, by push_cast; omega, by push_cast; omega, by rw [← HI.out, IS.out, PE.out], B4.out⟩
                  case measure => simp [intOf]; omega
                · have PE := Lib.hid (hvPut_no (wide := wide) (i := i) (c := k + 1) (wd := wd + b.wi) hg)
                  have hg2 : we + b.we ≤ t.m := by omega
                  go_wp2
                  go_roundw
                  case rel => exact ⟨k + 1, wd + b.wi, we + b.we, t, by omega, by go_num, rfl, rfl, rfl, rfl, rfl, ⟨⟨tf1, tf2⟩, ⟨tc1, tc2⟩, ⟨tm1, tm2⟩⟩, by push_cast; omega, by push_cast; omega, by rw [← HI.out, IS.out, PE.out], B4.out⟩
                  case measure => simp [intOf]; omega
              · have PE := Lib.hid (hvPut_wide (i := i) (c := k + 1) (we := we + b.we) (s := t) hd)
                have hd2 : wide < wd + b.wi := by omega
                go_wp2
                go_roundw
                case rel => exact ⟨k + 1, wd + b.wi, we + b.we, t, by omega, by go_num, rfl, rfl, rfl, rfl, rfl, ⟨⟨tf1, tf2⟩, ⟨tc1, tc2⟩, ⟨tm1, tm2⟩⟩, by push_cast; omega, by push_cast; omega, by rw [← HI.out, IS.out, PE.out], B4.out⟩
                case measure => simp [intOf]; omega
            · obtain rfl : k = ys.length := by omega
              have IE := Lib.hid (show t = hvIn wide i ys 0 0 0 s by rw [← HI.out, hvIn_end])
              go_wp2
              go_roundw
              case rel => exact ⟨i + 1, t, by omega, by go_num, rfl, rfl, rfl, htok, by rw [← HR.out, OS.out, IE.out], HB2.out⟩
              case measure => simp [intOf]; omega
        · obtain rfl : i = xs.length := by omega
          have IE := Lib.hid (show s = hvAll xs wide by rw [← HR.out, hvOut_end])
          rcases EE.out with ⟨h0, e1, e2⟩ | ⟨h0, e1, e2⟩
          · rw [← IE.out] at h0
            have h0b : (s.c == 0) = true := by simp [h0]
            have E1 := Lib.hid e1
            have E2 := Lib.hid e2
            have H0' := Lib.hid h0
            clear h0 e1 e2 EE
            go_wp2
            (try simp only [Exit.inBlock, Exit.then]); refine bodyPost_ret (results_tmp4 rfl _ _ _) rfl ?_
            exact ⟨by rw [E1.out, E2.out]; rfl, HB.out⟩
          · rw [← IE.out] at h0 e2
            have h0b : (s.c == 0) = false := by simp [h0]
            have E1 := Lib.hid e1
            have E2 := Lib.hid e2
            clear h0 e1 e2 EE
            go_wp2
            (try simp only [Exit.inBlock, Exit.then]); refine bodyPost_ret (results_tmp4 rfl _ _ _) rfl ?_
            exact ⟨by rw [E1.out, E2.out]; rfl, HB.out⟩
  · have hok : okB xs = false := by simpa using hok
    have E : hvC xs wide = 1 ∧ hvV xs wide = ⟨0, 0, 0⟩ := by
      rcases HC.out with ⟨_, h2, h3⟩ | ⟨h1, _⟩ | ⟨h1, _⟩ | ⟨h1, _⟩
      · exact ⟨h2, h3⟩
      · rw [hok] at h1; cases h1
      · rw [hok] at h1; cases h1
      · rw [hok] at h1; cases h1
    obtain ⟨E1, E2⟩ := E
    rw [hok] at LO
    rw [E1, E2]
    clear hok E1 E2 HC
    go_enter Try.func12, Try.ntmps12
    go_wp2_with fail
    refine (LO.out _ SL.out).mono ?_
    rintro e w1 ⟨rfl, h1⟩
    go_wp2
    (try simp only [Exit.inBlock, Exit.then]); refine bodyPost_ret (results_tmp4 rfl _ _ _) rfl ?_
    exact ⟨rfl, h1⟩
end

end Go.Proofs.Ytecpddkbbfpeeaa
