/- What is asked of a desk, a person and a book, by the model: its code; the fine; the place in a queue; how long to wait: contracts. Condition: no longer than slices can be, numbers within their kinds. -/
import Derived.Test.YtmafjncaigllbaaDkO
import Derived.Test.YtmafjncaigllbaaMax
namespace Go.Proofs.Ytmafjncaigllbaa
set_option linter.unusedSimpArgs false
set_option linter.unusedVariables false
set_option maxRecDepth 100000
open Go.RowKit

theorem dk_60 {d : Dk} (h : dkB d = true) : d.cs.length ≤ 60 := (dk_of h).len
def cp0 : Cp := ⟨0, 0, 0, 0, []⟩
noncomputable def askG (d : Dk) (who book : Int) : Bool := dkB d && (perB who && inB book 0 ((d.cs.length : Int) - 1))
noncomputable def askC (d : Dk) (who book : Int) : Int := if dkB d then (if perB who && inB book 0 ((d.cs.length : Int) - 1) then 0 else 2) else 1
noncomputable def askP (d : Dk) (who book : Int) : Cp := if askG d who book then (d.cs[book.toNat]?).getD cp0 else cp0
theorem ask_cases (d : Dk) (who book : Int) : (dkB d = false ∧ askC d who book = 1 ∧ askP d who book = cp0) ∨ (dkB d = true ∧ perB who = false ∧ askC d who book = 2 ∧ askP d who book = cp0) ∨ (dkB d = true ∧ perB who = true ∧ inB book 0 ((d.cs.length : Int) - 1) = false ∧ askC d who book = 2 ∧ askP d who book = cp0) ∨ (dkB d = true ∧ perB who = true ∧ inB book 0 ((d.cs.length : Int) - 1) = true ∧ askC d who book = 0 ∧ ∃ (n : Nat) (hn : n < d.cs.length), book = (n : Int) ∧ askP d who book = d.cs[n]) := by
  unfold askC askP askG
  cases h1 : dkB d
  · exact .inl ⟨rfl, rfl, rfl⟩
  · cases h2 : perB who
    · exact .inr (.inl ⟨rfl, rfl, rfl, rfl⟩)
    · cases h3 : inB book 0 ((d.cs.length : Int) - 1)
      · exact .inr (.inr (.inl ⟨rfl, rfl, rfl, rfl, rfl⟩))
      · refine .inr (.inr (.inr ⟨rfl, rfl, rfl, rfl, ?_⟩))
        unfold inB at h3
        have h4 := of_decide_eq_true h3
        have hn : book.toNat < d.cs.length := by omega
        exact ⟨book.toNat, hn, by omega, by simp [List.getElem?_eq_getElem hn]⟩

theorem ask_cases2 (d : Dk) (who book : Int) : (¬ askC d who book = 0 ∧ askP d who book = cp0) ∨ (dkB d = true ∧ perB who = true ∧ inB book 0 ((d.cs.length : Int) - 1) = true ∧ askC d who book = 0 ∧ ∃ (n : Nat) (hn : n < d.cs.length), book = (n : Int) ∧ askP d who book = d.cs[n]) := by
  rcases ask_cases d who book with ⟨_, h2, h3⟩ | ⟨_, _, h2, h3⟩ | ⟨_, _, _, h2, h3⟩ | ⟨h0, h1, h2, h3, h4⟩
  · exact .inl ⟨by omega, h3⟩
  · exact .inl ⟨by omega, h3⟩
  · exact .inl ⟨by omega, h3⟩
  · exact .inr ⟨h0, h1, h2, h3, h4⟩
set_option maxHeartbeats 4000000 in
theorem l06Asked_any (d : Dk) (hv : Value) (wf : d.Wf ∧ ∀ c ∈ d.cs, c.q.length ≤ maxLen) (who book : Int) (g : Nat) (w : World) (hd : DkAt w g d hv) (hn : d.cs.length ≤ maxLen) :
    Calls Try.prog 74 #[.pointer (some ⟨g, 0, none⟩), .int .i64 who, .int .i64 book] w fun e w' => e = .returned (.int .i64 (askC d who book)) ∧ Below w.heap.size w w' := by
  have HD := Lib.hid hd
  have OK := Lib.hid (l06Ok_any d hv wf g w hd hn)
  obtain ⟨-, -, hg, A, c, rfl, -⟩ := hd
  rcases ask_cases d who book with ⟨h1, h2, -⟩ | ⟨h1, h2, h3, -⟩ | ⟨h1, h2, h3, h4, -⟩ | ⟨h1, h2, h3, h4, -⟩
  · rw [h1] at OK
    have E := Lib.hid h2
    clear h2 h1
    go_enter Try.func74, Try.ntmps74
    go_wp2_with fail
    refine OK.out.mono ?_
    rintro e w1 ⟨rfl, g1⟩
    go_wp2
    go_ret
    exact ⟨by rw [E.out]; rfl, g1⟩
  · rw [h1] at OK
    have E := Lib.hid h3
    clear h3 h1
    go_enter Try.func74, Try.ntmps74
    go_wp2_with fail
    refine OK.out.mono ?_
    rintro e w1 ⟨rfl, g1⟩
    go_wp2_with fail
    refine (l06Person_any _ _).mono ?_
    rintro e w' ⟨rfl, rfl⟩
    rw [h2]
    go_wp2
    go_ret
    exact ⟨by rw [E.out]; rfl, g1⟩
  · have h60 := dk_60 h1
    rw [h1] at OK
    have E := Lib.hid h4
    have H3 := Lib.hid h3
    clear h4 h1 h3
    go_enter Try.func74, Try.ntmps74
    go_wp2_with fail
    refine OK.out.mono ?_
    rintro e w1 ⟨rfl, g1⟩
    obtain ⟨-, c1, -, -⟩ := HD.out.below g1
    go_wp2_with fail
    refine (l06Person_any _ _).mono ?_
    rintro e w' ⟨rfl, rfl⟩
    rw [h2]
    go_wp2_with fail
    refine (l00In_any _ _ _ _).mono ?_
    rintro e w' ⟨rfl, rfl⟩
    rw [H3.out]
    go_wp2
    go_ret
    exact ⟨by rw [E.out]; rfl, g1⟩
  · have h60 := dk_60 h1
    rw [h1] at OK
    have E := Lib.hid h4
    have H3 := Lib.hid h3
    clear h4 h1 h3
    go_enter Try.func74, Try.ntmps74
    go_wp2_with fail
    refine OK.out.mono ?_
    rintro e w1 ⟨rfl, g1⟩
    obtain ⟨-, c1, -, -⟩ := HD.out.below g1
    go_wp2_with fail
    refine (l06Person_any _ _).mono ?_
    rintro e w' ⟨rfl, rfl⟩
    rw [h2]
    go_wp2_with fail
    refine (l00In_any _ _ _ _).mono ?_
    rintro e w' ⟨rfl, rfl⟩
    rw [H3.out]
    go_wp2
    go_ret
    exact ⟨by rw [E.out]; rfl, g1⟩

def fineI (c : Cp) (day : Int) : Int := if c.st = 1 ∧ c.due < day then 5 * (day - c.due) else 0
set_option maxHeartbeats 2000000 in
theorem l06Fine_any (c : Cp) (wf : c.Wf) (day : Int) (hd : -32768 ≤ day ∧ day ≤ 32767) (g o : Nat) (w : World) (hc : CpIn w g o c) :
    Calls Try.prog 75 #[.pointer (some ⟨g, o, none⟩), .int .i16 day] w fun e w' => e = .returned (.int .i64 (fineI c day)) ∧ w = w' := by
  obtain ⟨c0, -, c2, -⟩ := hc
  obtain ⟨⟨s1, s2⟩, -, ⟨d1, d2⟩, -, -⟩ := wf
  obtain ⟨y1, y2⟩ := hd
  by_cases h1 : c.st = 1
  · have hb : (c.st != 1) = false := by simpa using h1
    by_cases h2 : c.due < day
    · have h2' : ¬ day ≤ c.due := by omega
      have E := Lib.hid (show fineI c day = 5 * (day - c.due) by unfold fineI; rw [if_pos ⟨h1, h2⟩])
      clear h1
      go_enter Try.func75, Try.ntmps75
      go_wp2
      go_ret
      exact ⟨by rw [E.out]; rfl, rfl⟩
    · have h2' : day ≤ c.due := by omega
      have E := Lib.hid (show fineI c day = 0 by unfold fineI; rw [if_neg (fun h => h2 h.2)])
      clear h1
      go_enter Try.func75, Try.ntmps75
      go_wp2
      go_ret
      exact ⟨by rw [E.out]; rfl, rfl⟩
  · have hb : (c.st != 1) = true := by simpa using h1
    have E := Lib.hid (show fineI c day = 0 by unfold fineI; rw [if_neg (fun h => h1 h.1)])
    go_enter Try.func75, Try.ntmps75
    go_wp2
    go_ret
    exact ⟨by rw [E.out]; rfl, rfl⟩
theorem CpsOf.in0 {w : World} {A : Option Addr} {c : Nat} {xs : List Cp} (h : CpsOf w (.slice A xs.length c) xs) {i : Nat} (hi : i < xs.length) : ∃ g o, A = some ⟨g, o, none⟩ ∧ g < w.heap.size ∧ CpIn w g (o + i * 5) xs[i] := h.in_ hi

set_option maxHeartbeats 4000000 in
theorem specFineOf_any (d : Dk) (hv : Value) (wf : d.Wf ∧ ∀ c ∈ d.cs, c.q.length ≤ maxLen) (book : Int) (w : World) (hs : CpsOf w hv d.cs) (hn : d.cs.length ≤ maxLen) :
    Calls Try.prog 35 #[.agg #[.int .i16 d.day, hv], .int .i64 book] w fun e w' => e = .returned (.tuple #[.int .i64 (fineI (askP d 0 book) d.day), .int .i64 (askC d 0 book)]) ∧ Below w.heap.size w w' := by
  have HD := Lib.hid (DkAt.new (t := 30) hs)
  have WF := Lib.hid wf
  have AK := Lib.hid (fun W (h : DkAt W w.heap.size d hv) => l06Asked_any d hv wf 0 book w.heap.size W h hn)
  obtain ⟨A, c, rfl, -⟩ := hs
  have G0 := Lib.hid (show Below w.heap.size w (w.alloc (.cells #[.int .i16 d.day, .slice A d.cs.length c] 30)) from (Below.refl _ _).alloc (Nat.le_refl _) _)
  obtain ⟨y1, y2⟩ := wf.1.day
  clear wf
  rcases ask_cases2 d 0 book with ⟨h1, h2⟩ | ⟨h0, -, -, h1, n, hlt, rfl, h2⟩
  · rw [h2]
    clear h2
    generalize askC d 0 book = k at h1 AK ⊢
    have hk : (k != 0) = true := by simpa using h1
    go_enter Try.func35, Try.ntmps35
    go_wp2_with fail
    generalize World.alloc w _ = W at HD G0 ⊢
    refine (AK.out _ HD.out).mono ?_
    rintro e w1 ⟨rfl, g1⟩
    go_wp2
    go_ret2
    exact ⟨rfl, bnext G0.out g1⟩
  · rw [h2]
    rw [h1] at AK ⊢
    clear h1 h2 h0
    have EF := Lib.hid (show fineI d.cs[n] d.day = fineI d.cs[n] d.day from rfl)
    have WK := Lib.hid (WF.out.1.cs _ (List.getElem_mem hlt))
    generalize hr : fineI d.cs[n] d.day = r at EF ⊢
    have HR := Lib.hid hr
    clear hr EF
    go_enter Try.func35, Try.ntmps35
    go_wp2_with fail
    generalize World.alloc w _ = W at HD G0 ⊢
    refine (AK.out _ HD.out).mono ?_
    rintro e w1 ⟨rfl, g1⟩
    have G1 := Lib.hid (bnext G0.out g1)
    obtain ⟨c0, c1, hg, hs⟩ := HD.out.below g1
    obtain ⟨ga, oa, rfl, hga, hin⟩ := hs.in0 hlt
    have HI := Lib.hid hin
    have CF := Lib.hid (fun (p : BelowBy w1) => HR.out ▸ l06Fine_any d.cs[n] WK.out d.day ⟨y1, y2⟩ ga (oa + n * 5) p.W (HI.out.below p.h hga))
    have c0 := belowBy_cell hg c0
    have c1 := belowBy_cell hg c1
    clear hin hs g1
    go_wp2
    refine wp_region_below (by kernel_rfl) (by kernel_rfl) ?_
    repeat (first | go_big_quiet_step ((go_at_call 75; exact calls_same_below (CF.out _))) | quiet_step ((go_at_call 75; exact calls_same_below (CF.out _))))
    refine wpQuiet_nil ?_
    rintro wq ⟨⟨_, hq⟩, rfl⟩
    clear c0 c1
    go_wp2
    go_ret2
    exact ⟨rfl, bnext G1.out hq⟩
noncomputable def placeV (d : Dk) (who book : Int) : Int := if askC d who book = 0 then (if placeI (askP d who book).q who < 0 then 0 else placeI (askP d who book).q who) else 0
noncomputable def placeC (d : Dk) (who book : Int) : Int := if askC d who book = 0 then (if placeI (askP d who book).q who < 0 then 6 else 0) else askC d who book
theorem place_cases (d : Dk) (who book : Int) : (¬ askC d who book = 0 ∧ placeV d who book = 0 ∧ placeC d who book = askC d who book) ∨ (dkB d = true ∧ perB who = true ∧ askC d who book = 0 ∧ ∃ (n : Nat) (hn : n < d.cs.length), book = (n : Int) ∧ inB book 0 ((d.cs.length : Int) - 1) = true ∧ askP d who book = d.cs[n] ∧ ((placeI d.cs[n].q who < 0 ∧ placeV d who book = 0 ∧ placeC d who book = 6) ∨ (¬ placeI d.cs[n].q who < 0 ∧ placeV d who book = placeI d.cs[n].q who ∧ placeC d who book = 0))) := by
  unfold placeV placeC
  rcases ask_cases2 d who book with ⟨h1, h2⟩ | ⟨h0, h1, h2, h3, n, hn, h4, h5⟩
  · exact .inl ⟨h1, if_neg h1, if_neg h1⟩
  · refine .inr ⟨h0, h1, h3, n, hn, h4, h2, h5, ?_⟩
    rw [if_pos h3, if_pos h3, h5]
    by_cases hp : placeI d.cs[n].q who < 0
    · exact .inl ⟨hp, if_pos hp, if_pos hp⟩
    · exact .inr ⟨hp, if_neg hp, if_neg hp⟩
set_option maxHeartbeats 4000000 in
theorem specPlaceInQueue_any (d : Dk) (hv : Value) (wf : d.Wf ∧ ∀ c ∈ d.cs, c.q.length ≤ maxLen) (who book : Int) (w : World) (hs : CpsOf w hv d.cs) (hn : d.cs.length ≤ maxLen) :
    Calls Try.prog 41 #[.agg #[.int .i16 d.day, hv], .int .i64 who, .int .i64 book] w fun e w' => e = .returned (.tuple #[.int .i64 (placeV d who book), .int .i64 (placeC d who book)]) ∧ Below w.heap.size w w' := by
  have HD := Lib.hid (DkAt.new (t := 30) hs)
  have WF := Lib.hid wf
  have AK := Lib.hid (fun W (h : DkAt W w.heap.size d hv) => l06Asked_any d hv wf who book w.heap.size W h hn)
  obtain ⟨A, c, rfl, -⟩ := hs
  have G0 := Lib.hid (show Below w.heap.size w (w.alloc (.cells #[.int .i16 d.day, .slice A d.cs.length c] 30)) from (Below.refl _ _).alloc (Nat.le_refl _) _)
  clear wf
  rcases place_cases d who book with ⟨h1, h2, h3⟩ | ⟨-, -, h1, n, hlt, rfl, -, -, h4⟩
  · rw [h2, h3]
    clear h2 h3
    generalize askC d who book = k at h1 AK ⊢
    have hk : (k != 0) = true := by simpa using h1
    go_enter Try.func41, Try.ntmps41
    go_wp2_with fail
    generalize World.alloc w _ = W at HD G0 ⊢
    refine (AK.out _ HD.out).mono ?_
    rintro e w1 ⟨rfl, g1⟩
    go_wp2
    go_ret2
    exact ⟨rfl, bnext G0.out g1⟩
  · rw [h1] at AK
    have PL := Lib.hid (fun W u (h : IntsOf .i8 W u d.cs[n].q) => l06Place_any u d.cs[n].q who W h ((WF.out.1.cs _ (List.getElem_mem hlt)).q) (WF.out.2 _ (List.getElem_mem hlt)))
    clear h1
    rcases h4 with ⟨hp, h2, h3⟩ | ⟨hp, h2, h3⟩
    all_goals
      rw [h2, h3]
      clear h2 h3
      generalize placeI d.cs[n].q who = p at hp PL ⊢
      go_enter Try.func41, Try.ntmps41
      go_wp2_with fail
      generalize World.alloc w _ = W at HD G0 ⊢
      refine (AK.out _ HD.out).mono ?_
      rintro e w1 ⟨rfl, g1⟩
      have G1 := Lib.hid (bnext G0.out g1)
      obtain ⟨-, c1, hg, hs⟩ := HD.out.below g1
      obtain ⟨ga, oa, rfl, hga, -, -, -, -, u, c4, hq⟩ := hs.in0 hlt
      have CL := Lib.hid (PL.out w1 u hq)
      obtain ⟨A2, k2, rfl, -⟩ := hq
      clear hs g1
      go_wp2_with fail
      refine CL.out.mono ?_
      rintro e w' ⟨rfl, rfl⟩
      go_wp2
      go_ret2
      exact ⟨rfl, G1.out⟩
end Go.Proofs.Ytmafjncaigllbaa
