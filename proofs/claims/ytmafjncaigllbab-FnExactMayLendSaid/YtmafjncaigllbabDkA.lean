/- What is asked of a desk, a person and a book, by the model: its code; the fine; the place in a queue; how long to wait: contracts. Condition: no longer than slices can be, numbers within their kinds. -/
import Derived.Test.YtmafjncaigllbabDkO
import Derived.Test.YtmafjncaigllbabMax
namespace Go.Proofs.Ytmafjncaigllbab
set_option linter.unusedSimpArgs false
set_option linter.unusedVariables false
set_option maxRecDepth 100000
open Go.RowKit

theorem dk_60 {d : Dk} (h : dkB d = true) : d.cs.length ≤ 60 := (dk_of h).len
def cp0 : Cp := ⟨0, 0, 0, 0, []⟩
noncomputable def askG (d : Dk) (who book : Int) : Bool := dkB d && (perB who && inB book 0 ((d.cs.length : Int) - 1))
noncomputable def askC (d : Dk) (who book : Int) : Int := if dkB d then (if perB who && inB book 0 ((d.cs.length : Int) - 1) then 0 else 2) else 1
noncomputable def askP (d : Dk) (who book : Int) : Cp := if askG d who book then (d.cs[book.toNat]?).getD cp0 else cp0
theorem ask_cases (d : Dk) (who book : Int) : (dkB d = false ∧ askC d who book = 1 ∧ askP d who book = cp0) ∨ (dkB d = true ∧ perB who = false ∧ askC d who book = 2 ∧ askP d who book = cp0) ∨ (dkB d = true ∧ perB who = true ∧ inB book 0 ((d.cs.length : Int) - 1) = false ∧ askC d who book = 2 ∧ askP d who book = cp0) ∨ (dkB d = true ∧ perB who = true ∧ inB book 0 ((d.cs.length : Int) - 1) = true ∧ askC d who book = 0 ∧ ∃ (n : Nat) (hn : n < d.cs.length), book = (n : Int) ∧ askP d who book = d.cs[n]) := by
  unfold askC askP askG
  cases h1 : dkB d
  · exact .inl ⟨rfl, rfl, rfl⟩
  · cases h2 : perB who
    · exact .inr (.inl ⟨rfl, rfl, rfl, rfl⟩)
    · cases h3 : inB book 0 ((d.cs.length : Int) - 1)
      · exact .inr (.inr (.inl ⟨rfl, rfl, rfl, rfl, rfl⟩))
      · refine .inr (.inr (.inr ⟨rfl, rfl, rfl, rfl, ?_⟩))
        unfold inB at h3
        have h4 := of_decide_eq_true h3
        have hn : book.toNat < d.cs.length := by omega
        exact ⟨book.toNat, hn, by omega, by simp [List.getElem?_eq_getElem hn]⟩

theorem ask_cases2 (d : Dk) (who book : Int) : (¬ askC d who book = 0 ∧ askP d who book = cp0) ∨ (dkB d = true ∧ perB who = true ∧ inB book 0 ((d.cs.length : Int) - 1) = true ∧ askC d who book = 0 ∧ ∃ (n : Nat) (hn : n < d.cs.length), book = (n : Int) ∧ askP d who book = d.cs[n]) := by
  rcases ask_cases d who book with ⟨_, h2, h3⟩ | ⟨_, _, h2, h3⟩ | ⟨_, _, _, h2, h3⟩ | ⟨h0, h1, h2, h3, h4⟩
  · exact .inl ⟨by omega, h3⟩
  · exact .inl ⟨by omega, h3⟩
  · exact .inl ⟨by omega, h3⟩
  · exact .inr ⟨h0, h1, h2, h3, h4⟩
set_option maxHeartbeats 4000000 in
theorem l06Asked_any (d : Dk) (hv : Value) (wf : d.Wf ∧ ∀ c ∈ d.cs, c.q.length ≤ maxLen) (who book : Int) (g : Nat) (w : World) (hd : DkAt w g d hv) (hn : d.cs.length ≤ maxLen) :
    Calls Try.prog 10 #[.pointer (some ⟨g, 0, none⟩), .int .i64 who, .int .i64 book] w fun e w' => e = .returned (.int .i64 (askC d who book)) ∧ Below w.heap.size w w' := by
  have HD := Lib.hid hd
  have OK := Lib.hid (l06Ok_any d hv wf g w hd hn)
  obtain ⟨-, -, hg, A, c, rfl, -⟩ := hd
  rcases ask_cases d who book with ⟨h1, h2, -⟩ | ⟨h1, h2, h3, -⟩ | ⟨h1, h2, h3, h4, -⟩ | ⟨h1, h2, h3, h4, -⟩
  · rw [h1] at OK
    have E := Lib.hid h2
    clear h2 h1
    go_enter Try.func10, Try.ntmps10
    go_wp2_with fail
    refine OK.out.mono ?_
    rintro e w1 ⟨rfl, g1⟩
    go_wp2
    go_ret
    exact ⟨by rw [E.out]; rfl, g1⟩
  · rw [h1] at OK
    have E := Lib.hid h3
    clear h3 h1
    go_enter Try.func10, Try.ntmps10
    go_wp2_with fail
    refine OK.out.mono ?_
    rintro e w1 ⟨rfl, g1⟩
    go_wp2_with fail
    refine (l06Person_any _ _).mono ?_
    rintro e w' ⟨rfl, rfl⟩
    rw [h2]
    go_wp2
    go_ret
    exact ⟨by rw [E.out]; rfl, g1⟩
  · have h60 := dk_60 h1
    rw [h1] at OK
    have E := Lib.hid h4
    have H3 := Lib.hid h3
    clear h4 h1 h3
    go_enter Try.func10, Try.ntmps10
    go_wp2_with fail
    refine OK.out.mono ?_
    rintro e w1 ⟨rfl, g1⟩
    obtain ⟨-, c1, -, -⟩ := HD.out.below g1
    go_wp2_with fail
    refine (l06Person_any _ _).mono ?_
    rintro e w' ⟨rfl, rfl⟩
    rw [h2]
    go_wp2_with fail
    refine (l00In_any _ _ _ _).mono ?_
    rintro e w' ⟨rfl, rfl⟩
    rw [H3.out]
    go_wp2
    go_ret
    exact ⟨by rw [E.out]; rfl, g1⟩
  · have h60 := dk_60 h1
    rw [h1] at OK
    have E := Lib.hid h4
    have H3 := Lib.hid h3
    clear h4 h1 h3
    go_enter Try.func10, Try.ntmps10
    go_wp2_with fail
    refine OK.out.mono ?_
    rintro e w1 ⟨rfl, g1⟩
    obtain ⟨-, c1, -, -⟩ := HD.out.below g1
    go_wp2_with fail
    refine (l06Person_any _ _).mono ?_
    rintro e w' ⟨rfl, rfl⟩
    rw [h2]
    go_wp2_with fail
    refine (l00In_any _ _ _ _).mono ?_
    rintro e w' ⟨rfl, rfl⟩
    rw [H3.out]
    go_wp2
    go_ret
    exact ⟨by rw [E.out]; rfl, g1⟩

def fineI (c : Cp) (day : Int) : Int := if c.st = 1 ∧ c.due < day then 5 * (day - c.due) else 0
theorem CpsOf.in0 {w : World} {A : Option Addr} {c : Nat} {xs : List Cp} (h : CpsOf w (.slice A xs.length c) xs) {i : Nat} (hi : i < xs.length) : ∃ g o, A = some ⟨g, o, none⟩ ∧ g < w.heap.size ∧ CpIn w g (o + i * 5) xs[i] := h.in_ hi

noncomputable def placeV (d : Dk) (who book : Int) : Int := if askC d who book = 0 then (if placeI (askP d who book).q who < 0 then 0 else placeI (askP d who book).q who) else 0
noncomputable def placeC (d : Dk) (who book : Int) : Int := if askC d who book = 0 then (if placeI (askP d who book).q who < 0 then 6 else 0) else askC d who book
theorem place_cases (d : Dk) (who book : Int) : (¬ askC d who book = 0 ∧ placeV d who book = 0 ∧ placeC d who book = askC d who book) ∨ (dkB d = true ∧ perB who = true ∧ askC d who book = 0 ∧ ∃ (n : Nat) (hn : n < d.cs.length), book = (n : Int) ∧ inB book 0 ((d.cs.length : Int) - 1) = true ∧ askP d who book = d.cs[n] ∧ ((placeI d.cs[n].q who < 0 ∧ placeV d who book = 0 ∧ placeC d who book = 6) ∨ (¬ placeI d.cs[n].q who < 0 ∧ placeV d who book = placeI d.cs[n].q who ∧ placeC d who book = 0))) := by
  unfold placeV placeC
  rcases ask_cases2 d who book with ⟨h1, h2⟩ | ⟨h0, h1, h2, h3, n, hn, h4, h5⟩
  · exact .inl ⟨h1, if_neg h1, if_neg h1⟩
  · refine .inr ⟨h0, h1, h3, n, hn, h4, h2, h5, ?_⟩
    rw [if_pos h3, if_pos h3, h5]
    by_cases hp : placeI d.cs[n].q who < 0
    · exact .inl ⟨hp, if_pos hp, if_pos hp⟩
    · exact .inr ⟨hp, if_neg hp, if_neg hp⟩
end Go.Proofs.Ytmafjncaigllbab
