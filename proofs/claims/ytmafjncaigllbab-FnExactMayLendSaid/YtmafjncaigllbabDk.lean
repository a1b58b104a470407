/- Desks of copies: how they read when they come in; the law's bounds, copies and comparisons: contracts. Condition: no longer than a slice can be (the copies: than the law tests). -/
import Derived.Test.YtmafjncaigllbabCase
import Derived.Test.YtmafjncaigllbabOrd2
import Derived.Deep.Cut
namespace Go.Proofs.Ytmafjncaigllbab
set_option linter.unusedSimpArgs false
set_option linter.unusedVariables false
set_option maxRecDepth 100000
open Go.ChangeShapes Go.WideShapes Go.ChangeAt Go.RowKit Go.Deep

structure Cp where
  st : Int
  who : Int
  due : Int
  ren : Int
  q : List Int
  deriving DecidableEq, Inhabited
structure Cp.Wf (c : Cp) : Prop where
  st : -128 ≤ c.st ∧ c.st ≤ 127
  who : -128 ≤ c.who ∧ c.who ≤ 127
  due : -32768 ≤ c.due ∧ c.due ≤ 32767
  ren : -128 ≤ c.ren ∧ c.ren ≤ 127
  q : ∀ z ∈ c.q, -128 ≤ z ∧ z ≤ 127
structure Dk where
  day : Int
  cs : List Cp
structure Dk.Wf (d : Dk) : Prop where
  day : -32768 ≤ d.day ∧ d.day ≤ 32767
  cs : ∀ c ∈ d.cs, c.Wf

theorem cellsCopy : Try.prog.cellsOf 56 = 5 := by kernel_rfl
theorem cellsDesk : Try.prog.cellsOf 25 = 2 := by kernel_rfl
theorem cellsI8 : Try.prog.cellsOf 53 = 1 := by kernel_rfl
theorem cellsI8S : Try.prog.cellsOf 54 = 1 := by kernel_rfl
theorem cellsCopyS : Try.prog.cellsOf 23 = 1 := by kernel_rfl

/-- Copies lie from cell o of block g on; each one's queue reads. -/
def CpAt (w : World) (g o : Nat) (xs : List Cp) : Prop := ∀ (i : Nat) (hi : i < xs.length), w.cell? ⟨g, o + i * 5, none⟩ = some (.int .i8 xs[i].st) ∧ w.cell? ⟨g, o + i * 5 + 1, none⟩ = some (.int .i8 xs[i].who) ∧ w.cell? ⟨g, o + i * 5 + 2, none⟩ = some (.int .i16 xs[i].due) ∧ w.cell? ⟨g, o + i * 5 + 3, none⟩ = some (.int .i8 xs[i].ren) ∧ ∃ u, w.cell? ⟨g, o + i * 5 + 4, none⟩ = some u ∧ IntsOf .i8 w u xs[i].q
theorem CpAt.below {w w' : World} {g o : Nat} {xs : List Cp} (h : CpAt w g o xs) (hb : Below w.heap.size w w') (hg : g < w.heap.size) : CpAt w' g o xs := by
  intro i hi
  obtain ⟨h0, h1, h2, h3, u, h4, h5⟩ := h i hi
  exact ⟨(hb.cell (p := ⟨g, _, none⟩) hg).trans h0, (hb.cell (p := ⟨g, _, none⟩) hg).trans h1, (hb.cell (p := ⟨g, _, none⟩) hg).trans h2, (hb.cell (p := ⟨g, _, none⟩) hg).trans h3, u, (hb.cell (p := ⟨g, _, none⟩) hg).trans h4, h5.below hb⟩
def CpsOf (w : World) (v : Value) (xs : List Cp) : Prop :=
  ∃ A c, v = .slice A xs.length c ∧ (0 < xs.length → ∃ g o, A = some ⟨g, o, none⟩ ∧ g < w.heap.size ∧ CpAt w g o xs)
theorem CpsOf.below {w w' : World} {v : Value} {xs : List Cp} (h : CpsOf w v xs) (hb : Below w.heap.size w w') : CpsOf w' v xs := by
  obtain ⟨A, c, rfl, h⟩ := h
  refine ⟨A, c, rfl, fun h0 => ?_⟩
  obtain ⟨g, o, rfl, hg, hh⟩ := h h0
  exact ⟨g, o, rfl, Nat.lt_of_lt_of_le hg hb.size, hh.below hb hg⟩

theorem list_ofC {α : Type} (n : Nat) (P : Nat → α → Prop) (h : ∀ i, i < n → ∃ b, P i b) : ∃ l : List α, l.length = n ∧ ∀ (i : Nat) (hi : i < l.length), P i l[i] := by
  induction n with
  | zero => exact ⟨[], rfl, fun i hi => absurd hi (Nat.not_lt_zero _)⟩
  | succ n ih =>
    obtain ⟨l, hl, hp⟩ := ih (fun i hi => h i (by omega))
    obtain ⟨b, hb⟩ := h n (Nat.lt_succ_self n)
    refine ⟨l ++ [b], by simp [hl], fun i hi => ?_⟩
    by_cases e : i < l.length
    · rw [List.getElem_append_left e]; exact hp i e
    · have : i = n := by simp at hi; omega
      subst this
      rw [List.getElem_append_right (by omega)]
      simpa [hl] using hb

section
variable {H : Type} {enc : TypeId × Value → H} {w : World} {base : Nat} {spare : Nat → Bool} {held : Bool}
theorem cp_of_trod {fuel : Nat} {cs : List Value} {x : DataW H × List MemPlace} (h : DataW.trod enc Try.prog w base spare held fuel 56 cs = some x) :
    ∃ (c : Cp) (u : Value), c.Wf ∧ cs = [.int .i8 c.st, .int .i8 c.who, .int .i16 c.due, .int .i8 c.ren, u] ∧ IntsOf .i8 w u c.q ∧ c.q.length ≤ maxLen := by
  obtain ⟨xs, n, _, _, hlen, hxl, hf⟩ := DataW.trod_struct Try.underlying56 h
  rw [cellsCopy] at hlen
  match cs, hlen with
  | [c0, c1, c2, c3, c4], _ =>
    match xs, hxl with
    | [y0, y1, y2, y3, y4], _ =>
      have h0 : DataW.trod enc Try.prog w base spare held n 53 ((List.drop 0 [c0, c1, c2, c3, c4]).take (Try.prog.cellsOf 53)) = some y0 := hf 0 _ rfl
      have h1 : DataW.trod enc Try.prog w base spare held n 53 ((List.drop 1 [c0, c1, c2, c3, c4]).take (Try.prog.cellsOf 53)) = some y1 := hf 1 _ rfl
      have h2 : DataW.trod enc Try.prog w base spare held n 22 ((List.drop 2 [c0, c1, c2, c3, c4]).take (Try.prog.cellsOf 22)) = some y2 := hf 2 _ rfl
      have h3 : DataW.trod enc Try.prog w base spare held n 53 ((List.drop 3 [c0, c1, c2, c3, c4]).take (Try.prog.cellsOf 53)) = some y3 := hf 3 _ rfl
      have h4 : DataW.trod enc Try.prog w base spare held n 54 ((List.drop 4 [c0, c1, c2, c3, c4]).take (Try.prog.cellsOf 54)) = some y4 := hf 4 _ rfl
      simp only [cells16, cellsI8, cellsI8S, List.drop_zero, List.drop_succ_cons, List.take_succ_cons, List.take_zero] at h0 h1 h2 h3 h4
      obtain ⟨a0, e0, _, w0⟩ := DataW.trod_int Try.underlying53 h0
      obtain ⟨a1, e1, _, w1⟩ := DataW.trod_int Try.underlying53 h1
      obtain ⟨a2, e2, _, w2⟩ := DataW.trod_int Try.underlying22 h2
      obtain ⟨a3, e3, _, w3⟩ := DataW.trod_int Try.underlying53 h3
      obtain ⟨hv, zs, e4, w4, s4, l4⟩ := ints_of_trod Try.underlying54 Try.underlying53 cellsI8 h4
      simp only [List.cons.injEq, and_true] at e0 e1 e2 e3 e4
      subst e0 e1 e2 e3 e4
      exact ⟨⟨a0, a1, a2, a3, zs⟩, _, ⟨bounds_i8 w0, bounds_i8 w1, bounds_i16 w2, bounds_i8 w3, fun z hz => bounds_i8 (w4 z hz)⟩, rfl, s4, l4⟩

theorem cps_of_trod {fuel : Nat} {cs : List Value} {x : DataW H × List MemPlace} (hf : DataW.trod enc Try.prog w base spare held fuel 23 cs = some x) :
    ∃ (v : Value) (xs : List Cp), cs = [v] ∧ (∀ c ∈ xs, c.Wf) ∧ (∀ c ∈ xs, c.q.length ≤ maxLen) ∧ CpsOf w v xs ∧ xs.length ≤ maxLen := by
  rcases open_slice Try.underlying23 hf with ⟨hcs, _⟩ | ⟨a', len, cap, m, n, D, Pl, hcs, _, hl, hm, hmm, _, hi⟩
  · exact ⟨_, [], hcs, by simp, by simp, ⟨_, _, rfl, fun h => absurd h (Nat.lt_irrefl _)⟩, by simp⟩
  · have hlm : len ≤ m := by rw [hmm]; split <;> omega
    obtain ⟨xs, hxl, hx⟩ := list_ofC len (fun i (c : Cp) => c.Wf ∧ c.q.length ≤ maxLen ∧ ∃ u, w.cells? base (a'.add (i * Try.prog.cellsOf 56)) (Try.prog.cellsOf 56) = some [.int .i8 c.st, .int .i8 c.who, .int .i16 c.due, .int .i8 c.ren, u] ∧ IntsOf .i8 w u c.q) (fun i h => by
      obtain ⟨cs', h1, h2⟩ := hi i (by omega)
      obtain ⟨c, u, hc, rfl, h3, h4⟩ := cp_of_trod h2
      exact ⟨c, hc, h4, u, h1, h3⟩)
    subst hxl
    refine ⟨_, xs, hcs, fun b hb => ?_, fun b hb => ?_, ⟨_, _, rfl, fun h0 => ?_⟩, by omega⟩
    · obtain ⟨i, hi, rfl⟩ := List.getElem_of_mem hb
      exact (hx i hi).1
    · obtain ⟨i, hi, rfl⟩ := List.getElem_of_mem hb
      exact (hx i hi).2.1
    · have hc : ∀ i (hi : i < xs.length), ∃ u, IntsOf .i8 w u xs[i].q ∧ ∀ (j : Nat), j < 5 → w.cell? (a'.add (i * 5 + j)) = ([Value.int .i8 xs[i].st, .int .i8 xs[i].who, .int .i16 xs[i].due, .int .i8 xs[i].ren, u])[j]? := by
        intro i hi
        obtain ⟨u, h2, h3⟩ := (hx i hi).2.2
        rw [cellsCopy] at h2
        refine ⟨u, h3, fun j hj => ?_⟩
        have h4 := (World.cells?_some h2).2.2 j hj
        rw [← h4, add_add]
      have hs : a'.spot = none := by
        obtain ⟨u, _, h1⟩ := hc 0 h0
        have h1 : w.cell? (a'.add (0 * 5 + 0)) = some _ := h1 0 (by omega)
        simpa [Addr.add] using World.cell?_spot h1
      obtain ⟨g, o, sp⟩ := a'
      simp only at hs
      subst hs
      refine ⟨g, o, rfl, ?_, fun i hi => ?_⟩
      · obtain ⟨u, _, h1⟩ := hc 0 h0
        have h1 : w.cell? (Addr.add ⟨g, o, none⟩ (0 * 5 + 0)) = some _ := h1 0 (by omega)
        have h2 := block_lt_of_cell h1
        rwa [block_of_add] at h2
      · obtain ⟨u, hu, h1⟩ := hc i hi
        have e : ∀ j, j < 5 → w.cell? ⟨g, o + i * 5 + j, none⟩ = ([Value.int .i8 xs[i].st, .int .i8 xs[i].who, .int .i16 xs[i].due, .int .i8 xs[i].ren, u])[j]? := fun j hj => by
          rw [← h1 j hj, Addr.add_lit]
          congr 2
          omega
        exact ⟨e 0 (by omega), e 1 (by omega), e 2 (by omega), e 3 (by omega), u, e 4 (by omega), hu⟩

/-- A desk that came in. -/
theorem desk_of_arg {r : Reach} {b0 : Nat} {v : Value} {d : DataW H} {p : List MemPlace} (hv : Value.okWide Try.prog w r b0 25 v) (h : DataW.Trod enc Try.prog w base spare held 25 v d p) :
    ∃ (x : Dk) (hv : Value), (x.Wf ∧ ∀ c ∈ x.cs, c.q.length ≤ maxLen) ∧ v = .agg #[.int .i16 x.day, hv] ∧ CpsOf w hv x.cs ∧ x.cs.length ≤ maxLen := by
  obtain ⟨cs, rfl, _⟩ := okWide_struct Try.underlying25 hv
  obtain ⟨fuel, hf⟩ := h
  obtain ⟨xs, n, _, _, hlen, hxl, hf⟩ := DataW.trod_struct Try.underlying25 hf
  rw [cellsDesk] at hlen
  have hlen' : cs.size = 2 := by simpa [Value.cells] using hlen
  obtain ⟨c0, c1, rfl⟩ : ∃ c0 c1, cs = #[c0, c1] := by
    obtain ⟨l⟩ := cs
    match l, hlen' with
    | [c0, c1], _ => exact ⟨c0, c1, rfl⟩
  match xs, hxl with
  | [y0, y1], _ =>
    have h0 : DataW.trod enc Try.prog w base spare held n 22 ((List.drop 0 [c0, c1]).take (Try.prog.cellsOf 22)) = some y0 := hf 0 _ rfl
    have h1 : DataW.trod enc Try.prog w base spare held n 23 ((List.drop 1 [c0, c1]).take (Try.prog.cellsOf 23)) = some y1 := hf 1 _ rfl
    simp only [cells16, cellsCopyS, List.drop_zero, List.drop_succ_cons, List.take_succ_cons, List.take_zero] at h0 h1
    obtain ⟨a0, e0, _, w0⟩ := DataW.trod_int Try.underlying22 h0
    obtain ⟨hv, zs, e1, wf1, m1, s1, l1⟩ := cps_of_trod h1
    simp only [List.cons.injEq, and_true] at e0 e1
    subst e0 e1
    exact ⟨⟨a0, zs⟩, _, ⟨⟨bounds_i16 w0, wf1⟩, m1⟩, rfl, s1, l1⟩
end

/-! ### the law's bound -/
set_option maxHeartbeats 1000000 in
theorem szInt8S_left (A : Option Addr) (n c : Nat) (L : Int) (w : World) (hn : n ≤ 9223372036854775807) (h0 : 0 ≤ L) (h1 : L ≤ 1048576) :
    Calls Try.prog 33 #[.slice A n c, .int .i64 L] w fun e w' => e = .returned (.int .i64 (if (n : Int) ≤ L then L - (n : Int) else -1)) ∧ w = w' := by
  by_cases h : (n : Int) ≤ L
  · have h' : ¬ (L - (n : Int) < 0) := by omega
    rw [if_pos h]
    go_enter Try.func33, Try.ntmps33
    go_wp2
    go_ret
    exact ⟨rfl, rfl⟩
  · have h' : (L - (n : Int) < 0) := by omega
    rw [if_neg h]
    go_enter Try.func33, Try.ntmps33
    go_wp2
    go_ret
    exact ⟨rfl, rfl⟩
set_option maxHeartbeats 1000000 in
theorem szCopy_left (c : Cp) (A : Option Addr) (k : Nat) (L : Int) (w : World) (hn : c.q.length ≤ 9223372036854775807) (h0 : 0 ≤ L) (h1 : L ≤ 1048576) :
    Calls Try.prog 16 #[.agg #[.int .i8 c.st, .int .i8 c.who, .int .i16 c.due, .int .i8 c.ren, .slice A c.q.length k], .int .i64 L] w fun e w' => e = .returned (.int .i64 (if (c.q.length : Int) ≤ L then L - (c.q.length : Int) else -1)) ∧ Below w.heap.size w w' := by
  by_cases h : (c.q.length : Int) ≤ L
  · have h' : ¬ (L - (c.q.length : Int) < 0) := by omega
    rw [if_pos h]
    go_enter Try.func16, Try.ntmps16
    go_wp2_with fail
    refine (szInt8S_left _ _ _ _ _ hn h0 h1).mono ?_
    rintro e w' ⟨rfl, rfl⟩
    rw [if_pos h]
    go_wp2
    go_ret
    exact ⟨rfl, by go_grown⟩
  · rw [if_neg h]
    go_enter Try.func16, Try.ntmps16
    go_wp2_with fail
    refine (szInt8S_left _ _ _ _ _ hn h0 h1).mono ?_
    rintro e w' ⟨rfl, rfl⟩
    rw [if_neg (by omega)]
    go_wp2
    go_ret
    exact ⟨rfl, by go_grown⟩

/-- What a desk counts for the law's bound. -/
def cszTo (xs : List Cp) : Nat → Nat
  | 0 => xs.length
  | k + 1 => cszTo xs k + ((xs[k]?).map (·.q.length)).getD 0
def csz (xs : List Cp) : Nat := cszTo xs xs.length
theorem cszTo_mono (xs : List Cp) : ∀ (k d : Nat), cszTo xs k ≤ cszTo xs (k + d)
  | k, 0 => Nat.le_refl _
  | k, d + 1 => Nat.le_trans (cszTo_mono xs k d) (by rw [show k + (d + 1) = (k + d) + 1 by omega, cszTo]; omega)
theorem csz_le {xs : List Cp} {k : Nat} (h : k ≤ xs.length) : cszTo xs k ≤ csz xs := by
  have := cszTo_mono xs k (xs.length - k)
  rwa [show k + (xs.length - k) = xs.length by omega] at this
theorem csz_len (xs : List Cp) : xs.length ≤ csz xs := csz_le (xs := xs) (k := 0) (Nat.zero_le _)
theorem cszTo_succ {xs : List Cp} {k : Nat} (h : k < xs.length) : cszTo xs (k + 1) = cszTo xs k + xs[k].q.length := by
  rw [cszTo, List.getElem?_eq_getElem h]
  rfl
theorem csz_row {xs : List Cp} {k : Nat} (h : k < xs.length) : xs[k].q.length ≤ csz xs := by
  have h1 := csz_le (xs := xs) (k := k + 1) h
  rw [cszTo_succ h] at h1
  omega

set_option maxHeartbeats 2000000 in
theorem szCopyS_r (r : Int) (v : Value) (xs : List Cp) (L : Int) (w : World) (hs : CpsOf w v xs) (hr : ∀ c ∈ xs, c.q.length ≤ maxLen) (hn : xs.length ≤ maxLen) (h0 : 0 ≤ L) (h1 : L ≤ 1048576) (hp : (csz xs : Int) ≤ L → L - (csz xs : Int) = r) (hq : L < (csz xs : Int) → r = -1) :
    Calls Try.prog 9 #[v, .int .i64 L] w fun e w' => e = .returned (.int .i64 r) ∧ Below w.heap.size w w' := by
  have HS := Lib.hid hs
  obtain ⟨A, c, rfl, -⟩ := hs
  have HR := Lib.hid hr
  have HP := Lib.hid hp
  have HQ := Lib.hid hq
  clear hp hq
  unfold maxLen at hn
  have HLT := Lib.hid (csz_len xs)
  clear hr
  by_cases hl : (xs.length : Int) ≤ L
  · have hl' : ¬ (L - (xs.length : Int) < 0) := by omega
    go_enter Try.func9, Try.ntmps9
    go_wp2
    go_loopw [1, 5] (fun l_ i_ wr => ∃ k : Nat, k ≤ xs.length ∧ i_ = .int .i64 (k : Int) ∧ 0 ≤ L - (cszTo xs k : Int) ∧ l_ = .int .i64 (L - (cszTo xs k : Int)) ∧ Below w.heap.size w wr) (fun _ i_ _ => xs.length - (intOf i_).toNat)
    case atStart => exact ⟨0, Nat.zero_le _, rfl, by simp [cszTo]; omega, rfl, Below.refl _ _⟩
    case round =>
      obtain ⟨k, hk, rfl, hp, rfl, hb⟩ := hrel
      have HB := Lib.hid hb
      by_cases hlt : k < xs.length
      · obtain ⟨A', c', e, hh⟩ := HS.out.below hb
        cases e
        obtain ⟨g, o, rfl, hg, hat⟩ := hh (by omega)
        have SU := Lib.hid (cszTo_succ hlt)
        have TL := Lib.hid (csz_le (xs := xs) (k := k + 1) hlt)
        have hxk := hat k hlt
        have hmx := HR.out _ (List.getElem_mem hlt)
        clear hat hh hb
        generalize xs[k] = x at hxk hmx SU
        obtain ⟨p0, p1, p2, p3, u, p4, hz⟩ := hxk
        obtain ⟨Ak, ck, rfl, -⟩ := hz
        unfold maxLen at hmx
        have CS := Lib.hid (fun W => szCopy_left x Ak ck (L - (cszTo xs k : Int)) W (by omega) hp (by omega))
        by_cases hm : (x.q.length : Int) ≤ L - (cszTo xs k : Int)
        · rw [if_pos hm] at CS
          have hm2 : ¬ (L - (cszTo xs k : Int) - (x.q.length : Int) < 0) := by omega
          generalize cszTo xs k = q at *
          go_wp2_with fail
          refine (CS.out _).mono ?_
          rintro e w1 ⟨rfl, h1⟩
          have B1 := Lib.hid (bnext HB.out h1)
          clear p0 p1 p2 p3 p4
          go_wp2
          go_roundw
          case rel => exact ⟨k + 1, by omega, by go_num, by rw [SU.out]; omega, by rw [SU.out]; congr 1; omega, B1.out⟩
          case measure => simp [intOf]; omega
        · rw [if_neg hm] at CS
          have E := Lib.hid (HQ.out (by have := SU.out; have := TL.out; omega))
          generalize cszTo xs k = q at *
          go_wp2_with fail
          refine (CS.out _).mono ?_
          rintro e w1 ⟨rfl, h1⟩
          have B1 := Lib.hid (bnext HB.out h1)
          clear p0 p1 p2 p3 p4
          go_wp2
          go_ret
          exact ⟨by rw [E.out]; rfl, B1.out⟩
      · obtain rfl : k = xs.length := by omega
        have E := Lib.hid (show L - (cszTo xs xs.length : Int) = r from HP.out (by unfold csz; omega))
        clear hp
        go_wp2
        go_ret
        exact ⟨by rw [← E.out]; rfl, HB.out⟩
  · have hl' : L - (xs.length : Int) < 0 := by omega
    have E := Lib.hid (HQ.out (by have := HLT.out; omega))
    go_enter Try.func9, Try.ntmps9
    go_wp2
    go_ret
    exact ⟨by rw [E.out]; rfl, Below.refl _ _⟩
set_option maxHeartbeats 1000000 in
theorem szDesk_r (r : Int) (d : Dk) (v : Value) (L : Int) (w : World) (hs : CpsOf w v d.cs) (hr : ∀ c ∈ d.cs, c.q.length ≤ maxLen) (hn : d.cs.length ≤ maxLen) (h0 : 0 ≤ L) (h1 : L ≤ 1048576) (hp : (csz d.cs : Int) ≤ L → L - (csz d.cs : Int) = r) (hq : L < (csz d.cs : Int) → r = -1) :
    Calls Try.prog 4 #[.agg #[.int .i16 d.day, v], .int .i64 L] w fun e w' => e = .returned (.int .i64 r) ∧ Below w.heap.size w w' := by
  have CS := Lib.hid (fun W (h : Below w.heap.size w W) => szCopyS_r r v d.cs L W (hs.below h) hr hn h0 h1 hp hq)
  obtain ⟨A, c, rfl, -⟩ := hs
  have hc : r = -1 ∨ 0 ≤ r := by omega
  clear hp hq hr
  rcases hc with rfl | hc
  · go_enter Try.func4, Try.ntmps4
    go_wp2_with fail
    refine (CS.out _ (by go_grown)).mono ?_
    rintro e w1 ⟨rfl, h1⟩
    have B1 := Lib.hid (bnext (show Below w.heap.size w _ by go_grown) h1)
    go_wp2
    go_ret
    exact ⟨rfl, B1.out⟩
  · have hc' : ¬ (r < 0) := by omega
    go_enter Try.func4, Try.ntmps4
    go_wp2_with fail
    refine (CS.out _ (by go_grown)).mono ?_
    rintro e w1 ⟨rfl, h1⟩
    have B1 := Lib.hid (bnext (show Below w.heap.size w _ by go_grown) h1)
    go_wp2
    go_ret
    exact ⟨rfl, B1.out⟩
theorem szDesk_left (d : Dk) (v : Value) (L : Int) (w : World) (hs : CpsOf w v d.cs) (hr : ∀ c ∈ d.cs, c.q.length ≤ maxLen) (hn : d.cs.length ≤ maxLen) (h0 : 0 ≤ L) (h1 : L ≤ 1048576) :
    Calls Try.prog 4 #[.agg #[.int .i16 d.day, v], .int .i64 L] w fun e w' => e = .returned (.int .i64 (if (csz d.cs : Int) ≤ L then L - (csz d.cs : Int) else -1)) ∧ Below w.heap.size w w' :=
  szDesk_r _ d v L w hs hr hn h0 h1 (fun h => (if_pos h).symm) (fun h => if_neg (by omega))

/-! ### the law's copies -/
set_option maxHeartbeats 2000000 in
theorem toCopy_any (c : Cp) (hv : Value) (w : World) (hs : IntsOf .i8 w hv c.q) (hn : c.q.length ≤ 1048576) :
    Calls Try.prog 22 #[.agg #[.int .i8 c.st, .int .i8 c.who, .int .i16 c.due, .int .i8 c.ren, hv]] w fun e w' => ∃ g, e = .returned (.agg #[.int .i8 c.st, .int .i8 c.who, .int .i16 c.due, .int .i8 c.ren, .slice (some ⟨g, 0, none⟩) c.q.length c.q.length]) ∧ w.heap.size ≤ g ∧ IRow .i8 53 w' g c.q ∧ Below w.heap.size w w' := by
  have HS := Lib.hid hs
  obtain ⟨A, k, rfl, -⟩ := hs
  go_enter Try.func22, Try.ntmps22
  have HB := Lib.hid (alloc3 w (.cells #[.int .i8 c.st, .int .i8 c.who, .int .i16 c.due, .int .i8 c.ren, .slice A c.q.length k] 56) (.cells #[.int .i8 0, .int .i8 0, .int .i16 0, .int .i8 0, .slice none 0 0] 61) (.cells #[.int .i8 c.st, .int .i8 c.who, .int .i16 c.due, .int .i8 c.ren, .slice none 0 0] 61))
  go_wp2_with fail
  refine (toInt8S_any _ _ _ (HS.out.below (by go_grown)) hn).mono ?_
  rintro e w1 ⟨g, rfl, hg, hr, h1⟩
  have G1 := Lib.hid (bnext (show Below w.heap.size w _ by go_grown) h1)
  have b1 := (h1.block (w.heap.size + 1) (by simp)).trans HB.out.1
  have b2 := (h1.block (w.heap.size + 1 + 1) (by simp)).trans HB.out.2
  have HR := Lib.hid hr
  have HG := Lib.hid (show w.heap.size + 1 + 1 + 1 ≤ g by simpa using hg)
  clear hg hr h1
  have o0 := cell_of_row w1 _ 0 _ _ _ b2
  have o1 := cell_of_row w1 _ 1 _ _ _ b2
  have o2 := cell_of_row w1 _ 2 _ _ _ b2
  have o3 := cell_of_row w1 _ 3 _ _ _ b2
  have o4 := cell_of_row w1 _ 4 _ _ _ b2
  have r0 := cell_of_row w1 _ 0 _ _ _ b1
  have r1 := cell_of_row w1 _ 1 _ _ _ b1
  have r2 := cell_of_row w1 _ 2 _ _ _ b1
  have r3 := cell_of_row w1 _ 3 _ _ _ b1
  have r4 := cell_of_row w1 _ 4 _ _ _ b1
  have f2 := fun j => frozen_of_row w1 _ j _ _ b2
  have f1 := fun j => frozen_of_row w1 _ j _ _ b1
  simp only [List.getElem?_toArray, List.getElem?_cons_zero, List.getElem?_cons_succ] at o0 o1 o2 o3 o4 r0 r1 r2 r3 r4
  clear b1 b2
  go_wp2
  refine bodyPost_ret (v := .agg #[.int .i8 c.st, .int .i8 c.who, .int .i16 c.due, .int .i8 c.ren, .slice (some ⟨g, 0, none⟩) c.q.length c.q.length]) (by simp [results, Try.results22, go_sem, r0, r1, r2, r3, r4]) rfl ?_
  refine ⟨g, rfl, by have := HG.out; omega, ?_, ?_⟩
  · repeat (refine IRowK.far ?_ (by have := HG.out; simp; omega))
    exact HR.out
  · repeat (refine Below.setCell ?_ (by first | (simp; done) | (simp; omega) | omega) _)
    exact G1.out

/-- Block g is a row of n copies, the first k of which are those of the list, their queues in rows of their own behind lo. -/
def CRowK (w : World) (lo g : Nat) (xs : List Cp) (k n : Nat) : Prop :=
  ∃ cs : Array Value, w.heap[g]? = some (.cells cs 61 (0, 0)) ∧ cs.size = n * 5 ∧ ∀ (i : Nat) (hi : i < xs.length), i < k → cs[i * 5]? = some (.int .i8 xs[i].st) ∧ cs[i * 5 + 1]? = some (.int .i8 xs[i].who) ∧ cs[i * 5 + 2]? = some (.int .i16 xs[i].due) ∧ cs[i * 5 + 3]? = some (.int .i8 xs[i].ren) ∧ ∃ gi, cs[i * 5 + 4]? = some (.slice (some ⟨gi, 0, none⟩) xs[i].q.length xs[i].q.length) ∧ lo < gi ∧ IRow .i8 53 w gi xs[i].q
theorem CRowK.lt {w : World} {lo g k n : Nat} {xs : List Cp} (h : CRowK w lo g xs k n) : g < w.heap.size := by
  obtain ⟨cs, h, _⟩ := h
  exact (Array.getElem?_eq_some_iff.1 h).1
theorem CRowK.cells5 {w : World} {lo g k n : Nat} {xs : List Cp} (h : CRowK w lo g xs k n) (i : Nat) (hi : i < n) :
    (∃ u, w.cell? ⟨g, i * 5, none⟩ = some u) ∧ (∃ u, w.cell? ⟨g, i * 5 + 1, none⟩ = some u) ∧ (∃ u, w.cell? ⟨g, i * 5 + 2, none⟩ = some u) ∧ (∃ u, w.cell? ⟨g, i * 5 + 3, none⟩ = some u) ∧ (∃ u, w.cell? ⟨g, i * 5 + 4, none⟩ = some u) := by
  obtain ⟨cs, h, h2, _⟩ := h
  have e : ∀ j, j < 5 → ∃ u, w.cell? ⟨g, i * 5 + j, none⟩ = some u := fun j hj => by
    rw [cell_of_row w g _ cs _ _ h]
    exact ⟨cs[i * 5 + j]'(by omega), Array.getElem?_eq_getElem (by omega)⟩
  exact ⟨e 0 (by omega), e 1 (by omega), e 2 (by omega), e 3 (by omega), e 4 (by omega)⟩
theorem CRowK.frozen {w : World} {lo g k n : Nat} {xs : List Cp} (h : CRowK w lo g xs k n) (o : Nat) : w.frozen? ⟨g, o, none⟩ = false := by
  obtain ⟨cs, h, _⟩ := h
  exact frozen_of_row w g _ cs _ h
theorem CRowK.below {w w' : World} {lo g k n : Nat} {xs : List Cp} (h : CRowK w lo g xs k n) (hb : Below w.heap.size w w') : CRowK w' lo g xs k n := by
  obtain ⟨cs, h1, h2, h3⟩ := h
  refine ⟨cs, (hb.block g (Array.getElem?_eq_some_iff.1 h1).1).trans h1, h2, fun i hi hk => ?_⟩
  obtain ⟨c0, c1, c2, c3, gi, e1, e2, e3⟩ := h3 i hi hk
  exact ⟨c0, c1, c2, c3, gi, e1, e2, IRowK.below e3 hb (IRowK.lt e3)⟩
/-- Five stores: a whole copy. -/
def set5 (w : World) (g o : Nat) (v0 v1 v2 v3 v4 : Value) : World :=
  ((((w.setCell ⟨g, o, none⟩ v0).setCell ⟨g, o + 1, none⟩ v1).setCell ⟨g, o + 2, none⟩ v2).setCell ⟨g, o + 3, none⟩ v3).setCell ⟨g, o + 4, none⟩ v4
theorem set5_heap {w : World} {g o : Nat} {v0 v1 v2 v3 v4 : Value} {cs : Array Value} {t : TypeId} (h : w.heap[g]? = some (.cells cs t (0, 0))) :
    (set5 w g o v0 v1 v2 v3 v4).heap[g]? = some (.cells (((((cs.setIfInBounds o v0).setIfInBounds (o + 1) v1).setIfInBounds (o + 2) v2).setIfInBounds (o + 3) v3).setIfInBounds (o + 4) v4) t (0, 0)) := by
  unfold set5
  exact heap_setCell_same _ _ _ _ _ _ (heap_setCell_same _ _ _ _ _ _ (heap_setCell_same _ _ _ _ _ _ (heap_setCell_same _ _ _ _ _ _ (heap_setCell_same _ _ _ _ _ _ h))))
theorem set5_below {a w : World} {B g o : Nat} {v0 v1 v2 v3 v4 : Value} (h : Below B a w) (hg : B ≤ g) : Below B a (set5 w g o v0 v1 v2 v3 v4) :=
  ((((h.setCell (p := ⟨g, o, none⟩) hg _).setCell (p := ⟨g, o + 1, none⟩) hg _).setCell (p := ⟨g, o + 2, none⟩) hg _).setCell (p := ⟨g, o + 3, none⟩) hg _).setCell (p := ⟨g, o + 4, none⟩) hg _
theorem set5_far {k : IntKind} {t : TypeId} {w : World} {g' j n : Nat} {zs : List Int} (h : IRowK k t w g' zs j n) {g o : Nat} {v0 v1 v2 v3 v4 : Value} (hne : g' ≠ g) : IRowK k t (set5 w g o v0 v1 v2 v3 v4) g' zs j n :=
  ((((h.far (p := ⟨g, o, none⟩) hne).far (p := ⟨g, o + 1, none⟩) hne).far (p := ⟨g, o + 2, none⟩) hne).far (p := ⟨g, o + 3, none⟩) hne).far (p := ⟨g, o + 4, none⟩) hne
theorem set5_get {cs : Array Value} {n : Nat} (v0 v1 v2 v3 v4 : Value) (hs : cs.size = n * 5) (i j k : Nat) (hj : j < 5) (hk : k < n) (hi : i < n) :
    (((((cs.setIfInBounds (k * 5) v0).setIfInBounds (k * 5 + 1) v1).setIfInBounds (k * 5 + 2) v2).setIfInBounds (k * 5 + 3) v3).setIfInBounds (k * 5 + 4) v4)[i * 5 + j]? = if i = k then ([v0, v1, v2, v3, v4])[j]? else cs[i * 5 + j]? := by
  by_cases e : i = k
  · subst e
    rw [if_pos rfl]
    have : j = 0 ∨ j = 1 ∨ j = 2 ∨ j = 3 ∨ j = 4 := by omega
    rcases this with rfl | rfl | rfl | rfl | rfl
    all_goals
      simp only [Array.getElem?_setIfInBounds, Array.size_setIfInBounds]
      simp
      omega
  · rw [if_neg e]
    simp only [Array.getElem?_setIfInBounds]
    iterate 5 (rw [if_neg (by omega)])
theorem CRowK.step {w : World} {lo g k n gi : Nat} {xs : List Cp} (h : CRowK w lo g xs k n) (hk : k < xs.length) (hn : k < n) (hlo : lo = g) (hgi : lo < gi) (hr : IRow .i8 53 w gi xs[k].q) (hl : xs.length ≤ n) :
    CRowK (set5 w g (k * 5) (.int .i8 xs[k].st) (.int .i8 xs[k].who) (.int .i16 xs[k].due) (.int .i8 xs[k].ren) (.slice (some ⟨gi, 0, none⟩) xs[k].q.length xs[k].q.length)) lo g xs (k + 1) n := by
  obtain ⟨cs, h1, h2, h3⟩ := h
  refine ⟨_, set5_heap h1, by simpa using h2, fun i hi hik => ?_⟩
  have G := fun j hj => set5_get (.int .i8 xs[k].st) (.int .i8 xs[k].who) (.int .i16 xs[k].due) (.int .i8 xs[k].ren) (.slice (some ⟨gi, 0, none⟩) xs[k].q.length xs[k].q.length) h2 i j k hj hn (by omega)
  by_cases e : i = k
  · subst e
    simp only [if_pos] at G
    exact ⟨G 0 (by omega), G 1 (by omega), G 2 (by omega), G 3 (by omega), gi, G 4 (by omega), hgi, set5_far hr (by omega)⟩
  · simp only [if_neg e] at G
    obtain ⟨c0, c1, c2, c3, gj, e1, e2, e3⟩ := h3 i hi (by omega)
    exact ⟨(G 0 (by omega)).trans c0, (G 1 (by omega)).trans c1, (G 2 (by omega)).trans c2, (G 3 (by omega)).trans c3, gj, (G 4 (by omega)).trans e1, e2, set5_far e3 (by omega)⟩
theorem CRowK.cps {w : World} {lo g n : Nat} {xs : List Cp} (h : CRowK w lo g xs xs.length n) (c : Nat) : CpsOf w (.slice (some ⟨g, 0, none⟩) xs.length c) xs := by
  refine ⟨_, c, rfl, fun _ => ⟨g, 0, rfl, h.lt, fun i hi => ?_⟩⟩
  obtain ⟨cs, h1, h2, h3⟩ := h
  obtain ⟨c0, c1, c2, c3, gi, e1, e2, e3⟩ := h3 i hi hi
  have e : ∀ j, w.cell? ⟨g, 0 + i * 5 + j, none⟩ = cs[i * 5 + j]? := fun j => by rw [cell_of_row w g _ cs _ _ h1, Nat.zero_add]
  exact ⟨(e 0).trans c0, (e 1).trans c1, (e 2).trans c2, (e 3).trans c3, _, (e 4).trans e1, IRow.slice e3⟩
theorem infoCopy : (Try.prog.info? 61).map (fun i => (i.zero, i.size, i.bytes)) = some (some (.agg #[.int .i8 0, .int .i8 0, .int .i16 0, .int .i8 0, .slice none 0 0]), 5, 32) := by kernel_rfl

set_option maxHeartbeats 4000000 in
theorem toCopyS_any (v : Value) (xs : List Cp) (w : World) (hs : CpsOf w v xs) (hn : csz xs ≤ 1048576) :
    Calls Try.prog 12 #[v] w fun e w' => ∃ g, e = .returned (.slice (some ⟨g, 0, none⟩) xs.length xs.length) ∧ w.heap.size ≤ g ∧ CRowK w' g g xs xs.length xs.length ∧ Below w.heap.size w w' := by
  have HT := Lib.hid hs
  obtain ⟨A, c, rfl, hs⟩ := hs
  have hlen := csz_len xs
  obtain ⟨i0, hi, hz0, hz1, hz2⟩ := info_parts infoCopy
  have hmk := fun W => run_make_rowN (P := Try.prog) 29 61 i0 _ Try.underlying29 hi hz0 .i64 .i64 xs.length xs.length (Nat.le_refl _) (by rw [hz2]; omega) (by omega) W
  rw [hz1] at hmk
  have HM := Lib.hid (show CRowK (w.alloc (.cells (madeCells (Value.agg #[.int .i8 0, .int .i8 0, .int .i16 0, .int .i8 0, .slice none 0 0]).cells (xs.length * 5)) 61)) w.heap.size w.heap.size xs 0 xs.length from ⟨_, heap_alloc_new w _, size_madeCells _ _, fun _ _ h => absurd h (Nat.not_lt_zero _)⟩)
  have HR := Lib.hid (fun k (h : k < xs.length) => Nat.le_trans (csz_row h) hn)
  clear hi hz0 hz1 hz2 hs
  go_enter Try.func12, Try.ntmps12
  go_wp2
  go_loopw [4] (fun i wr => ∃ k : Nat, k ≤ xs.length ∧ i = .int .i64 k ∧ CRowK wr w.heap.size w.heap.size xs k xs.length ∧ Below w.heap.size w wr) (fun i _ => xs.length - (intOf i).toNat)
  case atStart => exact ⟨0, Nat.zero_le _, rfl, HM.out, (Below.refl _ _).alloc (Nat.le_refl _) _⟩
  case round =>
    obtain ⟨k, hk, rfl, hrow, hb⟩ := hrel
    have HW := Lib.hid hrow
    clear hrow
    by_cases hlt : k < xs.length
    · obtain ⟨A', c', e, hh⟩ := HT.out.below hb
      cases e
      obtain ⟨g, o, rfl, hg, hat⟩ := hh (by omega)
      obtain ⟨p0, p1, p2, p3, u, p4, hz⟩ := hat k hlt
      have HZ := Lib.hid hz
      obtain ⟨Ak, ck, rfl, -⟩ := hz
      clear hat hh
      go_wp2_with fail
      refine (toCopy_any xs[k] _ wr HZ.out (HR.out k hlt)).mono ?_
      rintro e w1 ⟨gk, rfl, hgk, hrk, h1⟩
      have W1 := Lib.hid (HW.out.below h1)
      have RK := Lib.hid hrk
      have hlo : w.heap.size < gk := by have := HW.out.lt; omega
      have B1 := Lib.hid (bnext hb h1)
      obtain ⟨⟨u0, q0⟩, ⟨u1, q1⟩, ⟨u2, q2⟩, ⟨u3, q3⟩, ⟨u4, q4⟩⟩ := W1.out.cells5 k hlt
      have fz := W1.out.frozen
      clear hrk p0 p1 p2 p3 p4
      go_wp2
      go_roundw
      case rel => exact ⟨k + 1, by omega, by go_num, W1.out.step hlt hlt rfl hlo RK.out (Nat.le_refl _), set5_below B1.out (Nat.le_refl _)⟩
      case measure => simp [intOf]; omega
    · obtain rfl : k = xs.length := by omega
      go_wp2
      go_ret
      exact ⟨_, rfl, Nat.le_refl _, HW.out, hb⟩

theorem CRowK.far {w : World} {lo g k n : Nat} {xs : List Cp} (h : CRowK w lo g xs k n) {p : Addr} (h1 : p.block < g) (h2 : p.block < lo) {u : Value} : CRowK (w.setCell p u) lo g xs k n := by
  obtain ⟨cs, h3, h4, h5⟩ := h
  refine ⟨cs, (Below.heap_setCell w p u g (by omega)).trans h3, h4, fun i hi hk => ?_⟩
  obtain ⟨c0, c1, c2, c3, gi, e1, e2, e3⟩ := h5 i hi hk
  exact ⟨c0, c1, c2, c3, gi, e1, e2, IRowK.far e3 (by omega)⟩
set_option maxHeartbeats 2000000 in
theorem toDesk_any (d : Dk) (hv : Value) (w : World) (hs : CpsOf w hv d.cs) (hn : csz d.cs ≤ 1048576) :
    Calls Try.prog 6 #[.agg #[.int .i16 d.day, hv]] w fun e w' => ∃ g, e = .returned (.agg #[.int .i16 d.day, .slice (some ⟨g, 0, none⟩) d.cs.length d.cs.length]) ∧ w.heap.size ≤ g ∧ CRowK w' g g d.cs d.cs.length d.cs.length ∧ Below w.heap.size w w' := by
  have HS := Lib.hid hs
  obtain ⟨A, k, rfl, -⟩ := hs
  go_enter Try.func6, Try.ntmps6
  have HB := Lib.hid (alloc3 w (.cells #[.int .i16 d.day, .slice A d.cs.length k] 25) (.cells #[.int .i16 0, .slice none 0 0] 31) (.cells #[.int .i16 d.day, .slice none 0 0] 31))
  go_wp2_with fail
  refine (toCopyS_any _ _ _ (HS.out.below (by go_grown)) hn).mono ?_
  rintro e w1 ⟨g, rfl, hg, hr, h1⟩
  have G1 := Lib.hid (bnext (show Below w.heap.size w _ by go_grown) h1)
  have b1 := (h1.block (w.heap.size + 1) (by simp)).trans HB.out.1
  have b2 := (h1.block (w.heap.size + 1 + 1) (by simp)).trans HB.out.2
  have HR := Lib.hid hr
  have HG := Lib.hid (show w.heap.size + 1 + 1 + 1 ≤ g by simpa using hg)
  clear hg hr h1
  have o0 := cell_of_row w1 _ 0 _ _ _ b2
  have o1 := cell_of_row w1 _ 1 _ _ _ b2
  have r0 := cell_of_row w1 _ 0 _ _ _ b1
  have r1 := cell_of_row w1 _ 1 _ _ _ b1
  have f2 := fun j => frozen_of_row w1 _ j _ _ b2
  have f1 := fun j => frozen_of_row w1 _ j _ _ b1
  simp only [List.getElem?_toArray, List.getElem?_cons_zero, List.getElem?_cons_succ] at o0 o1 r0 r1
  clear b1 b2
  go_wp2
  refine bodyPost_ret (v := .agg #[.int .i16 d.day, .slice (some ⟨g, 0, none⟩) d.cs.length d.cs.length]) (by simp [results, Try.results6, go_sem, r0, r1]) rfl ?_
  refine ⟨g, rfl, by have := HG.out; omega, ?_, ?_⟩
  · repeat (refine CRowK.far ?_ (by have := HG.out; simp; omega) (by have := HG.out; simp; omega))
    exact HR.out
  · repeat (refine Below.setCell ?_ (by first | (simp; done) | (simp; omega) | omega) _)
    exact G1.out

/-! ### the law's comparisons -/
set_option maxHeartbeats 2000000 in
theorem eqCopy_same (c : Cp) (h1 h2 : Value) (w : World) (s1 : IntsOf .i8 w h1 c.q) (s2 : IntsOf .i8 w h2 c.q) (hn : c.q.length ≤ maxLen) :
    Calls Try.prog 32 #[.agg #[.int .i8 c.st, .int .i8 c.who, .int .i16 c.due, .int .i8 c.ren, h1], .agg #[.int .i8 c.st, .int .i8 c.who, .int .i16 c.due, .int .i8 c.ren, h2]] w fun e w' => e = .returned (.bool true) ∧ Below w.heap.size w w' := by
  have H1 := Lib.hid s1
  have H2 := Lib.hid s2
  obtain ⟨A1, k1, rfl, -⟩ := s1
  obtain ⟨A2, k2, rfl, -⟩ := s2
  go_enter Try.func32, Try.ntmps32
  go_wp2_with fail
  refine (eqInt8S_same _ _ _ _ (H1.out.below (by go_grown)) (H2.out.below (by go_grown)) hn).mono ?_
  rintro e w1 ⟨rfl, hb⟩
  go_wp2
  go_ret
  exact ⟨rfl, bnext (show Below w.heap.size w _ by go_grown) hb⟩
set_option maxHeartbeats 4000000 in
theorem eqCopyS_same (v1 v2 : Value) (xs : List Cp) (w : World) (hs1 : CpsOf w v1 xs) (hs2 : CpsOf w v2 xs) (hr : ∀ c ∈ xs, c.q.length ≤ maxLen) (hn : xs.length ≤ maxLen) :
    Calls Try.prog 15 #[v1, v2] w fun e w' => e = .returned (.bool true) ∧ Below w.heap.size w w' := by
  have H1 := Lib.hid hs1
  have H2 := Lib.hid hs2
  have HR := Lib.hid hr
  obtain ⟨A1, c1, rfl, -⟩ := hs1
  obtain ⟨A2, c2, rfl, -⟩ := hs2
  unfold maxLen at hn
  clear hr
  go_enter Try.func15, Try.ntmps15
  go_wp2
  go_loopw [5] (fun i wr => ∃ k : Nat, k ≤ xs.length ∧ i = .int .i64 k ∧ Below w.heap.size w wr) (fun i _ => xs.length - (intOf i).toNat)
  case atStart => exact ⟨0, Nat.zero_le _, rfl, Below.refl _ _⟩
  case round =>
    obtain ⟨k, hk, rfl, hb⟩ := hrel
    by_cases hlt : k < xs.length
    · obtain ⟨A', c', e, hh⟩ := H1.out.below hb
      cases e
      obtain ⟨g1, o1, rfl, hg1, hat1⟩ := hh (by omega)
      obtain ⟨p0, p1, p2, p3, u1, p4, hz1⟩ := hat1 k hlt
      obtain ⟨A'', c'', e, hh2⟩ := H2.out.below hb
      cases e
      obtain ⟨g2, o2, rfl, hg2, hat2⟩ := hh2 (by omega)
      obtain ⟨q0, q1, q2, q3, u2, q4, hz2⟩ := hat2 k hlt
      have Z1 := Lib.hid hz1
      have Z2 := Lib.hid hz2
      have CE := Lib.hid (fun (p : BelowBy wr) => eqCopy_same xs[k] u1 u2 p.W (Z1.out.below p.h) (Z2.out.below p.h) (HR.out _ (List.getElem_mem hlt)))
      obtain ⟨B1, d1, rfl, -⟩ := hz1
      obtain ⟨B2, d2, rfl, -⟩ := hz2
      have p0 := belowBy_cell hg1 p0; have q0 := belowBy_cell hg2 q0
      have p1 := belowBy_cell hg1 p1; have q1 := belowBy_cell hg2 q1
      have p2 := belowBy_cell hg1 p2; have q2 := belowBy_cell hg2 q2
      have p3 := belowBy_cell hg1 p3; have q3 := belowBy_cell hg2 q3
      have p4 := belowBy_cell hg1 p4; have q4 := belowBy_cell hg2 q4
      clear hat1 hat2 hh hh2
      go_wp2
      refine wp_region_below (by kernel_rfl) (by kernel_rfl) ?_
      repeat (first | go_big_quiet_step ((go_at_call 32; exact calls_below (CE.out _))) | quiet_step ((go_at_call 32; exact calls_below (CE.out _))))
      refine wpQuiet_nil ?_
      rintro wq ⟨⟨_, hq⟩, rfl⟩
      clear p0 q0 p1 q1 p2 q2 p3 q3 p4 q4
      go_wp2
      go_roundw
      case rel => exact ⟨k + 1, by omega, by go_num, bnext hb hq⟩
      case measure => simp [intOf]; omega
    · obtain rfl : k = xs.length := by omega
      go_wp2
      go_ret
      exact ⟨rfl, hb⟩
set_option maxHeartbeats 2000000 in
theorem eqDesk_same (d : Dk) (h1 h2 : Value) (w : World) (s1 : CpsOf w h1 d.cs) (s2 : CpsOf w h2 d.cs) (hr : ∀ c ∈ d.cs, c.q.length ≤ maxLen) (hn : d.cs.length ≤ maxLen) :
    Calls Try.prog 8 #[.agg #[.int .i16 d.day, h1], .agg #[.int .i16 d.day, h2]] w fun e w' => e = .returned (.bool true) ∧ Below w.heap.size w w' := by
  have H1 := Lib.hid s1
  have H2 := Lib.hid s2
  obtain ⟨A1, k1, rfl, -⟩ := s1
  obtain ⟨A2, k2, rfl, -⟩ := s2
  have HR := Lib.hid hr
  clear hr
  go_enter Try.func8, Try.ntmps8
  go_wp2_with fail
  refine (eqCopyS_same _ _ _ _ (H1.out.below (by go_grown)) (H2.out.below (by go_grown)) HR.out hn).mono ?_
  rintro e w1 ⟨rfl, hb⟩
  go_wp2
  go_ret
  exact ⟨rfl, bnext (show Below w.heap.size w _ by go_grown) hb⟩
end Go.Proofs.Ytmafjncaigllbab
