/- Passes over a list, as plain lists, and by the model: contracts. Condition: at most 60 books, whose numbers lie within their kinds. -/
import Derived.Test.YtjfhpgomaahgoabSwpS
import Derived.Test.YtjfhpgomaahgoabMax
namespace Go.Proofs.Ytjfhpgomaahgoab
set_option linter.unusedSimpArgs false
set_option linter.unusedVariables false
set_option maxRecDepth 100000
open Go.RowKit Stab

def psK (a b k : Int) : Int := if a < b then k + 1 else k
/-- What is taken from here on, and in which pass: behind b, in pass k. -/
def psG : List Int → Int → Int → List (Int × Int)
  | [], _, _ => []
  | a :: t, b, k => (a, psK a b k) :: psG t a (psK a b k)
def psP (xs : List Bk) : List (Int × Int) := psG (srt xs) 0 1
def fillP (row : List Int) (L : List (Int × Int)) : List Int := L.foldl (fun r q => r.set q.1.toNat q.2) row
def psL (xs : List Bk) : List Int := fillP (List.replicate xs.length 0) (psP xs)
def lastP (L : List (Int × Int)) : Int := (L.getLast?.map Prod.snd).getD 0

theorem fillP_cons (row : List Int) (q : Int × Int) (L : List (Int × Int)) : fillP row (q :: L) = fillP (row.set q.1.toNat q.2) L := rfl
theorem fillP_snoc (row : List Int) (L : List (Int × Int)) (q : Int × Int) : fillP row (L ++ [q]) = (fillP row L).set q.1.toNat q.2 := by unfold fillP; rw [List.foldl_append]; rfl
theorem fillP_length (L : List (Int × Int)) : ∀ (row : List Int), (fillP row L).length = row.length := by
  induction L with
  | nil => intro row; rfl
  | cons q t ih => intro row; rw [fillP_cons, ih, List.length_set]
theorem psL_length (xs : List Bk) : (psL xs).length = xs.length := by unfold psL; rw [fillP_length, List.length_replicate]
theorem lastP_snoc (L : List (Int × Int)) (q : Int × Int) : lastP (L ++ [q]) = q.2 := by simp [lastP]
theorem psG_length (S : List Int) : ∀ (b k : Int), (psG S b k).length = S.length := by
  induction S with
  | nil => intro b k; rfl
  | cons a t ih => intro b k; rw [psG, List.length_cons, ih, List.length_cons]
theorem psG_mem (S : List Int) : ∀ (b k : Int) (q : Int × Int), q ∈ psG S b k → q.1 ∈ S := by
  induction S with
  | nil => intro b k q h; cases h
  | cons a t ih =>
    intro b k q h
    rw [psG, List.mem_cons] at h
    rcases h with rfl | h
    · exact List.mem_cons_self
    · exact List.mem_cons_of_mem _ (ih _ _ _ h)
theorem psG_cons {S : List Int} {p : Nat} {b k : Int} (h : p < S.length) : psG (S.drop p) b k = (S[p], psK S[p] b k) :: psG (S.drop (p + 1)) S[p] (psK S[p] b k) := by
  rw [List.drop_eq_getElem_cons h, psG]
theorem psG_nil {S : List Int} {p : Nat} {b k : Int} (h : S.length ≤ p) : psG (S.drop p) b k = [] := by rw [List.drop_eq_nil_of_le h, psG]
theorem psG_move {S : List Int} {p : Nat} {i k : Int} (h : ∀ (hp : p < S.length), S[p] ≠ i) : psG (S.drop p) (i + 1) k = psG (S.drop p) i k := by
  rcases Nat.lt_or_ge p S.length with hp | hp
  · have e : psK S[p] (i + 1) k = psK S[p] i k := by
      have := h hp
      unfold psK
      by_cases h1 : S[p] < i
      · rw [if_pos h1, if_pos (by omega)]
      · rw [if_neg h1, if_neg (by omega)]
    rw [psG_cons hp, psG_cons hp, e]
  · rw [psG_nil hp, psG_nil hp]
theorem psG_end {S : List Int} {p : Nat} {n k : Int} (h : ∀ (hp : p < S.length), 0 ≤ S[p] ∧ S[p] < n) : psG (S.drop p) n k = psG (S.drop p) 0 (k + 1) := by
  rcases Nat.lt_or_ge p S.length with hp | hp
  · have e : psK S[p] n k = psK S[p] 0 (k + 1) := by
      have := h hp
      unfold psK
      rw [if_pos (by omega), if_neg (by omega)]
    rw [psG_cons hp, psG_cons hp, e]
  · rw [psG_nil hp, psG_nil hp]
theorem psG_hit {S : List Int} {p : Nat} {i k : Int} (hp : p < S.length) (e : S[p] = i) : psG (S.drop p) i k = (i, k) :: psG (S.drop (p + 1)) i k := by
  have e2 : psK S[p] i k = k := by unfold psK; rw [if_neg (by omega)]
  rw [psG_cons hp, e2, e]

theorem rk_at {xs : List Bk} (wf : ∀ b ∈ xs, b.Wf) {p i : Nat} (hi : i < xs.length) : rk xs (i : Int) = p ↔ ∃ h : p < (srt xs).length, (srt xs)[p] = (i : Int) := by
  have hm : (i : Int) ∈ rngI xs.length := rngI_mem.2 (by omega)
  constructor
  · intro h
    obtain ⟨q, hq, e⟩ := List.getElem_of_mem ((srt_ok wf).1.mem_iff.2 hm)
    have h2 := (rk_iff wf hq hm).2 e.symm
    have : p = q := by omega
    subst this
    exact ⟨hq, e⟩
  · rintro ⟨h, e⟩
    exact (rk_iff wf h hm).2 e.symm
theorem srt_ne {xs : List Bk} (wf : ∀ b ∈ xs, b.Wf) {p q : Nat} (hp : p < (srt xs).length) (hq : q < (srt xs).length) (h : p ≠ q) : (srt xs)[p] ≠ (srt xs)[q] := fun e => h (nd_inj (srt_nodup wf) hp hq e)

/-- The greatest of the passes is the last. -/
theorem fillP_max (S : List Int) : ∀ (b k : Int) (row : List Int), (∀ y ∈ row, y ≤ k) → (∀ a ∈ S, 0 ≤ a ∧ a < row.length) →
    ∃ K, k ≤ K ∧ (∀ y ∈ fillP row (psG S b k), y ≤ K) ∧ (psG S b k ≠ [] → K ∈ fillP row (psG S b k) ∧ lastP (psG S b k) = K) := by
  induction S with
  | nil => intro b k row h _; exact ⟨k, Int.le_refl _, h, fun h => absurd rfl h⟩
  | cons a t ih =>
    intro b k row h ha
    have hk : k ≤ psK a b k := by unfold psK; split <;> omega
    have ha0 := ha a List.mem_cons_self
    generalize hk' : psK a b k = k' at hk
    have h' : ∀ y ∈ row.set a.toNat k', y ≤ k' := by
      intro y hy
      rcases List.mem_or_eq_of_mem_set hy with hy | rfl
      · have := h y hy; omega
      · exact Int.le_refl _
    rw [psG, hk', fillP_cons]
    cases t with
    | nil => exact ⟨k', hk, h', fun _ => ⟨List.mem_set (by show a.toNat < row.length; omega) _, rfl⟩⟩
    | cons c t =>
      obtain ⟨K, h1, h2, h3⟩ := ih a k' (row.set a.toNat k') h' (fun x hx => by rw [List.length_set]; exact ha x (List.mem_cons_of_mem _ hx))
      obtain ⟨f1, f2⟩ := h3 (by rw [psG]; exact List.cons_ne_nil _ _)
      refine ⟨K, by omega, h2, fun _ => ⟨f1, ?_⟩⟩
      rw [← f2]
      rw [psG]
      simp [lastP]

def mxG (l : List Int) (m : Int) : Int := l.foldl (fun m x => if m < x then x else m) m
theorem mxG_drop {l : List Int} {i : Nat} {m : Int} (h : i < l.length) : mxG (l.drop i) m = mxG (l.drop (i + 1)) (if m < l[i] then l[i] else m) := by
  rw [List.drop_eq_getElem_cons h]; rfl
theorem mxG_end {l : List Int} {i : Nat} {m : Int} (h : l.length ≤ i) : mxG (l.drop i) m = m := by rw [List.drop_eq_nil_of_le h]; rfl
theorem mxG_bd (l : List Int) : ∀ (m K : Int), m ≤ K → (∀ y ∈ l, y ≤ K) → m ≤ mxG l m ∧ mxG l m ≤ K ∧ ∀ y ∈ l, y ≤ mxG l m := by
  induction l with
  | nil => intro m K h _; exact ⟨Int.le_refl _, h, fun y hy => by cases hy⟩
  | cons a t ih =>
    intro m K h hk
    have ha := hk a List.mem_cons_self
    obtain ⟨h1, h2, h3⟩ := ih (if m < a then a else m) K (by split <;> omega) (fun y hy => hk y (List.mem_cons_of_mem _ hy))
    have e : mxG (a :: t) m = mxG t (if m < a then a else m) := rfl
    rw [e]
    have h4 : m ≤ (if m < a then a else m) ∧ a ≤ (if m < a then a else m) := by split <;> omega
    refine ⟨by omega, h2, fun y hy => ?_⟩
    rcases List.mem_cons.1 hy with rfl | hy
    · omega
    · exact h3 y hy
theorem psL_max {xs : List Bk} (wf : ∀ b ∈ xs, b.Wf) : mxG (psL xs) 0 = lastP (psP xs) := by
  obtain ⟨K, h1, h2, h3⟩ := fillP_max (srt xs) 0 1 (List.replicate xs.length 0) (by intro y hy; have := (List.mem_replicate.1 hy).2; omega) (by
    intro a ha
    rw [List.length_replicate]
    exact rngI_mem.1 ((srt_ok wf).1.mem_iff.1 ha))
  by_cases e : psP xs = []
  · have hn : xs.length = 0 := by
      have := congrArg List.length e
      unfold psP at this
      rw [psG_length, srt_length wf] at this
      simpa using this
    have e2 : psL xs = [] := by unfold psL; rw [e, hn]; rfl
    rw [e2, e]; rfl
  · obtain ⟨f1, f2⟩ := h3 e
    obtain ⟨g1, g2, g3⟩ := mxG_bd (psL xs) 0 K (by omega) h2
    have := g3 K f1
    show mxG (psL xs) 0 = lastP (psG (srt xs) 0 1)
    rw [f2]
    omega

/-- Block g is just this row of numbers. -/
def RowZ (w : World) (g : Nat) (l : List Int) : Prop := ∃ cs : Array Value, w.heap[g]? = some (.cells cs 2 (0, 0)) ∧ cs.toList = l.map (Value.int .i64)
section
variable {w w' : World} {g : Nat} {l : List Int}
theorem RowZ.lt (h : RowZ w g l) : g < w.heap.size := by
  obtain ⟨cs, h, _⟩ := h
  exact (Array.getElem?_eq_some_iff.1 h).1
theorem RowZ.cell (h : RowZ w g l) (i : Nat) (hi : i < l.length) : w.cell? ⟨g, i, none⟩ = some (.int .i64 (l.getD i default)) := by
  obtain ⟨cs, h, h3⟩ := h
  rw [cell_of_row w g _ cs _ _ h, ← Array.getElem?_toList, h3]
  simp [List.getD, List.getElem?_eq_getElem hi]
theorem RowZ.frozen (h : RowZ w g l) (o : Nat) : w.frozen? ⟨g, o, none⟩ = false := by
  obtain ⟨cs, h, _⟩ := h
  exact frozen_of_row w g _ cs _ h
theorem RowZ.put (h : RowZ w g l) (i : Nat) (z : Int) : RowZ (w.setCell ⟨g, i, none⟩ (.int .i64 z)) g (l.set i z) := by
  obtain ⟨cs, h1, h2⟩ := h
  exact ⟨_, heap_setCell_same _ _ _ _ _ _ h1, by rw [Array.toList_setIfInBounds, h2, List.map_set]⟩
theorem RowZ.below (h : RowZ w g l) (hb : Below w.heap.size w w') : RowZ w' g l := by
  have hlt := h.lt
  obtain ⟨cs, h1, h2⟩ := h
  exact ⟨cs, (hb.block g hlt).trans h1, h2⟩
theorem RowZ.kept {row : Option Nat} (h : RowZ w g l) (hg : w.grownBy w' row) (hne : some g ≠ row) : RowZ w' g l := by
  have hlt := h.lt
  obtain ⟨cs, h1, h2⟩ := h
  exact ⟨cs, (hg.block g hlt hne).trans h1, h2⟩
theorem RowZ.owns {base : Nat} (h : RowZ w g l) (hb : base ≤ g) (hn : l.length ≤ maxLen) : w.ownsRow base 2 1 (.slice (some ⟨g, 0, none⟩) l.length l.length) l.length (l.map (Value.int .i64)) := by
  obtain ⟨cs, h1, h2⟩ := h
  have hs : cs.size = l.length := by rw [← Array.length_toList, h2, List.length_map]
  exact ⟨by simp, .inr ⟨g, l.length, cs, rfl, hb, h1, Nat.le_refl _, hn, by omega, by rw [h2, List.take_of_length_le (by simp)]⟩⟩
end
theorem RowZ.made (w : World) (n : Nat) : RowZ (w.alloc (.cells (madeCells (Value.int .i64 0).cells n) 2)) w.heap.size (List.replicate n 0) :=
  ⟨_, heap_alloc_new w _, by rw [show (Value.int .i64 0).cells = #[Value.int .i64 0] from rfl, toList_madeCells_one, List.map_replicate]⟩

set_option maxHeartbeats 8000000 in
theorem l03Passes_any (v0 : Value) (xs : List Bk) (wf : ∀ b ∈ xs, b.Wf) (w : World) (hs : SliceOf w v0 xs) (h60 : xs.length ≤ 60) :
    Calls Try.prog 77 #[v0] w fun e w' => ∃ g, e = .returned (.slice (some ⟨g, 0, none⟩) xs.length xs.length) ∧ w.heap.size ≤ g ∧ RowZ w' g (psL xs) ∧ Below w.heap.size w w' := by
  obtain ⟨i0, hi0, hz0, hz1, hz2⟩ := info_parts infoRk
  have hmk := fun W => run_make_rowN (P := Try.prog) 53 2 i0 _ Try.underlying53 hi0 hz0 .i64 .i64 xs.length xs.length (Nat.le_refl _) (by rw [hz2]; omega) (by omega) W
  rw [hz1, Nat.mul_one] at hmk
  have WF := Lib.hid wf
  have CC := Lib.hid (l03Ranks_any v0 xs wf w hs h60)
  have SLN := Lib.hid (srt_length wf)
  have SIN := Lib.hid (fun (p : Nat) (h : p < (srt xs).length) => srt_in wf h)
  obtain ⟨A0, k0, rfl, -⟩ := hs
  clear hi0 hz0 hz1 hz2 wf
  go_enter Try.func77, Try.ntmps77
  go_wp2_with fail
  refine (CC.out).mono ?_
  rintro e w1 ⟨v1, rfl, ho, g1⟩
  have HQ := Lib.hid (show 0 < xs.length → ∃ g c, v1 = .slice (some ⟨g, 0, none⟩) xs.length c ∧ RowT 2 w1 g xs.length (rksT xs xs.length) by
    intro h0
    obtain ⟨g, c, rfl⟩ : ∃ g c, v1 = .slice (some ⟨g, 0, none⟩) xs.length c := by
      rcases ho.2 with ⟨_, h⟩ | ⟨g, cap, cur, h, _⟩
      · omega
      · exact ⟨g, cap, h⟩
    exact ⟨g, c, rfl, (rowT_of_own ho (by rw [rksT_length])).2⟩)
  obtain ⟨A1, c1, rfl⟩ := vlen_own1 ho
  have G1 := Lib.hid g1
  have H0 := Lib.hid (RowZ.made w1 xs.length)
  have P0 := Lib.hid (show fillP (List.replicate xs.length 0) (psG ((srt xs).drop 0) 0 1) = psL xs by rw [List.drop_zero]; rfl)
  have B0 := Lib.hid (show Below w1.heap.size w1 (w1.alloc (.cells (madeCells (Value.int .i64 0).cells xs.length) 2)) from (Below.refl _ _).alloc (Nat.le_refl _) _)
  have HR := Lib.hid (show 0 < xs.length → ∃ g, A1 = some ⟨g, 0, none⟩ ∧ RowT 2 w1 g xs.length (rksT xs xs.length) by
    intro h0
    obtain ⟨g, c, e, h⟩ := HQ.out h0
    injection e with e1
    exact ⟨g, e1, h⟩)
  clear ho CC g1 HQ
  go_wp2
  go_loopw [5, 6] (fun n_ k_ wr => ∃ (p k : Nat) (row : List Int), p ≤ xs.length ∧ k ≤ p + 1 ∧ n_ = .int .i64 (p : Int) ∧ k_ = .int .i64 (k : Int) ∧ fillP row (psG ((srt xs).drop p) 0 (k : Int)) = psL xs ∧ row.length = xs.length ∧ RowZ wr w1.heap.size row ∧ Below w1.heap.size w1 wr) (fun n_ _ _ => xs.length - (intOf n_).toNat)
  case atStart => exact ⟨0, 1, _, Nat.zero_le _, Nat.le_refl _, rfl, rfl, P0.out, List.length_replicate .., H0.out, B0.out⟩
  case round =>
    obtain ⟨p, k, row, hp, hk, rfl, rfl, hf, hl, hz, hb⟩ := hrel
    have HF := Lib.hid hf
    have HL := Lib.hid hl
    have HZ := Lib.hid hz
    have HB := Lib.hid hb
    clear hf hl hz hb
    by_cases hlt : p < xs.length
    · obtain ⟨gr, rfl, hr⟩ := HR.out (by omega)
      have HRR := Lib.hid hr
      clear hr
      have HI := Lib.hid (show ∀ h : p < (srt xs).length, (0 : Int) ≤ (srt xs)[p] from fun h => (SIN.out p h).1)
      go_wp2
      go_loopw [5, 7] (fun n_ i_ wr => ∃ (q i : Nat) (row : List Int), q ≤ xs.length ∧ i ≤ xs.length ∧ n_ = .int .i64 (q : Int) ∧ i_ = .int .i64 (i : Int) ∧ fillP row (psG ((srt xs).drop q) (i : Int) (k : Int)) = psL xs ∧ row.length = xs.length ∧ RowZ wr w1.heap.size row ∧ Below w1.heap.size w1 wr ∧ (p < q ∨ (p = q ∧ ∀ h : p < (srt xs).length, (i : Int) ≤ (srt xs)[p]))) (fun _ i_ _ => xs.length - (intOf i_).toNat)
      case atStart => exact ⟨p, 0, row, hp, Nat.zero_le _, rfl, rfl, HF.out, HL.out, HZ.out, HB.out, .inr ⟨rfl, HI.out⟩⟩
      case round =>
        obtain ⟨q, i, row, hq, hi, rfl, rfl, hf, hl, hz, hb, hor⟩ := hrel
        have HF := Lib.hid hf
        have HL := Lib.hid hl
        have HZ := Lib.hid hz
        have HB := Lib.hid hb
        have HO := Lib.hid hor
        clear hf hl hz hb hor
        by_cases hli : i < xs.length
        · have RK := Lib.hid (rk_at (p := q) WF.out hli)
          have q0 := (HRR.out.below HB.out).cell i hli
          rw [show (rksT xs xs.length).getD i default = (rk xs (i : Int) : Int) by rw [getD_get (by rw [rksT_length]; exact hli), rksT_get]] at q0
          have f0 := HZ.out.frozen
          obtain ⟨u0, c0⟩ : ∃ u, wr.cell? ⟨w1.heap.size, i, none⟩ = some u := ⟨_, HZ.out.cell i (by rw [HL.out]; exact hli)⟩
          by_cases hrk : rk xs (i : Int) = q
          · have d : ((rk xs (i : Int) : Int) == (q : Int)) = true := by rw [beq_iff_eq]; omega
            have d' : (rk xs (i : Int) == q) = true := by rw [beq_iff_eq]; exact hrk
            obtain ⟨hqs, he⟩ := RK.out.1 hrk
            have hqn : q < xs.length := by have := SLN.out; omega
            have HF2 := Lib.hid (show fillP (row.set i (k : Int)) (psG ((srt xs).drop (q + 1)) ((i + 1 : Nat) : Int) (k : Int)) = psL xs by
              rw [← HF.out, psG_hit hqs he, fillP_cons, Int.toNat_natCast, Int.natCast_add]
              rw [show ((1 : Nat) : Int) = 1 from rfl, psG_move (fun h => by rw [← he]; exact srt_ne WF.out h hqs (by omega))])
            have HL2 := Lib.hid (show (row.set i (k : Int)).length = xs.length by rw [List.length_set]; exact HL.out)
            have HZ2 := Lib.hid (HZ.out.put i (k : Int))
            have HB2 := Lib.hid (show Below w1.heap.size w1 (wr.setCell ⟨w1.heap.size, i, none⟩ (.int .i64 (k : Int))) from HB.out.setCell (p := ⟨w1.heap.size, i, none⟩) (Nat.le_refl _) _)
            have HO2 := Lib.hid (show p < q + 1 by rcases HO.out with h | ⟨h, _⟩ <;> omega)
            clear he hqs
            generalize rk xs (i : Int) = r at q0 d d' hrk
            clear hrk
            go_wp2
            go_roundw
            case rel => exact ⟨q + 1, i + 1, row.set i (k : Int), by omega, by omega, by go_num, by go_num, HF2.out, HL2.out, HZ2.out, HB2.out, .inl HO2.out⟩
            case measure => simp [intOf]; omega
          · have d : ((rk xs (i : Int) : Int) == (q : Int)) = false := by rw [beq_eq_false_iff_ne]; omega
            have d' : (rk xs (i : Int) == q) = false := by rw [beq_eq_false_iff_ne]; exact hrk
            have hne := Lib.hid (show ∀ (h : q < (srt xs).length), (srt xs)[q] ≠ (i : Int) from fun h e => hrk (RK.out.2 ⟨h, e⟩))
            have HF2 := Lib.hid (show fillP row (psG ((srt xs).drop q) ((i + 1 : Nat) : Int) (k : Int)) = psL xs by
              rw [← HF.out, Int.natCast_add, show ((1 : Nat) : Int) = 1 from rfl, psG_move (fun h => hne.out h)])
            have HO2 := Lib.hid (show p < q ∨ (p = q ∧ ∀ h : p < (srt xs).length, ((i + 1 : Nat) : Int) ≤ (srt xs)[p]) by
              rcases HO.out with h | ⟨rfl, h2⟩
              · exact .inl h
              · exact .inr ⟨rfl, fun h => by have := h2 h; have := hne.out h; omega⟩)
            generalize rk xs (i : Int) = r at q0 d d' hrk
            clear hrk c0 f0
            go_wp2
            go_roundw
            case rel => exact ⟨q, i + 1, row, by omega, by omega, rfl, by go_num, HF2.out, HL.out, HZ.out, HB.out, HO2.out⟩
            case measure => simp [intOf]; omega
        · obtain rfl : i = xs.length := by omega
          have hpq : p < q := by
            rcases HO.out with h | ⟨h, h2⟩
            · exact h
            · have h3 : p < (srt xs).length := by have := SLN.out; omega
              have := h2 h3
              have := SIN.out p h3
              omega
          have HF2 := Lib.hid (show fillP row (psG ((srt xs).drop q) 0 ((k + 1 : Nat) : Int)) = psL xs by
            rw [← HF.out, Int.natCast_add, show ((1 : Nat) : Int) = 1 from rfl, psG_end (fun h => SIN.out q h)])
          go_wp2
          go_roundw
          case rel => exact ⟨q, k + 1, row, hq, by omega, rfl, by go_num, HF2.out, HL.out, HZ.out, HB.out⟩
          case measure => simp [intOf]; omega
    · obtain rfl : p = xs.length := by omega
      have EE := Lib.hid (show row = psL xs by rw [← HF.out, psG_nil (by rw [SLN.out]; exact Nat.le_refl _)]; rfl)
      go_wp2
      go_ret
      exact ⟨_, rfl, G1.out.size, by rw [← EE.out]; exact HZ.out, bnext G1.out HB.out⟩

end Go.Proofs.Ytjfhpgomaahgoab
