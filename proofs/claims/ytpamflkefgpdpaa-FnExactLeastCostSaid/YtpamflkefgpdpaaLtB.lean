/- Layouts with the least sum: the plain form; bestRow, a contract. Condition: a valid case and list. -/
import Derived.Test.YtpamflkefgpdpaaLtT
import Derived.Laws.ResultCell
namespace Go.Proofs.Ytpamflkefgpdpaa
set_option linter.unusedSimpArgs false
set_option linter.unusedVariables false
set_option maxRecDepth 100000
open Go.RowKit

/-- The last of the first d rows from book i on with which the number v is kept. -/
def pickF (price nxt : Nat → Int) (i : Nat) (v : Int) : Nat → Nat
  | 0 => 0
  | d + 1 => if nxt (i + d) ≠ -1 ∧ nxt (i + d) + price (i + d) = v then i + d else pickF price nxt i v d
theorem pickF_le {price nxt : Nat → Int} {i : Nat} {v : Int} : ∀ d, pickF price nxt i v d ≤ i + d
  | 0 => Nat.zero_le _
  | d + 1 => by
    have := pickF_le (price := price) (nxt := nxt) (i := i) (v := v) d
    rw [pickF]
    split <;> omega
theorem bestF_found {price nxt : Nat → Int} {i : Nat} : ∀ d, bestF price nxt i d ≠ -1 → ∃ e, e < d ∧ nxt (i + e) ≠ -1 ∧ nxt (i + e) + price (i + e) = bestF price nxt i d
  | 0, h => absurd rfl h
  | d + 1, h => by
    rw [bestF] at h ⊢
    split
    · next hc => exact ⟨d, by omega, hc.1, rfl⟩
    · next hc =>
      rw [if_neg hc] at h
      obtain ⟨e, h1, h2, h3⟩ := bestF_found d h
      exact ⟨e, by omega, h2, h3⟩
/-- What is picked keeps the number. -/
theorem pickF_spec {price nxt : Nat → Int} {i : Nat} {v : Int} : ∀ d e, e < d → nxt (i + e) ≠ -1 → nxt (i + e) + price (i + e) = v → ∃ e', e' < d ∧ pickF price nxt i v d = i + e' ∧ nxt (i + e') ≠ -1 ∧ nxt (i + e') + price (i + e') = v ∧ ∀ k, e' < k → k < d → ¬ (nxt (i + k) ≠ -1 ∧ nxt (i + k) + price (i + k) = v)
  | 0, e, h, _, _ => absurd h (Nat.not_lt_zero _)
  | d + 1, e, h, h1, h2 => by
    rw [pickF]
    by_cases hc : nxt (i + d) ≠ -1 ∧ nxt (i + d) + price (i + d) = v
    · rw [if_pos hc]
      exact ⟨d, by omega, rfl, hc.1, hc.2, fun k h3 h4 => by omega⟩
    · rw [if_neg hc]
      have he : e < d := by
        rcases Nat.lt_or_ge e d with h3 | h3
        · exact h3
        · obtain rfl : e = d := by omega
          exact absurd ⟨h1, h2⟩ hc
      obtain ⟨e', a1, a2, a3, a4, a5⟩ := pickF_spec d e he h1 h2
      refine ⟨e', by omega, a2, a3, a4, fun k h3 h4 => ?_⟩
      by_cases hk : k = d
      · subst hk; exact hc
      · exact a5 k h3 (by omega)
/-- The book from which on a shelf is filled. -/
def atF (c : Cs) (xs : List Bk) (u : Bool) : Nat → Nat
  | 0 => 0
  | s + 1 => pickF (fun k => priceS c s (part xs (atF c xs u s) k) u) (numV c xs u (s + 1)) (atF c xs u s) (numV c xs u s (atF c xs u s)) (cntR c s xs (atF c xs u s))
structure AtP (c : Cs) (xs : List Bk) (u : Bool) (s : Nat) : Prop where
  le : atF c xs u s ≤ xs.length
  ok : numV c xs u s (atF c xs u s) ≠ -1
theorem AtP.step {c : Cs} {xs : List Bk} {u : Bool} {s : Nat} (h : AtP c xs u s) (hs : s < c.hs.length) : AtP c xs u (s + 1) ∧
    ∃ e, e < cntR c s xs (atF c xs u s) ∧ atF c xs u (s + 1) = atF c xs u s + e ∧ numV c xs u (s + 1) (atF c xs u s + e) + priceS c s (part xs (atF c xs u s) (atF c xs u s + e)) u = numV c xs u s (atF c xs u s) ∧
      ∀ k, e < k → k < cntR c s xs (atF c xs u s) → ¬ (numV c xs u (s + 1) (atF c xs u s + k) ≠ -1 ∧ numV c xs u (s + 1) (atF c xs u s + k) + priceS c s (part xs (atF c xs u s) (atF c xs u s + k)) u = numV c xs u s (atF c xs u s)) := by
  have h1 := h.ok
  rw [numV_step hs] at h1
  obtain ⟨e, e1, e2, e3⟩ := bestF_found _ h1
  rw [← numV_step hs] at e3
  obtain ⟨e', a1, a2, a3, a4, a5⟩ := pickF_spec (price := fun k => priceS c s (part xs (atF c xs u s) k) u) (nxt := numV c xs u (s + 1)) _ e e1 e2 e3
  have a2' : atF c xs u (s + 1) = atF c xs u s + e' := a2
  have hb := (cntR_le (c := c) (s := s) h.le).2
  exact ⟨⟨by rw [a2']; omega, by rw [a2']; exact a3⟩, e', a1, a2', a4, a5⟩
def llC (c : Cs) (xs : List Bk) (u : Bool) : Int := if askB c xs then (if numV c xs u 0 0 = -1 then 6 else 0) else 1
def llV (c : Cs) (xs : List Bk) (u : Bool) : Int := if llC c xs u = 0 then numV c xs u 0 0 else 0
def endTo (c : Cs) (xs : List Bk) (u : Bool) : Nat → List Int
  | 0 => []
  | s + 1 => endTo c xs u s ++ [(atF c xs u (s + 1) : Int)]
theorem endTo_length (c : Cs) (xs : List Bk) (u : Bool) : ∀ k, (endTo c xs u k).length = k
  | 0 => rfl
  | k + 1 => by rw [endTo, List.length_append, endTo_length c xs u k]; rfl
def llL (c : Cs) (xs : List Bk) (u : Bool) : List Int := if llC c xs u = 0 then endTo c xs u c.hs.length else []
theorem ll_cases (c : Cs) (xs : List Bk) (u : Bool) : (askB c xs = false ∧ askCode c xs = 1 ∧ llC c xs u = 1 ∧ llV c xs u = 0 ∧ llL c xs u = []) ∨
    (askB c xs = true ∧ askCode c xs = 0 ∧ caseB c = true ∧ okB xs = true ∧ numV c xs u 0 0 = -1 ∧ llC c xs u = 6 ∧ llV c xs u = 0 ∧ llL c xs u = []) ∨
    (askB c xs = true ∧ askCode c xs = 0 ∧ caseB c = true ∧ okB xs = true ∧ numV c xs u 0 0 ≠ -1 ∧ llC c xs u = 0 ∧ llV c xs u = numV c xs u 0 0 ∧ llL c xs u = endTo c xs u c.hs.length) := by
  unfold llV llL llC
  rcases ask_two2 c xs with ⟨h1, h2⟩ | ⟨h1, h2, h3, h4⟩
  · left; rw [h1]; simp [h2]
  · right
    by_cases h : numV c xs u 0 0 = -1
    · left; rw [h1]; simp [h, h2, h3, h4]
    · right; rw [h1]; simp [h, h2, h3, h4]
theorem llL_len (c : Cs) (xs : List Bk) (u : Bool) : (llL c xs u).length ≤ 12 := by
  rcases ll_cases c xs u with ⟨_, _, _, _, h⟩ | ⟨_, _, _, _, _, _, _, h⟩ | ⟨_, _, h3, _, _, _, _, h⟩
  · rw [h]; simp
  · rw [h]; simp
  · rw [h, endTo_length]; exact (caseB_lens h3).2

/-- A box that holds a row up to book k. -/
def BX (W : World) (p k : Nat) : Prop := ∃ (X : Option Addr) (a : Nat) (f : Int), W.heap[p]? = some (.cells #[.int .i64 (a : Int), .slice X (k - a) (k - a), .int .i64 f] 118 (0, 0)) ∧ a ≤ k ∧ k ≤ 60
theorem BX.below {W W' : World} {p k B : Nat} (h : BX W p k) (hb : Below B W W') (hp : p < B) : BX W' p k := by
  obtain ⟨X, a, f, h1, h2⟩ := h
  exact ⟨X, a, f, (hb.block p hp).trans h1, h2⟩
theorem put3 {W : World} {p : Nat} {t : TypeId} {x y z x' y' z' : Value} (h : W.heap[p]? = some (.cells #[x, y, z] t (0, 0))) : (((W.setCell ⟨p, 0, none⟩ x').setCell ⟨p, 1, none⟩ y').setCell ⟨p, 2, none⟩ z').heap[p]? = some (.cells #[x', y', z'] t (0, 0)) := by
  have h1 : (W.setCell ⟨p, 0, none⟩ x').heap[p]? = _ := heap_setCell_same _ _ _ _ _ _ h
  have h2 : ((W.setCell ⟨p, 0, none⟩ x').setCell ⟨p, 1, none⟩ y').heap[p]? = _ := heap_setCell_same _ _ _ _ _ _ h1
  have h3 : (((W.setCell ⟨p, 0, none⟩ x').setCell ⟨p, 1, none⟩ y').setCell ⟨p, 2, none⟩ z').heap[p]? = _ := heap_setCell_same _ _ _ _ _ _ h2
  rw [h3]
  rfl

set_option maxHeartbeats 16000000 in
theorem bestRow_any (u : Bool) (c : Cs) (hv : Value) (A : Option Addr) (m : Nat) (xs : List Bk) (s i : Nat) (wc : c.Wf) (wf : ∀ b ∈ xs, b.Wf) (w : World) (sc : IntsOf .i16 w hv c.hs) (h1 : caseB c = true) (sl : SliceOf w (.slice A xs.length m) xs) (hm : xs.length ≤ m) (h2 : okB xs = true) (g : Nat) (lo : Nat → Nat) (tp : TP w lo g (c.hs.length + 1) (xs.length + 1) (fun s => some (numR c xs u s))) (hs : s < c.hs.length) (hi : i < xs.length + 1) :
    Calls Try.prog 90 #[.agg #[.int .i16 c.wi, .int .i32 c.lo, hv], .slice A xs.length m, .int .i64 ((uM u : Nat) : Int), .slice (some ⟨g, 0, none⟩) (c.hs.length + 1) (c.hs.length + 1), .int .i64 (s : Int), .int .i64 (i : Int)] w fun e w' => ∃ (X : Option Addr) (a k : Nat) (f : Int), e = .returned (.agg #[.int .i64 (a : Int), .slice X (k - a) (k - a), .int .i64 f]) ∧ a ≤ k ∧ k ≤ 60 ∧ k = pickF (fun k => priceS c s (part xs i k) u) (numV c xs u (s + 1)) i (numV c xs u s i) (cntR c s xs i) ∧ Below w.heap.size w w' := by
  obtain ⟨cl1, cl2⟩ := caseB_lens h1
  have h60 := okB_len h2
  have hin : i ≤ xs.length := by omega
  have hs1 : s + 1 < c.hs.length + 1 := by omega
  have hs0 : s < c.hs.length + 1 := by omega
  obtain ⟨b, t0, tlo, -, tb, tl, tn⟩ := tp.at_ hs1 rfl
  obtain ⟨b0, t00, -, -, tb0, -, tn0⟩ := tp.at_ hs0 rfl
  have TN := Lib.hid (fun k (h : k < xs.length + 1) => show w.cell? ⟨b, k, none⟩ = some (.int .i64 (numV c xs u (s + 1) k)) by have := (tn k h).1; rw [numR_getD h] at this; exact this)
  have TI := Lib.hid (show w.cell? ⟨b0, i, none⟩ = some (.int .i64 (numV c xs u s i)) by have := (tn0 i hi).1; rw [numR_getD hi] at this; exact this)
  have SL := Lib.hid sl
  have WC := Lib.hid wc
  have WF := Lib.hid wf
  have K1 := Lib.hid h1
  have K2 := Lib.hid h2
  have NB := Lib.hid (fun k (h : k ≤ xs.length) => numV_bd (c := c) (xs := xs) (u := u) (s := s + 1) (i := k) wc wf h1 h60 (by omega) h)
  have T0 := Lib.hid t0
  have T00 := Lib.hid t00
  have lg := tp.lt
  have HB := Lib.hid (CaseAt.new (t := 50) sc)
  have G0 := Lib.hid (show Below w.heap.size w (w.alloc (.cells #[.int .i16 c.wi, .int .i32 c.lo, hv] 50)) by go_grown)
  have HC := Lib.hid (sc.below G0.out)
  obtain ⟨H, qh, rfl, -⟩ := sc
  clear sl wc wf h1 h2 tp tn tn0 t0 t00 tl
  go_enter Try.func90, Try.ntmps90
  go_upto_region 2 with (fail)
  obtain ⟨p, hp⟩ : ∃ p, w.heap.size = p := ⟨_, rfl⟩
  have a3 := alloc3 w (.cells #[.int .i16 c.wi, .int .i32 c.lo, .slice H c.hs.length qh] 50) (.cells #[.int .i64 0, .slice none 0 0, .int .i64 0] 118) (.cells #[.int .i64 0, .slice none 0 0, .int .i64 0] 118)
  have BW := Lib.hid (show Below w.heap.size w (((w.alloc (.cells #[.int .i16 c.wi, .int .i32 c.lo, .slice H c.hs.length qh] 50)).alloc (.cells #[.int .i64 0, .slice none 0 0, .int .i64 0] 118)).alloc (.cells #[.int .i64 0, .slice none 0 0, .int .i64 0] 118)) by go_grown)
  have CN := Lib.hid ((HB.out.below ((Below.refl _ _).alloc (Nat.le_refl _) (.cells #[.int .i64 0, .slice none 0 0, .int .i64 0] 118))).below ((Below.refl _ _).alloc (Nat.le_refl _) (.cells #[.int .i64 0, .slice none 0 0, .int .i64 0] 118)))
  have SZ := Lib.hid (show (((w.alloc (.cells #[.int .i16 c.wi, .int .i32 c.lo, .slice H c.hs.length qh] 50)).alloc (.cells #[.int .i64 0, .slice none 0 0, .int .i64 0] 118)).alloc (.cells #[.int .i64 0, .slice none 0 0, .int .i64 0] 118)).heap.size = w.heap.size + 3 by simp)
  have XA := Lib.hid a3.1
  have XB := Lib.hid a3.2
  clear a3
  generalize World.alloc (World.alloc (World.alloc w _) _) _ = W0 at BW CN SZ XA XB ⊢
  rw [hp] at CN SZ XA XB ⊢
  have HP := Lib.hid hp
  have tb' : b < p := by omega
  have tb0' : b0 < p := by omega
  have lg' : g < p := by omega
  clear hp HB HC G0
  have SZ' := SZ.out
  have HC := Lib.hid CN.out.hs
  have SL0 := Lib.hid (SL.out.below BW.out)
  obtain ⟨c0, c1, c2, cz, -⟩ := CN.out
  go_wp2_with fail
  refine (rowsFrom_any c _ A m xs s i WF.out _ HC.out hs K1.out SL0.out hm K2.out hin).mono ?_
  rintro e w1 ⟨uu, rfl, ho, g1⟩
  clear c0 c1 c2
  have hcn0 : 0 < cntR c s xs i := (cntR_le hin).1
  have hcnm : i + cntR c s xs i ≤ xs.length + 1 := (cntR_le hin).2
  obtain ⟨N, hN⟩ : ∃ N, N = cntR c s xs i := ⟨_, rfl⟩
  rw [← hN] at ho hcn0 hcnm
  have HN := Lib.hid hN
  clear hN
  obtain ⟨gr, capr, rfl⟩ : ∃ gr capr, uu = .slice (some ⟨gr, 0, none⟩) N capr := by
    rcases ho.2 with ⟨_, h⟩ | ⟨g, cap, cur, h, _⟩
    · omega
    · exact ⟨g, cap, h⟩
  have HO := Lib.hid ho
  have hgb : gr < w1.heap.size := (ho.lt gr rfl).2
  have hgr : W0.heap.size ≤ gr := (ho.lt gr rfl).1
  have G1 := Lib.hid g1
  have BX0 := Lib.hid (show BX w1 (p + 1 + 1) 0 from ⟨none, 0, 0, (g1.block (p + 1 + 1) (by omega)).trans XB.out, Nat.le_refl _, by omega⟩)
  have z1 := g1.size
  have PL := Lib.hid (fun d => pickF_le (price := fun k => priceS c s (part xs i k) u) (nxt := numV c xs u (s + 1)) (i := i) (v := numV c xs u s i) d)
  have B1 := Lib.hid (show Below (p + 2) W0 w1 from g1.mono (by omega))
  have PW := Lib.hid (fun (W : World) (h : Below (p + 2) W0 W) => (show Below w.heap.size w W from BW.out.trans (h.mono (by have := HP.out; omega))))
  clear ho
  go_wp2
  go_loopw [23] (fun d_ wr => ∃ d : Nat, d ≤ N ∧ d_ = .int .i64 (d : Int) ∧ BX wr (p + 1 + 1) (pickF (fun k => priceS c s (part xs i k) u) (numV c xs u (s + 1)) i (numV c xs u s i) d) ∧ wr.ownsRow W0.heap.size 118 3 (.slice (some ⟨gr, 0, none⟩) N capr) N (fromCs c A xs i N) ∧ Below (p + 2) W0 wr ∧ w1.heap.size ≤ wr.heap.size) (fun d_ _ => N - (intOf d_).toNat)
  case atStart => exact ⟨0, by omega, rfl, BX0.out, HO.out, B1.out, Nat.le_refl _⟩
  case round =>
    obtain ⟨d, hd, rfl, hbx, hor, hb, hsz⟩ := hrel
    have SB := Lib.hid (show pickF (fun k => priceS c s (part xs i k) u) (numV c xs u (s + 1)) i (numV c xs u s i) (d + 1) = if numV c xs u (s + 1) (i + d) ≠ -1 ∧ numV c xs u (s + 1) (i + d) + priceS c s (part xs i (i + d)) u = numV c xs u s i then i + d else pickF (fun k => priceS c s (part xs i k) u) (numV c xs u (s + 1)) i (numV c xs u s i) d from rfl)
    have BXR := Lib.hid hbx
    have BR := Lib.hid hb
    have HO2 := Lib.hid hor
    clear hbx hb
    by_cases hlt : d < N
    · obtain ⟨k, hk⟩ : ∃ k, k = i + d := ⟨_, rfl⟩
      have hik : i ≤ k := by omega
      have hkn : k ≤ xs.length := by omega
      have HK := Lib.hid hk
      have hfit := fits_within (c := c) (s := s) K1.out hin d (by rw [← HN.out]; exact hlt)
      rw [← hk] at hfit SB
      have pl : (part xs i k).length = k - i := part_length hkn
      have fb := freeS_bd c s (part xs i k) WC.out (part_wf i k WF.out) (by rw [pl]; omega)
      have fe : freeS c s (part xs i k) = freeB c (part xs i k) := by unfold freeS; rw [hfit]; rfl
      rw [fe] at fb
      obtain ⟨fb1, fb2⟩ := fb
      have pb0 := priceS_fit (b := u) hfit
      have pb := (priceS_bd c s (part xs i k) u WC.out (part_wf i k WF.out) (by rw [pl]; omega)).2
      have CP := Lib.hid (meas_price u hfit)
      rw [pl] at CP
      have e0 := (hor.cellAt (d * 3 + 0) (by omega)).trans (fromCs_at c A xs i d 0 (by omega) _ (by have := HN.out; omega))
      have e1 := (hor.cellAt (d * 3 + 1) (by omega)).trans (fromCs_at c A xs i d 1 (by omega) _ (by have := HN.out; omega))
      have e2 := (hor.cellAt (d * 3 + 2) (by omega)).trans (fromCs_at c A xs i d 2 (by omega) _ (by have := HN.out; omega))
      rw [← hk] at e0 e1 e2
      simp only [rowCs, List.getElem?_cons_zero, List.getElem?_cons_succ, Nat.add_zero] at e0 e1 e2
      have kd : k - i ≤ 60 := by omega
      have k60 : k ≤ 60 := by omega
      obtain ⟨nb1, nb2⟩ := NB.out k hkn
      have tk := TN.out k (by omega)
      have SB2 := Lib.hid SB.out
      clear hor hk fe pl hfit SB
      generalize freeB c (part xs i k) = fr at *
      generalize priceS c s (part xs i k) u = pr at *
      have G2 : Below wr.heap.size wr (wr.alloc (.cells #[.int .i64 (i : Int), .slice (subA A i k) (k - i) (k - i), .int .i64 fr] 118)) := by go_grown
      go_wp2
      have X := heap_alloc_new wr (.cells #[.int .i64 (i : Int), .slice (subA A i k) (k - i) (k - i), .int .i64 fr] 118)
      have hWz : wr.heap.size < (wr.alloc (.cells #[.int .i64 (i : Int), .slice (subA A i k) (k - i) (k - i), .int .i64 fr] 118)).heap.size := by simp
      generalize World.alloc _ _ = W at G2 X hWz ⊢
      have x0 := cell_of_row W _ 0 _ _ _ X
      have x1 := cell_of_row W _ 1 _ _ _ X
      have x2 := cell_of_row W _ 2 _ _ _ X
      simp only [List.getElem?_toArray, List.getElem?_cons_zero, List.getElem?_cons_succ] at x0 x1 x2
      have XH := Lib.hid X
      have GW2 := Lib.hid G2
      have bW := Lib.hid (show Below (p + 2) W0 W from BR.out.trans (G2.mono (by omega)))
      have bw := PW.out W bW.out
      have FR := Lib.hid (show i < i + 1 ∧ -2100000 ≤ fr ∧ fr ≤ 2100000 from ⟨by omega, by omega, by omega⟩)
      have yt := belowBy_cell (w := W) (Nat.lt_of_lt_of_le lg bw.size) ((bw.cell (p := ⟨g, s + 1, none⟩) lg).trans T0.out)
      have yk := belowBy_cell (w := W) (Nat.lt_of_lt_of_le tb bw.size) ((bw.cell (p := ⟨b, k, none⟩) tb).trans tk)
      have x0 := belowBy_cell hWz x0
      have x1 := belowBy_cell hWz x1
      have x2 := belowBy_cell hWz x2
      generalize numV c xs u (s + 1) k = r at *
      have CB := Lib.hid (fun W' => behind_any (subA A i k) i k fr W' hik (by omega))
      clear X e0 e1 e2 tk G2
      refine wp_region_below (by kernel_rfl) (by kernel_rfl) ?_
      iterate 10 (first | go_big_quiet_step ((go_at_call 88; exact calls_below (CB.out _))) | quiet_step ((go_at_call 88; exact calls_below (CB.out _))))
      refine wpQuiet_nil ?_
      rintro wq ⟨⟨_, hq⟩, rfl⟩
      clear x0 x1 x2 yt yk
      have BQ := Lib.hid (show Below (p + 2) W0 wq from bW.out.trans (hq.mono (by have := bW.out.size; omega)))
      have bq := PW.out wq BQ.out
      have zq := hq.size
      have zwr : W0.heap.size ≤ wr.heap.size := BR.out.size
      have X3 := (hq.block wr.heap.size hWz).trans XH.out
      have hWq : wr.heap.size < wq.heap.size := Nat.lt_of_lt_of_le hWz hq.size
      have x0 := cell_of_row wq _ 0 _ _ _ X3
      have x1 := cell_of_row wq _ 1 _ _ _ X3
      have x2 := cell_of_row wq _ 2 _ _ _ X3
      simp only [List.getElem?_toArray, List.getElem?_cons_zero, List.getElem?_cons_succ] at x0 x1 x2
      have x0 := belowBy_cell hWq x0
      have x1 := belowBy_cell hWq x1
      have x2 := belowBy_cell hWq x2
      have yt := belowBy_cell (w := wq) (Nat.lt_of_lt_of_le lg bq.size) ((bq.cell (p := ⟨g, s, none⟩) lg).trans T00.out)
      have yi := belowBy_cell (w := wq) (Nat.lt_of_lt_of_le tb0 bq.size) ((bq.cell (p := ⟨b0, i, none⟩) tb0).trans TI.out)
      have CO := Lib.hid (fun W' => CP.out ▸ of_any (uM u) (uM_lt u) (subA A i k) i (k - i) fr W' kd FR.out.2.1 FR.out.2.2)
      have hw1 : IntKind.i64.wrap (r + pr) = r + pr := IntWalk.i64_in _ (by omega)
      have X4 := Lib.hid X3
      have QQ := Lib.hid (GW2.out.trans (hq.mono (by omega)))
      clear X3
      obtain ⟨v, hv0⟩ : ∃ v, numV c xs u s i = v := ⟨_, rfl⟩
      rw [hv0] at yi
      have HV := Lib.hid hv0
      clear hv0
      by_cases hr : r = -1
      · have d1 : (r != -1) = false := by rw [hr]; rfl
        have SX := Lib.hid (show BX wq (p + 1 + 1) (pickF (fun k => priceS c s (part xs i k) u) (numV c xs u (s + 1)) i (numV c xs u s i) (d + 1)) by rw [SB2.out, if_neg (fun h => h.1 hr)]; exact BXR.out.below QQ.out (by omega))
        clear hr
        go_wp2
        refine wp_region_below (by kernel_rfl) (by kernel_rfl) ?_
        iterate 17 (first | go_big_quiet_step ((go_at_call 89; exact calls_below (CO.out _))) | quiet_step ((go_at_call 89; exact calls_below (CO.out _))))
        refine wpQuiet_nil ?_
        rintro w9 ⟨⟨_, hq9⟩, rfl⟩
        clear x0 x1 x2 yt yi
        have Q9 := Lib.hid hq9
        have z9 := hq9.size
        clear hq9
        go_wp2
        go_roundw
        case rel => exact ⟨d + 1, by omega, by go_num, SX.out.below Q9.out (by omega), ownBelow (ownBelow HO2.out QQ.out) Q9.out, BQ.out.trans (Q9.out.mono (by omega)), by omega⟩
        case measure => simp [intOf]; omega
      · have d1 : (r != -1) = true := by rw [bne_iff_ne]; exact hr
        by_cases hv : r + pr = v
        · have d2 : (r + pr == v) = true := by rw [beq_iff_eq]; exact hv
          have PE := Lib.hid (show pickF (fun k => priceS c s (part xs i k) u) (numV c xs u (s + 1)) i (numV c xs u s i) (d + 1) = k by rw [SB2.out, if_pos ⟨hr, by rw [HV.out]; exact hv⟩])
          clear hr hv
          go_wp2
          refine wp_region_below (by kernel_rfl) (by kernel_rfl) ?_
          iterate 17 (first | go_big_quiet_step ((go_at_call 89; exact calls_below (CO.out _))) | quiet_step ((go_at_call 89; exact calls_below (CO.out _))))
          refine wpQuiet_nil ?_
          rintro w9 ⟨⟨_, hq9⟩, rfl⟩
          clear x0 x1 x2 yt yi
          have Q9 := Lib.hid hq9
          have z9 := hq9.size
          have X5 := (hq9.block wr.heap.size hWq).trans X4.out
          have x0 := cell_of_row w9 _ 0 _ _ _ X5
          have x1 := cell_of_row w9 _ 1 _ _ _ X5
          have x2 := cell_of_row w9 _ 2 _ _ _ X5
          obtain ⟨X6, a6, f6, hb6, -, -⟩ := (BXR.out.below QQ.out (by omega)).below hq9 (by omega)
          have y0 := cell_of_row w9 _ 0 _ _ _ hb6
          have y1 := cell_of_row w9 _ 1 _ _ _ hb6
          have y2 := cell_of_row w9 _ 2 _ _ _ hb6
          have yf := fun j => frozen_of_row w9 _ j _ _ hb6
          simp only [List.getElem?_toArray, List.getElem?_cons_zero, List.getElem?_cons_succ] at x0 x1 x2 y0 y1 y2
          have P6 := Lib.hid (put3 (x' := .int .i64 (i : Int)) (y' := .slice (subA A i k) (k - i) (k - i)) (z' := .int .i64 fr) hb6)
          have B9 := Lib.hid (show Below (p + 2) W0 w9 from BQ.out.trans (hq9.mono (by omega)))
          have BS := Lib.hid (((B9.out.setCell (p := ⟨p + 1 + 1, 0, none⟩) (Nat.le_refl _) (.int .i64 (i : Int))).setCell (p := ⟨p + 1 + 1, 1, none⟩) (Nat.le_refl _) (.slice (subA A i k) (k - i) (k - i))).setCell (p := ⟨p + 1 + 1, 2, none⟩) (Nat.le_refl _) (.int .i64 fr))
          have OW := Lib.hid (ownsRow_setCell_below (ownsRow_setCell_below (ownsRow_setCell_below (ownBelow (ownBelow HO2.out QQ.out) Q9.out) (a := ⟨p + 1 + 1, 0, none⟩) (by show p + 1 + 1 < W0.heap.size; omega) (.int .i64 (i : Int))) (a := ⟨p + 1 + 1, 1, none⟩) (by show p + 1 + 1 < W0.heap.size; omega) (.slice (subA A i k) (k - i) (k - i))) (a := ⟨p + 1 + 1, 2, none⟩) (by show p + 1 + 1 < W0.heap.size; omega) (.int .i64 fr))
          have ZS := Lib.hid (show w1.heap.size ≤ (((w9.setCell ⟨p + 1 + 1, 0, none⟩ (.int .i64 (i : Int))).setCell ⟨p + 1 + 1, 1, none⟩ (.slice (subA A i k) (k - i) (k - i))).setCell ⟨p + 1 + 1, 2, none⟩ (.int .i64 fr)).heap.size by simp [World.setCell]; omega)
          clear hq9 X5 hb6
          go_wp2
          go_roundw
          case rel => exact ⟨d + 1, by omega, by go_num, by rw [PE.out]; exact ⟨_, _, _, P6.out, hik, k60⟩, OW.out, BS.out, ZS.out⟩
          case measure => simp [intOf]; omega
        · have d2 : (r + pr == v) = false := by rw [beq_eq_false_iff_ne]; exact hv
          have SX := Lib.hid (show BX wq (p + 1 + 1) (pickF (fun k => priceS c s (part xs i k) u) (numV c xs u (s + 1)) i (numV c xs u s i) (d + 1)) by rw [SB2.out, if_neg (fun h => hv (by rw [← HV.out]; exact h.2))]; exact BXR.out.below QQ.out (by omega))
          clear hr hv
          go_wp2
          refine wp_region_below (by kernel_rfl) (by kernel_rfl) ?_
          iterate 17 (first | go_big_quiet_step ((go_at_call 89; exact calls_below (CO.out _))) | quiet_step ((go_at_call 89; exact calls_below (CO.out _))))
          refine wpQuiet_nil ?_
          rintro w9 ⟨⟨_, hq9⟩, rfl⟩
          clear x0 x1 x2 yt yi
          have Q9 := Lib.hid hq9
          have z9 := hq9.size
          clear hq9
          go_wp2
          go_roundw
          case rel => exact ⟨d + 1, by omega, by go_num, SX.out.below Q9.out (by omega), ownBelow (ownBelow HO2.out QQ.out) Q9.out, BQ.out.trans (Q9.out.mono (by omega)), by omega⟩
          case measure => simp [intOf]; omega
    · obtain rfl : d = N := by omega
      obtain ⟨X6, a6, f6, hb6, ha6, hk6⟩ := BXR.out
      have y0 := cell_of_row wr _ 0 _ _ _ hb6
      have y1 := cell_of_row wr _ 1 _ _ _ hb6
      have y2 := cell_of_row wr _ 2 _ _ _ hb6
      have r6 := (BR.out.block (p + 1) (by omega)).trans XA.out
      have v0 := cell_of_row wr _ 0 _ _ _ r6
      have v1 := cell_of_row wr _ 1 _ _ _ r6
      have v2 := cell_of_row wr _ 2 _ _ _ r6
      have vf := fun j => frozen_of_row wr _ j _ _ r6
      simp only [List.getElem?_toArray, List.getElem?_cons_zero, List.getElem?_cons_succ] at y0 y1 y2 v0 v1 v2
      have EK := Lib.hid (show pickF (fun k => priceS c s (part xs i k) u) (numV c xs u (s + 1)) i (numV c xs u s i) d = pickF (fun k => priceS c s (part xs i k) u) (numV c xs u (s + 1)) i (numV c xs u s i) (cntR c s xs i) by rw [HN.out])
      generalize pickF (fun k => priceS c s (part xs i k) u) (numV c xs u (s + 1)) i (numV c xs u s i) d = kk at *
      have BF := Lib.hid (PW.out _ (BR.out.mono (by omega : p + 2 ≤ p + 2)))
      have BF2 := Lib.hid (((BF.out.setCell (p := ⟨p + 1, 0, none⟩) (by have := HP.out; show w.heap.size ≤ p + 1; omega) (.int .i64 (a6 : Int))).setCell (p := ⟨p + 1, 1, none⟩) (by have := HP.out; show w.heap.size ≤ p + 1; omega) (.slice X6 (kk - a6) (kk - a6))).setCell (p := ⟨p + 1, 2, none⟩) (by have := HP.out; show w.heap.size ≤ p + 1; omega) (.int .i64 f6))
      have P6 := put3 (x' := .int .i64 (a6 : Int)) (y' := .slice X6 (kk - a6) (kk - a6)) (z' := .int .i64 f6) r6
      have s0 := cell_of_row _ _ 0 _ _ _ P6
      have s1 := cell_of_row _ _ 1 _ _ _ P6
      have s2 := cell_of_row _ _ 2 _ _ _ P6
      simp only [List.getElem?_toArray, List.getElem?_cons_zero, List.getElem?_cons_succ] at s0 s1 s2
      clear P6 hb6 r6
      go_wp2
      refine bodyPost_ret (v := .agg #[.int .i64 (a6 : Int), .slice X6 (kk - a6) (kk - a6), .int .i64 f6]) (by simp [results, Try.results90, go_sem, s0, s1, s2]) rfl ?_
      exact ⟨X6, a6, kk, f6, rfl, ha6, hk6, EK.out, BF2.out⟩
end Go.Proofs.Ytpamflkefgpdpaa
