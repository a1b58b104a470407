/- A rack's text by lines: what a line must be, and that the text is the rack's. No condition. -/
import Derived.Test.YtkojnepgeegalaaDoorRrA
import Derived.Test.YtkojnepgeegalaaDoorRdB3
import Derived.Test.YtkojnepgeegalaaDoorRdM
namespace Go.Proofs.YtkojnepgeegalaaDoor
set_option linter.unusedSimpArgs false
set_option linter.unusedVariables false
set_option maxRecDepth 100000
open Go.RowKit

theorem rk_get {L : List UInt8} {ws : List (List UInt8)} {r : Rk} (hW : ws = splitL 10 L) (h : RcP L r) : ws.length = r.ps.length + 2 ∧ ws[0]? = some (dec r.n) ∧ (∀ (k : Nat) (hk : k < r.ps.length), ws[k + 1]? = some (plTx r.ps[k])) ∧ ws[r.ps.length + 1]? = some [] := by
  rw [hW, h.split]
  refine ⟨by simp, rfl, fun k hk => ?_, ?_⟩
  · rw [List.getElem?_cons_succ, List.getElem?_append_left (by rw [List.length_map]; exact hk), List.getElem?_map, List.getElem?_eq_getElem hk]
    rfl
  · rw [List.getElem?_cons_succ, List.getElem?_append_right (by rw [List.length_map]; exact Nat.le_refl _), List.length_map, Nat.sub_self]
    rfl
theorem rk_last {L : List UInt8} {ws : List (List UInt8)} {m : Nat} (hW : ws = splitL 10 L) (hm : ws.length = m + 1) {r : Rk} (h : RcP L r) : m = r.ps.length + 1 ∧ ws[m]'(by omega) = [] := by
  obtain ⟨h1, _, _, h4⟩ := rk_get hW h
  have e : m = r.ps.length + 1 := by omega
  refine ⟨e, ?_⟩
  have := List.getElem?_eq_getElem (l := ws) (i := m) (by omega)
  rw [← e] at h4
  rw [h4] at this
  exact (Option.some.inj this).symm
theorem rk_zero {L : List UInt8} {ws : List (List UInt8)} (hW : ws = splitL 10 L) (hm : 0 < ws.length) {r : Rk} (h : RcP L r) : ws[0] = dec r.n := by
  have := (rk_get hW h).2.1
  rw [List.getElem?_eq_getElem hm] at this
  exact Option.some.inj this
theorem rk_line {L : List UInt8} {ws : List (List UInt8)} {m k : Nat} (hW : ws = splitL 10 L) (hm : ws.length = m + 1) (hk : k + 1 < m) {r : Rk} (h : RcP L r) : ∃ x ∈ r.ps, ws[k + 1]'(by omega) = plTx x := by
  obtain ⟨h1, _, h3, _⟩ := rk_get hW h
  have hk2 : k < r.ps.length := by omega
  refine ⟨_, List.getElem_mem hk2, ?_⟩
  have := h3 k hk2
  rw [List.getElem?_eq_getElem (by omega)] at this
  exact Option.some.inj this
theorem first_at {X A R : List UInt8} {c : UInt8} {j : Nat} (e : X = A ++ c :: R) (hA : c ∉ A) (hj : j ≤ X.length) (h : ∀ i, i < j → X[i]? ≠ some c) (hx : j = X.length ∨ X[j]? = some c) : j = A.length := by
  have h1 : X[A.length]? = some c := by
    rw [e, List.getElem?_append_right (Nat.le_refl _), Nat.sub_self]
    rfl
  have h2 : j ≤ A.length := Nat.le_of_not_lt fun hl => h _ hl h1
  have h3 : A.length < X.length := by rw [e]; simp
  rcases hx with hx | hx
  · omega
  · refine Nat.le_antisymm h2 (Nat.le_of_not_lt fun hl => ?_)
    rw [e, List.getElem?_append_left hl] at hx
    exact hA (List.mem_of_getElem? hx)
theorem pl_first {X : List UInt8} {j : Nat} {x : Pl} (e : X = plTx x) (hj : j ≤ X.length) (h : ∀ i, i < j → X[i]? ≠ some 32) (hx : j = X.length ∨ X[j]? = some 32) : j < X.length ∧ X.take j = dec x.p ∧ X.drop (j + 1) = bookT x.b := by
  have e2 : X = dec x.p ++ 32 :: bookT x.b := e
  have ej := first_at e2 (dig_not (by decide)) hj h hx
  subst ej
  rw [e2]
  refine ⟨by simp, by simp, ?_⟩
  rw [List.drop_append]
  simp
theorem pl_made {X : List UInt8} {j : Nat} {a : Int} {b : Bk} (hx : X[j]? = some 32) (h1 : X.take j = dec a) (h2 : X.drop (j + 1) = bookT b) : X = plTx ⟨a, b⟩ := by
  obtain ⟨hj, e⟩ := List.getElem?_eq_some_iff.1 hx
  have h3 := List.drop_eq_getElem_cons hj
  rw [e, h2] at h3
  rw [← List.take_append_drop j X, h1, h3]
  rfl
theorem rack_inj {r r' : Rk} (h : ∀ x ∈ r.ps, PlOk x) (h' : ∀ x ∈ r'.ps, PlOk x) (hn : 0 ≤ r.n) (hn' : 0 ≤ r'.n) (e : rackT r = rackT r') : r = r' := by
  unfold rackT at e
  obtain ⟨e1, e2⟩ := dec_apart hn hn' (noDig_ten _) (noDig_ten _) e
  injection e2 with _ e3
  obtain ⟨more, e4, e5⟩ := pls_prefix r.ps r'.ps [] h h' (by rw [List.append_nil]; exact e3)
  rw [plsT_nil e5.symm, List.append_nil] at e4
  cases r
  cases r'
  simp only at e1 e4
  rw [e1, e4]
theorem rack_join {L : List UInt8} {n : Int} {ps : List Pl} (e : splitL 10 L = dec n :: (ps.map plTx ++ [[]])) : L = rackT ⟨n, ps⟩ := by
  unfold rackT
  rw [← join_split 10 L, e, join_cons (by simp), plsT_join]
theorem rk_none {L : List UInt8} {n : Int} {ps : List Pl} (e : splitL 10 L = dec n :: (ps.map plTx ++ [[]])) (hn : 0 ≤ n) (ho : ∀ x ∈ ps, PlOk x) (hv : rkB ⟨n, ps⟩ = false) : ∀ r, ¬ RcP L r := fun r h => by
  have hb := h.n
  have er := rack_inj (r := r) (r' := ⟨n, ps⟩) (fun x hx => (h.pls x hx).1) ho (by omega) hn (by rw [← h.eq, ← rack_join e])
  have := h.ok
  rw [er, hv] at this
  cases this
theorem nums_dec {X : List UInt8} {n : Int} {ok : Bool} (h : NumS X n ok) {a : Int} (ha : 0 ≤ a ∧ a ≤ 9999) (e : X = dec a) : ok = true ∧ n = a := by
  rcases h with ⟨h1, h2, h3, _⟩ | ⟨_, _, h3⟩
  · exact ⟨h1, dec_inj h2 ha.1 (h3.symm.trans e)⟩
  · have := h3 a ha.1 e
    have := dec_short (z := a) (by omega)
    rw [e] at *
    omega
theorem nums_yes {X : List UInt8} {n : Int} (h : NumS X n true) : 0 ≤ n ∧ X = dec n ∧ n < 1000000000 := by
  rcases h with ⟨_, h2, h3, _, h5⟩ | ⟨h, _⟩
  · exact ⟨h2, h3, h5⟩
  · cases h
theorem specRBr {X : List UInt8} (hX : X.length ≤ 1048576) {b : Bk} {k : Int} (hB : rbB X = b) (hC : rbC X = k) (w : World) :
    Calls Tryd.prog 10 #[.string (strOf X)] w fun e w' => e = .returned (.tuple #[.agg #[.int .i16 b.c, .int .u8 b.m0, .int .u8 b.m1, .int .u8 b.m2, .int .i16 b.v, .int .i16 b.wi, .int .i16 b.hi, .int .i16 b.we], .int .i64 k]) ∧ Below w.heap.size w w' := by
  have h := specReadBook_any (strOf X) (by rw [strOf_size]; exact hX) w
  rw [show (strOf X).data.toList = X by simp [strOf], hB, hC] at h
  exact h
theorem rbr_cases (X : List UInt8) : (∃ b, BkP X b ∧ rbB X = b ∧ rbC X = 0) ∨ ((∀ b, ¬ BkP X b) ∧ rbB X = zeroBk ∧ rbC X = 5) := by
  by_cases h : ∃ b, BkP X b
  · obtain ⟨b, h⟩ := h
    exact .inl ⟨b, h, rb_yes h⟩
  · exact .inr ⟨fun b e => h ⟨b, e⟩, rb_no (fun b e => h ⟨b, e⟩)⟩
theorem strOf_emptyR {X : List UInt8} : (strOf X).toList.isEmpty = X.isEmpty := by
  rw [ByteArray.toList_eq]
  simp [strOf]
theorem strOf_toLR {X : List UInt8} : (strOf X).toList = X := by
  rw [ByteArray.toList_eq]
  simp [strOf]
end Go.Proofs.YtkojnepgeegalaaDoor
