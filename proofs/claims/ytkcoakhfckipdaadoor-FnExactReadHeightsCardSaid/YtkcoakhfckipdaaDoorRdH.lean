/- ReadHeights, by the program: a contract. Condition: the two error variables hold two different errors of errors.New's make; a text no longer than told. -/
import Derived.Test.YtkcoakhfckipdaaDoorRd5
import Derived.Test.YtkcoakhfckipdaaDoorRdY
import Derived.Test.YtkcoakhfckipdaaDoorOkH
namespace Go.Proofs.YtkcoakhfckipdaaDoor
set_option linter.unusedSimpArgs false
set_option linter.unusedVariables false
set_option maxRecDepth 100000
open Go.RowKit

set_option maxHeartbeats 1000000 in
theorem short_any (g : Nat) (hg : g ≠ 0) (T : ByteArray) (hT : T.size ≤ 1048576) (p : Nat) (f : Bool) (y : Addr) (w : World) (h : Rd w g T p f y) (hs : Syn w y) :
    Calls Tryd.prog 74 #[.pointer (some ⟨g, 0, none⟩)] w fun e w' => ∃ (n : Int) (q : Nat) (f' : Bool), e = .returned (.int .i16 n) ∧ NumR T p f 9999 n q f' ∧ (0 ≤ n ∧ n ≤ 9999) ∧ Rd w' g T q f' y ∧ Gr g w w' := by
  have NU := Lib.hid (number_any g hg T hT p f y 9999 (by omega) w h hs)
  clear h hs
  go_enter Tryd.func74, Tryd.ntmps74
  go_wp2_with fail
  refine NU.out.mono ?_
  rintro e w1 ⟨n, q, f', rfl, hn, r1, g1⟩
  have nb : 0 ≤ n ∧ n ≤ 9999 := by
    rcases hn with ⟨h1, _⟩ | ⟨_, h1, _⟩
    · exact ⟨h1.2.2.1, h1.2.2.2⟩
    · omega
  have NB := Lib.hid nb
  have HN := Lib.hid hn
  have R1 := Lib.hid r1
  have G1 := Lib.hid g1
  have hw : IntKind.i16.wrap n = n := IntWalk.i16_in _ (by omega)
  clear hn r1 g1 nb
  go_wp2
  go_ret
  exact ⟨n, q, f', rfl, HN.out, NB.out, R1.out, G1.out⟩

/-! ### what a text of pegs and heights is -/
structure HtP (L : List UInt8) (p : Pg) (zs : List Int) : Prop where
  ok : hsB p zs = true
  eq : L = joinL 32 (([p.lo, p.st, p.bo] ++ zs).map dec)
theorem HtP.all {L : List UInt8} {p : Pg} {zs : List Int} (h : HtP L p zs) : AllIn 1000 ([p.lo, p.st, p.bo] ++ zs) ∧ 1 ≤ zs.length ∧ zs.length ≤ 6 := by
  obtain ⟨h1, h2, h3⟩ := hsB_len h.ok
  obtain ⟨⟨a1, a2⟩, ⟨b1, b2⟩, ⟨c1, c2⟩⟩ := pegsB_true h1
  have hb := hsB_bounds h.ok
  refine ⟨fun z hz => ?_, h2, h3⟩
  rcases List.mem_append.1 hz with h | h
  · simp only [List.mem_cons, List.not_mem_nil, or_false] at h
    rcases h with rfl | rfl | rfl <;> omega
  · have := hb z h
    omega
theorem HtP.split {L : List UInt8} {p : Pg} {zs : List Int} (h : HtP L p zs) : splitL 32 L = ([p.lo, p.st, p.bo] ++ zs).map dec := by
  rw [h.eq]
  exact split_dec (by decide) (by simp)
theorem htP_uniq {L : List UInt8} {p p' : Pg} {zs zs' : List Int} (h : HtP L p zs) (h' : HtP L p' zs') : p = p' ∧ zs = zs' := by
  have e := map_dec_inj _ _ (fun z hz => (h.all.1 z hz).1) (fun z hz => (h'.all.1 z hz).1) (h.split.symm.trans h'.split)
  obtain ⟨a, b, c⟩ := p
  obtain ⟨a', b', c'⟩ := p'
  simp only [List.cons_append, List.nil_append, List.cons.injEq] at e
  obtain ⟨rfl, rfl, rfl, rfl⟩ := e
  exact ⟨rfl, rfl⟩
def zeroPg : Pg := ⟨0, 0, 0⟩
open Classical in
noncomputable def rhP (L : List UInt8) : Pg := if h : ∃ x : Pg × List Int, HtP L x.1 x.2 then (Classical.choose h).1 else zeroPg
open Classical in
noncomputable def rhZ (L : List UInt8) : List Int := if h : ∃ x : Pg × List Int, HtP L x.1 x.2 then (Classical.choose h).2 else []
open Classical in
noncomputable def rhC (L : List UInt8) : Int := if ∃ x : Pg × List Int, HtP L x.1 x.2 then 0 else 5
theorem rh_yes {L : List UInt8} {p : Pg} {zs : List Int} (h : HtP L p zs) : rhP L = p ∧ rhZ L = zs ∧ rhC L = 0 := by
  have hx : ∃ x : Pg × List Int, HtP L x.1 x.2 := ⟨(p, zs), h⟩
  unfold rhP rhZ rhC
  rw [dif_pos hx, dif_pos hx, if_pos hx]
  have := htP_uniq (Classical.choose_spec hx) h
  exact ⟨this.1, this.2, rfl⟩
theorem rh_no {L : List UInt8} (h : ∀ p zs, ¬ HtP L p zs) : rhP L = zeroPg ∧ rhZ L = [] ∧ rhC L = 5 := by
  have hx : ¬ ∃ x : Pg × List Int, HtP L x.1 x.2 := fun ⟨x, e⟩ => h x.1 x.2 e
  unfold rhP rhZ rhC
  rw [dif_neg hx, dif_neg hx, if_neg hx]
  exact ⟨rfl, rfl, rfl⟩
theorem rhZ_len (L : List UInt8) : (rhZ L).length ≤ 1048576 := by
  by_cases h : ∃ x : Pg × List Int, HtP L x.1 x.2
  · obtain ⟨⟨p, zs⟩, h⟩ := h
    have := h.all.2
    rw [(rh_yes h).2.1]
    omega
  · rw [(rh_no (fun p zs e => h ⟨(p, zs), e⟩)).2.1]
    simp

/-- Numbers, the byte behind each, stand ahead; or the text is none. -/
def PreH (L : List UInt8) (ns : List Int) (T : ByteArray) (q : Nat) (f : Bool) : Prop :=
  (f = false ∧ L = flatC 32 ns ++ restT T q ∧ AllIn 9999 ns) ∨ (f = true ∧ ∀ zs, 4 ≤ zs.length → AllIn 9999 zs → L ≠ joinL 32 (zs.map dec))
theorem preH_step {L : List UInt8} {ns : List Int} {T : ByteArray} {q q1 q2 : Nat} {f f1 f2 : Bool} {n : Int} (h : PreH L ns T q f) (h3 : ns.length < 3) (hn : NumR T q f 9999 n q1 f1) (hs : SkipS T q1 f1 32 q2 f2) : PreH L (ns ++ [n]) T q2 f2 := by
  have bad : (∀ zs, 4 ≤ zs.length → AllIn 9999 zs → L ≠ joinL 32 (zs.map dec)) → f1 = true → PreH L (ns ++ [n]) T q2 f2 := fun hN e1 => by
    refine .inr ⟨?_, hN⟩
    rcases hs with ⟨_, _, k⟩ | ⟨_, k⟩
    · rw [k]; exact e1
    · exact k
  rcases h with ⟨e, hL, ha⟩ | ⟨e, hN⟩
  · rcases hn with ⟨h1, h2, hf⟩ | ⟨h1, _, hf⟩
    · rcases hs with ⟨k1, k2, k3⟩ | ⟨k1, k2⟩
      · refine .inl ⟨by rw [k3, hf, e], ?_, fun z hz => ?_⟩
        · rw [hL, h1.1, flatC_snoc, k1, k2]
          simp only [List.append_assoc, List.singleton_append]
        · rcases List.mem_append.1 hz with h | h
          · exact ha z h
          · rw [List.mem_singleton] at h
            rw [h]
            exact ⟨h1.2.2.1, h1.2.2.2⟩
      · refine .inr ⟨k2, fun zs h4 hb e2 => ?_⟩
        obtain ⟨t, e3, h5, h6⟩ := flat_prefix (by decide) ns zs _ ha hb (fun e => by rw [e] at h4; simp at h4) (hL.symm.trans e2)
        match t, h5, e3, h6 with
        | z :: t, _, e3, h6 =>
          have hz := hb z (by rw [e3]; simp)
          have h7 := numOk_join (c := 32) (zs := t) (by decide) hz
          rw [← h6] at h7
          have e4 := (numOk_uniq h1 h7).2
          have ht : t ≠ [] := fun e => by rw [e3, e] at h4; simp at h4; omega
          rw [if_neg ht] at e4
          exact k1 _ e4
    · refine bad (fun zs h4 hb e2 => ?_) hf
      obtain ⟨t, e3, h5, h6⟩ := flat_prefix (by decide) ns zs _ ha hb (fun e => by rw [e] at h4; simp at h4) (hL.symm.trans e2)
      match t, h5, e3, h6 with
      | z :: t, _, e3, h6 =>
        have hz := hb z (by rw [e3]; simp)
        have h7 := numOk_join (c := 32) (zs := t) (by decide) hz
        rw [← h6] at h7
        exact h1 _ _ h7
  · refine bad hN ?_
    rcases hn with ⟨_, _, hf⟩ | ⟨_, _, hf⟩
    · rw [hf]; exact e
    · exact hf
theorem join_flats (c : UInt8) : ∀ (ns zs : List Int), zs ≠ [] → joinL c ((ns ++ zs).map dec) = flatC c ns ++ joinL c (zs.map dec)
  | [], zs, _ => rfl
  | n :: ns, zs, h => by
    rw [List.cons_append, List.map_cons, join_cons (by simp [h]), join_flats c ns zs h]
    show _ = dec n ++ c :: flatC c ns ++ _
    simp only [List.append_assoc, List.cons_append]
theorem preH_last {L : List UInt8} {a b c : Int} {T : ByteArray} {q : Nat} {f f' : Bool} {zs : List Int} (h : PreH L [a, b, c] T q f) (hl : LastF 32 1000 T q f zs f') :
    (f' = false ∧ L = joinL 32 (([a, b, c] ++ zs).map dec)) ∨ (f' = true ∧ ∀ p zs, ¬ HtP L p zs) := by
  have up : ∀ {z : List Int}, AllIn 1000 z → AllIn 9999 z := fun h x hx => by have := h x hx; omega
  rcases hl with ⟨h1, h2, h3, _, _, h6⟩ | ⟨h1, h2⟩
  · rcases h with ⟨_, hL, _⟩ | ⟨e, _⟩
    · refine .inl ⟨h1, ?_⟩
      rw [join_flats _ _ _ (fun e => by rw [e] at h3; simp at h3), ← h6]
      exact hL
    · rw [e] at h2; cases h2
  · refine .inr ⟨h1, fun p zs' hp => ?_⟩
    rcases h with ⟨e, hL, ha⟩ | ⟨_, hN⟩
    · obtain ⟨t, e3, h5, h6⟩ := flat_prefix (by decide) [a, b, c] _ _ ha (up hp.all.1) (by simp) (hL.symm.trans hp.eq)
      simp only [List.cons_append, List.nil_append, List.cons.injEq] at e3
      obtain ⟨-, -, -, rfl⟩ := e3
      have hl := hp.all.2
      exact h2 e zs' hl.1 (by omega) (fun z hz => hp.all.1 z (by simp [hz])) h6
    · exact hN _ (by have := hp.all.2; simp only [List.length_append, List.length_cons, List.length_nil]; omega) (up hp.all.1) hp.eq
theorem wf_all {zs : List Int} (h : AllIn 1000 zs) : ∀ z ∈ zs, (Lit.int .i64 z).wf = true := fun z hz => by
  have := h z hz
  simp [Lit.wf, IntKind.min, IntKind.max, IntKind.signed, IntKind.bits]
  omega
end Go.Proofs.YtkcoakhfckipdaaDoor
