/- ReadLayout, by the model and by the program: contracts. Condition: the two error variables hold two different errors of errors.New's make; a text no longer than told. -/
import Derived.Test.YtkojnepgeegalaaDoorRd4
import Derived.Test.YtkojnepgeegalaaDoorRdM
import Derived.Test.YtkojnepgeegalaaDoorCd2
import Derived.Test.YtkojnepgeegalaaDoorPln
namespace Go.Proofs.YtkojnepgeegalaaDoor
set_option linter.unusedSimpArgs false
set_option linter.unusedVariables false
set_option maxRecDepth 100000
open Go.RowKit

def LayP (L : List UInt8) (zs : List Int) : Prop := plainB zs = true ∧ L = joinL 44 (zs.map dec)
theorem map_dec_inj : ∀ (zs zs' : List Int), (∀ z ∈ zs, 0 ≤ z) → (∀ z ∈ zs', 0 ≤ z) → zs.map dec = zs'.map dec → zs = zs'
  | [], [], _, _, _ => rfl
  | [], z :: zs', _, _, h => by simp at h
  | z :: zs, [], _, _, h => by simp at h
  | z :: zs, z' :: zs', h1, h2, h => by
    rw [List.map_cons, List.map_cons] at h
    injection h with e1 e2
    rw [dec_inj (h1 z (by simp)) (h2 z' (by simp)) e1, map_dec_inj zs zs' (fun x hx => h1 x (by simp [hx])) (fun x hx => h2 x (by simp [hx])) e2]
theorem split_dec {c : UInt8} (hc : isDig c = false) {zs : List Int} (h : zs ≠ []) : splitL c (joinL c (zs.map dec)) = zs.map dec :=
  split_join _ (by simpa using h) (fun w hw => by
    obtain ⟨z, _, rfl⟩ := List.mem_map.1 hw
    exact dig_not hc)
theorem layP_split {L : List UInt8} {zs : List Int} (h : LayP L zs) : splitL 44 L = zs.map dec := by
  have := (plain_of h.1).1.1
  rw [h.2]
  exact split_dec (by decide) (fun e => by rw [e] at this; simp at this)
theorem layP_uniq {L : List UInt8} {zs zs' : List Int} (h : LayP L zs) (h' : LayP L zs') : zs = zs' :=
  map_dec_inj zs zs' (fun z hz => ((plain_of h.1).2 z hz).1) (fun z hz => ((plain_of h'.1).2 z hz).1) ((layP_split h).symm.trans (layP_split h'))
open Classical in
noncomputable def rlZ (L : List UInt8) : List Int := if h : ∃ zs, LayP L zs then Classical.choose h else []
open Classical in
noncomputable def rlC (L : List UInt8) : Int := if ∃ zs, LayP L zs then 0 else 5
theorem rl_yes {L : List UInt8} {zs : List Int} (h : LayP L zs) : rlZ L = zs ∧ rlC L = 0 := by
  have hx : ∃ zs, LayP L zs := ⟨zs, h⟩
  unfold rlZ rlC
  rw [dif_pos hx, if_pos hx]
  exact ⟨layP_uniq (Classical.choose_spec hx) h, rfl⟩
theorem rl_no {L : List UInt8} (h : ∀ zs, ¬ LayP L zs) : rlZ L = [] ∧ rlC L = 5 := by
  have hx : ¬ ∃ zs, LayP L zs := fun ⟨zs, e⟩ => h zs e
  unfold rlZ rlC
  rw [dif_neg hx, if_neg hx]
  exact ⟨rfl, rfl⟩
theorem rlZ_len (L : List UInt8) : (rlZ L).length ≤ 1048576 := by
  by_cases h : ∃ zs, LayP L zs
  · obtain ⟨zs, h⟩ := h
    have := (plain_of h.1).1
    rw [(rl_yes h).1]
    omega
  · rw [(rl_no (fun zs e => h ⟨zs, e⟩)).1]
    simp
theorem plain_in {zs : List Int} (h1 : 1 ≤ zs.length) (h2 : zs.length ≤ 12) (ha : AllIn 60 zs) : plainB zs = true :=
  plain_ok (by unfold inB; exact decide_eq_true (by omega)) (fun i hi _ => by unfold inB; exact decide_eq_true (ha _ (List.getElem_mem hi)))
theorem restT_zero (T : ByteArray) : restT T 0 = T.data.toList := rfl
theorem last_lay {T : ByteArray} {zs : List Int} {f : Bool} (h : LastS 44 60 T 0 zs f) : (f = false ∧ rlZ T.data.toList = zs ∧ rlC T.data.toList = 0) ∨ (f = true ∧ rlZ T.data.toList = [] ∧ rlC T.data.toList = 5) := by
  rcases h with ⟨h1, h2, h3, h4, h5⟩ | ⟨h1, h2⟩
  · exact .inl ⟨h1, rl_yes ⟨plain_in h2 h3 h4, h5⟩⟩
  · refine .inr ⟨h1, rl_no fun zs' e => ?_⟩
    obtain ⟨k1, k2⟩ := plain_of e.1
    exact h2 zs' k1.1 k1.2 k2 e.2
theorem nilNeq (w : World) : (binOp .neq 74 .nilIface .nilIface).run Tryd.prog w = .ok (.bool false) w := by
  have h := run_eql_iface_nil_left (P := Tryd.prog) w 166 .nilIface Tryd.underlying74
  go_simp
theorem splitL_len (c : UInt8) : ∀ l, (splitL c l).length ≤ l.length + 1
  | [] => by simp [splitL]
  | x :: l => by
    have ih := splitL_len c l
    unfold splitL
    split
    · simp only [List.length_cons]; omega
    · cases hs : splitL c l with
      | nil => simp
      | cons w ws => rw [hs] at ih; simp only [List.length_cons] at ih ⊢; omega
theorem split_word_len (c : UInt8) : ∀ l, ∀ w ∈ splitL c l, w.length ≤ l.length
  | [], w, hw => by simp [splitL] at hw; subst hw; simp
  | x :: l, w, hw => by
    have ih := split_word_len c l
    unfold splitL at hw
    split at hw
    · rcases List.mem_cons.1 hw with rfl | h
      · simp
      · have := ih w h; simp only [List.length_cons]; omega
    · cases hs : splitL c l with
      | nil => exact absurd hs (splitL_ne c l)
      | cons v ws =>
        rw [hs] at hw ih
        rcases List.mem_cons.1 hw with rfl | h
        · have := ih v (by simp); simp only [List.length_cons]; omega
        · have := ih w (by simp [h]); simp only [List.length_cons]; omega
end Go.Proofs.YtkojnepgeegalaaDoor
