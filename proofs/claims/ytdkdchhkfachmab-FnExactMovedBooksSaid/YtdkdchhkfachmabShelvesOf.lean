/- The shelf of each book: the program's list, a contract. Condition: numbers that can tell it. -/
import Derived.Test.YtdkdchhkfachmabEnds
import Derived.Laws.AppendOwn
namespace Go.Proofs.Ytdkdchhkfachmab
set_option linter.unusedSimpArgs false
set_option linter.unusedVariables false
set_option maxRecDepth 100000
open Go.RowKit

theorem nuF_at {es : List Int} : ∀ f s, nuF es f s = true → ∀ j, s ≤ j → j < s + f → inB (es.getD j 0) (prE es j) 60 = true
  | 0, s, _, j, h1, h2 => absurd h2 (by omega)
  | f + 1, s, h, j, h1, h2 => by
    rw [nuF] at h
    simp only [Bool.and_eq_true] at h
    by_cases e : j = s
    · subst e; exact h.1
    · exact nuF_at f (s + 1) h.2 j (by omega) (by omega)
theorem num_at {es : List Int} (h : numB es = true) {j : Nat} (hj : j < es.length) : prE es j ≤ es.getD j 0 ∧ es.getD j 0 ≤ 60 := by
  have := nuF_at es.length 0 h j (Nat.zero_le _) (by omega)
  unfold inB at this
  simpa using this
theorem num_mono {es : List Int} (h : numB es = true) : ∀ (s : Nat), s ≤ es.length → 0 ≤ prE es s ∧ prE es s ≤ 60 ∧ ∀ t, t < s → es.getD t 0 ≤ prE es s
  | 0, _ => ⟨by simp [prE], by simp [prE], fun t ht => absurd ht (by omega)⟩
  | s + 1, hs => by
    obtain ⟨a, b, c⟩ := num_mono h s (by omega)
    obtain ⟨d, e⟩ := num_at h (j := s) (by omega)
    rw [prE_succ]
    refine ⟨by omega, e, fun t ht => ?_⟩
    by_cases e : t = s
    · subst e; exact Int.le_refl _
    · have := c t (by omega); omega
theorem sfF_is {es : List Int} {b : Int} {j : Nat} (hj : j < es.length) (h1 : ∀ t, t < j → es.getD t 0 ≤ b) (h2 : b < es.getD j 0) : ∀ f s, s ≤ j → s + f = es.length → sfF es b f s = j
  | 0, s, hs, h => absurd h (by omega)
  | f + 1, s, hs, h => by
    rw [sfF]
    by_cases e : s = j
    · subst e; rw [if_neg (by omega)]
    · rw [if_pos (h1 s (by omega))]
      exact sfF_is hj h1 h2 f (s + 1) (by omega) (by omega)
theorem sfOf_is {es : List Int} {b : Int} {j : Nat} (hj : j < es.length) (h1 : ∀ t, t < j → es.getD t 0 ≤ b) (h2 : b < es.getD j 0) : sfOf es b = j := sfF_is hj h1 h2 es.length 0 (Nat.zero_le _) (by omega)

/-- The shelves of the first k books. -/
def shK (es : List Int) (k : Nat) : List Int := (List.range k).map fun b : Nat => (sfOf es (b : Int) : Int)
theorem shK_length (es : List Int) (k : Nat) : (shK es k).length = k := by simp [shK]
theorem shK_succ (es : List Int) (k : Nat) : shK es (k + 1) = shK es k ++ [(sfOf es (k : Int) : Int)] := by
  unfold shK
  rw [List.range_succ, List.map_append]
  rfl
theorem sfF_le (es : List Int) (b : Int) : ∀ f s, sfF es b f s ≤ s + f
  | 0, s => Nat.le_refl _
  | f + 1, s => by
    rw [sfF]
    have := sfF_le es b f (s + 1)
    split <;> omega

def vlen : Value → Nat
  | .slice _ n _ => n
  | _ => 0
theorem vlen_own {w : World} {base : Nat} {e : TypeId} {v : Value} {n : Nat} {l : List Value} (h : w.ownsRow base e 1 v n l) : ∃ A c, v = .slice A n c := by
  rcases h.2 with ⟨rfl, rfl⟩ | ⟨g, cap, cur, rfl, _⟩
  · exact ⟨_, _, rfl⟩
  · exact ⟨_, _, rfl⟩
theorem infoInt_s : (Try.prog.info? 3).map (fun i => (i.zero, i.size, i.bytes)) = some (some (.int .i64 0), 1, 8) := by kernel_rfl

set_option maxHeartbeats 4000000 in
theorem shelvesOf_any (v : Value) (es : List Int) (w : World) (se : IntsOf .i64 w v es) (hm : es.length ≤ maxLen) (hn : numB es = true) (n : Nat) (hp : prE es es.length = n) :
    Calls Try.prog 51 #[v] w fun e w' => ∃ u, e = .returned u ∧ IntsOf .i64 w' u (shK es n) ∧ Below w.heap.size w w' := by
  obtain ⟨E, q, rfl, se⟩ := se
  have HS := Lib.hid se
  have HN := Lib.hid hn
  have HP := Lib.hid hp
  have HM := Lib.hid hm
  unfold maxLen at hm
  obtain ⟨i0, hi0, hz0, hz1, hz2⟩ := info_parts infoInt_s
  clear se hn hp
  go_enter Try.func51, Try.ntmps51
  go_wp2_with fail
  go_loopw [3, 8] (fun v_ s_ wr => ∃ j p : Nat, prE es j = p ∧ j ≤ es.length ∧ s_ = .int .i64 (j : Int) ∧ wr.ownsRow w.heap.size 3 1 v_ p ((shK es p).map (Value.int .i64)) ∧ Below w.heap.size w wr) (fun _ s_ _ => es.length - (intOf s_).toNat)
  case atStart => exact ⟨0, 0, rfl, Nat.zero_le _, rfl, ⟨rfl, .inl ⟨rfl, rfl⟩⟩, Below.refl _ _⟩
  case round =>
    obtain ⟨j, p, hpj, hj, rfl, hown, hb⟩ := hrel
    have OW := Lib.hid hown
    have HPJ := Lib.hid hpj
    clear hown hpj
    obtain ⟨wo, rfl⟩ : ∃ wo : World, wo = wr := ⟨_, rfl⟩
    by_cases hlt : j < es.length
    · obtain ⟨g, o, rfl, hg, hat⟩ := HS.out (by omega)
      have p0 := hat.below hb hg j hlt
      clear hat
      have ⟨m0, m1, m2⟩ := num_mono HN.out j hj
      have ⟨m3, m4⟩ := num_at HN.out hlt
      have M2 := Lib.hid m2
      rw [HPJ.out] at m0 m1 m3
      have HE := Lib.hid (getD_e hlt)
      rw [getD_e hlt] at m3 m4
      obtain ⟨q, hq⟩ : ∃ q : Nat, es[j] = q := ⟨es[j].toNat, by omega⟩
      have HQ := Lib.hid hq
      rw [hq] at p0 m3 m4
      clear hq m2
      go_wp2
      go_loopw [3] (fun v_ wr => ∃ k : Nat, p ≤ k ∧ k ≤ q ∧ wr.ownsRow w.heap.size 3 1 v_ k ((shK es k).map (Value.int .i64)) ∧ Below w.heap.size w wr) (fun v_ _ => q - vlen v_)
      case atStart => exact ⟨p, Nat.le_refl _, by omega, OW.out, hb⟩
      case round =>
        obtain ⟨k, hpk, hkq, hown, hb⟩ := hrel
        obtain ⟨A3, c3, rfl⟩ := vlen_own hown
        have OW3 := Lib.hid hown
        have hlen := shK_length es k
        clear hown
        have hsz := hb.size
        by_cases hk : k < q
        · have E2 := Lib.hid (show shK es (k + 1) = shK es k ++ [(j : Int)] by
            rw [shK_succ, sfOf_is hlt (fun t ht => by have := M2.out t ht; rw [HPJ.out] at this; omega) (by rw [HE.out, HQ.out]; omega)])
          go_wp2_with (at_builtin; refine wpList_append_own _ rfl (.tmp 17) (.tmp 19) _ rfl w.heap.size 3 i0 (.int .i64 0) 1 8 Try.underlying67 hi0 hz0 hz1 hz2 rfl (by decide) _ _ _ rfl (OW3.out.alloc _) ⟨wr.heap.size, 0, none⟩ 1 1 [.int .i64 (j : Int)] rfl rfl ?c1 ?c2 ?c3 ?c4 ?c5 ?_)
          case c1 => exact cell_one_new _ _ _
          case c2 => (intro u hu; simp at hu; subst hu; rfl)
          case c3 => (unfold maxLen; omega)
          case c4 => omega
          case c5 => (simp; omega)
          intro v' w4 hown' hgrow' _
          have OW' := Lib.hid hown'
          have g4 : Below w.heap.size w w4 := (hb.alloc hsz _).grown hgrow' (by simp; omega) (fun k hk => (OW3.out.lt k hk).1)
          obtain ⟨A4, c4, rfl⟩ := vlen_own hown'
          clear hown' hgrow'
          go_wp2
          go_roundw
          case rel => exact ⟨k + 1, by omega, by omega, by rw [E2.out]; simpa using OW'.out, g4⟩
          case measure => simp [vlen]; omega
        · obtain rfl : k = q := by omega
          go_wp2
          go_roundw
          case rel => exact ⟨j + 1, k, by rw [prE_succ, HE.out, HQ.out], by omega, by go_num, OW3.out, hb⟩
          case measure => simp [intOf]; omega
    · obtain rfl : j = es.length := by omega
      obtain rfl : n = p := by have := HPJ.out; have := HP.out; omega
      go_wp2
      go_ret
      exact ⟨_, rfl, ownInts (by rw [shK_length]; exact OW.out), hb⟩

end Go.Proofs.Ytdkdchhkfachmab
