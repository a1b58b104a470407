/- Words and numbers of a text, by the model: contracts. Condition: a text no longer than told. -/
import Derived.Test.YtkojnepgeegalaaDoorRdN
import Derived.Test.YtkojnepgeegalaaDoorNums
import Derived.Test.YtkojnepgeegalaaDoorQuiet
namespace Go.Proofs.YtkojnepgeegalaaDoor
set_option linter.unusedSimpArgs false
set_option linter.unusedVariables false
set_option maxRecDepth 100000
open Go.RowKit

def strV (l : List UInt8) : Value := .string (strOf l)
def StrsAt (w : World) (g o : Nat) (ws : List (List UInt8)) : Prop := ∀ (i : Nat) (hi : i < ws.length), w.cell? ⟨g, o + i, none⟩ = some (strV ws[i])
def StrsOf (w : World) (v : Value) (ws : List (List UInt8)) : Prop :=
  ∃ A c, v = .slice A ws.length c ∧ (0 < ws.length → ∃ g o, A = some ⟨g, o, none⟩ ∧ g < w.heap.size ∧ StrsAt w g o ws)
theorem StrsAt.below {w w' : World} {B g o : Nat} {ws : List (List UInt8)} (h : StrsAt w g o ws) (hb : Below B w w') (hg : g < B) : StrsAt w' g o ws :=
  fun i hi => (hb.cell (p := ⟨g, o + i, none⟩) hg).trans (h i hi)
theorem StrsOf.below {w w' : World} {v : Value} {ws : List (List UInt8)} (h : StrsOf w v ws) (hb : Below w.heap.size w w') : StrsOf w' v ws := by
  obtain ⟨A, c, rfl, h⟩ := h
  refine ⟨A, c, rfl, fun h0 => ?_⟩
  obtain ⟨g, o, rfl, hg, hh⟩ := h h0
  exact ⟨g, o, rfl, Nat.lt_of_lt_of_le hg hb.size, hh.below hb hg⟩
theorem ownStrs {w : World} {base n : Nat} {v : Value} {ws : List (List UInt8)} {t : TypeId} (h : w.ownsRow base t 1 v n (ws.map strV)) (hn : n = ws.length) : StrsOf w v ws := by
  subst hn
  rcases h.2 with ⟨rfl, h0⟩ | ⟨g, cap, cur, rfl, e2, e3, e4⟩
  · exact ⟨none, 0, by rw [h0], fun hp => by omega⟩
  · refine ⟨_, cap, rfl, fun _ => ⟨g, 0, rfl, (Array.getElem?_eq_some_iff.1 e3).1, fun i hi => ?_⟩⟩
    rw [Nat.zero_add, h.cellAt i (by omega)]
    simp [List.getElem?_eq_getElem hi]
theorem extract_of (T : ByteArray) (b i : Nat) : T.extract b i = strOf ((T.data.toList.drop b).take (i - b)) := by
  apply ByteArray.ext
  rw [ByteArray.data_extract]
  apply Array.ext'
  rw [Array.toList_extract]
  rfl
theorem infoStr : (Tryd.prog.info? 9).map (fun i => (i.zero, i.size, i.bytes)) = some (some (.string ⟨#[]⟩), 1, 16) := by kernel_rfl
theorem listAt (T : ByteArray) (i : Nat) (h : i < T.size) : T.data.toList[i]'(by rw [Array.length_toList]; exact h) = T[i] := rfl
theorem drop_piece {T : ByteArray} {b i : Nat} (hb : b ≤ i) (hi : i < T.size) : T.data.toList.drop b = (T.data.toList.drop b).take (i - b) ++ T[i] :: T.data.toList.drop (i + 1) := by
  have hl : i < T.data.toList.length := by rw [Array.length_toList]; exact hi
  have e := List.drop_eq_getElem_cons hl
  have e2 : (T.data.toList.drop b).drop (i - b) = T.data.toList.drop i := by rw [List.drop_drop]; congr 1; omega
  rw [← listAt T i hi, ← e, ← e2, List.take_append_drop]
theorem piece_no {T : ByteArray} {c : UInt8} {b i : Nat} (hi : i ≤ T.size) (h : ∀ k (hk : k < T.size), b ≤ k → k < i → T[k] ≠ c) : c ∉ (T.data.toList.drop b).take (i - b) := by
  intro hm
  obtain ⟨k, hk, e⟩ := List.getElem_of_mem hm
  have hk2 : k < i - b := by rw [List.length_take] at hk; omega
  rw [List.getElem_take, List.getElem_drop] at e
  exact h (b + k) (by omega) (by omega) (by omega) e
theorem split_piece {T : ByteArray} {c : UInt8} {b i : Nat} (hb : b ≤ i) (hi : i < T.size) (he : T[i] = c) (h : ∀ k (hk : k < T.size), b ≤ k → k < i → T[k] ≠ c) :
    splitL c (T.data.toList.drop b) = (T.data.toList.drop b).take (i - b) :: splitL c (T.data.toList.drop (i + 1)) := by
  have h2 := piece_no (Nat.le_of_lt hi) h
  have h1 := drop_piece hb hi
  rw [he] at h1
  generalize (T.data.toList.drop b).take (i - b) = piece at *
  rw [h1, split_word _ _ h2]
theorem oneNew (w : World) (u : Value) (t : TypeId) : ∀ (j : Nat) (x : Value), [u][j]? = some x → (w.alloc (.cells #[u] t)).cell? (Addr.add ⟨w.heap.size, 0, none⟩ j) = some x := by
  intro j x hj
  rw [Addr.add_lit, Nat.zero_add, cell_of_row _ _ j _ _ _ (heap_alloc_new w _)]
  simpa using hj
set_option maxHeartbeats 8000000 in
theorem l01Split_any (T : ByteArray) (hT : T.size ≤ 1048576) (c : UInt8) (w : World) :
    Calls Tryd.prog 41 #[.string T, .int .u8 (c.toNat : Int)] w fun e w' => ∃ u, e = .returned u ∧ w'.ownsRow w.heap.size 9 1 u (splitL c T.data.toList).length ((splitL c T.data.toList).map strV) ∧ Below w.heap.size w w' := by
  obtain ⟨i0, hi0, hz0, hz1, hz2⟩ := info_parts infoStr
  have B0 := Lib.hid (show Below w.heap.size w (w.alloc (.cells #[] 9)) from (Below.refl _ _).alloc (Nat.le_refl _) _)
  have O0 := Lib.hid (show (w.alloc (.cells #[] 9)).ownsRow w.heap.size 9 1 (.slice (some ⟨w.heap.size, 0, none⟩) 0 0) 0 (([] : List (List UInt8)).map strV) from ⟨rfl, .inr ⟨w.heap.size, 0, _, rfl, Nat.le_refl _, heap_alloc_new w _, Nat.le_refl _, by decide, rfl, rfl⟩⟩)
  go_enter Tryd.func41, Tryd.ntmps41
  go_wp2
  generalize World.alloc _ _ = W0 at B0 O0 ⊢
  go_loopw [5, 6, 7] (fun o b i wr => ∃ (ws : List (List UInt8)) (bn k : Nat), bn ≤ k ∧ k ≤ T.size ∧ ws.length ≤ k ∧ b = .int .i64 (bn : Int) ∧ i = .int .i64 (k : Int) ∧ splitL c T.data.toList = ws ++ splitL c (T.data.toList.drop bn) ∧ (∀ m (hm : m < T.size), bn ≤ m → m < k → T[m] ≠ c) ∧ wr.ownsRow w.heap.size 9 1 o ws.length (ws.map strV) ∧ Below w.heap.size w wr) (fun _ _ i _ => T.size - (intOf i).toNat)
  case atStart => exact ⟨[], 0, 0, Nat.le_refl _, Nat.zero_le _, Nat.zero_le _, rfl, rfl, rfl, fun _ _ _ h => absurd h (Nat.not_lt_zero _), O0.out, B0.out⟩
  case round =>
    obtain ⟨ws, bn, k, hbk, hk, hwk, rfl, rfl, hsp, hno, ho, hb⟩ := hrel
    have SP := Lib.hid hsp
    have NO := Lib.hid hno
    have OW := Lib.hid ho
    have HB := Lib.hid hb
    have zb := hb.size
    clear hsp hno ho hb
    by_cases hlt : k < T.size
    · have k0 : (0 : Int) ≤ (k : Int) := by omega
      have k1 : (k : Int) < (T.size : Int) := by omega
      by_cases he : T[k] = c
      · have hb : ((T[k].toNat : Int) == (c.toNat : Int)) = true := by rw [he]; simp
        have b1 : (bn : Int) ≤ (k : Int) := by omega
        have b2 : (k : Int) ≤ (T.size : Int) := by omega
        have b0 : (0 : Int) ≤ (bn : Int) := by omega
        have ES := Lib.hid (show splitL c T.data.toList = (ws ++ [(T.data.toList.drop bn).take (k - bn)]) ++ splitL c (T.data.toList.drop (k + 1)) by
          rw [SP.out, split_piece hbk hlt he NO.out, List.append_assoc]
          rfl)
        have EX := Lib.hid (extract_of T bn k)
        have OX := Lib.hid (show (wr.alloc (.cells #[.string (T.extract bn k)] 9)).ownsRow w.heap.size 9 1 u5 ws.length (ws.map strV) from OW.out.alloc _)
        go_wp2_with (at_builtin; refine wpList_append_own _ rfl (.tmp 20) (.tmp 25) _ rfl w.heap.size 9 i0 (.string ⟨#[]⟩) 1 16 Tryd.underlying65 hi0 hz0 hz1 hz2 rfl (by decide) _ _ _ rfl OX.out ⟨wr.heap.size, 0, none⟩ 1 1 [.string (T.extract bn k)] rfl rfl (oneNew wr _ _) ?d2a ?d3a ?d4a ?d5a ?_)
        case d2a => (intro u hu; simp at hu; subst hu; rfl)
        case d3a => (unfold maxLen; omega)
        case d4a => omega
        case d5a => (simp; omega)
        intro v3 w3 hown3 hgrow3 _
        have O3 := Lib.hid (show w3.ownsRow w.heap.size 9 1 v3 (ws ++ [(T.data.toList.drop bn).take (k - bn)]).length ((ws ++ [(T.data.toList.drop bn).take (k - bn)]).map strV) by
          rw [List.length_append, List.length_singleton, List.map_append]
          have h := hown3
          rw [EX.out] at h
          exact h)
        have G3 := Lib.hid ((HB.out.alloc zb (.cells #[.string (T.extract bn k)] 9)).grown hgrow3 (by simp; omega) (fun k hk => (OX.out.lt k hk).1))
        clear hown3 hgrow3 hb
        go_wp2
        exact ⟨⟨_, k + 1, k + 1, Nat.le_refl _, hlt, by rw [List.length_append, List.length_singleton]; omega, by simp, by simp, ES.out, fun m hm h1 h2 => by omega, O3.out, G3.out⟩, by simp only [intOf]; omega⟩
      · have hb : ((T[k].toNat : Int) == (c.toNat : Int)) = false := by
          simp only [beq_eq_false_iff_ne, ne_eq]
          exact fun h => he (UInt8.toNat_inj.1 (by omega))
        have N1 := Lib.hid (show ∀ m (hm : m < T.size), bn ≤ m → m < k + 1 → T[m] ≠ c from fun m hm h1 h2 => by
          by_cases e : m = k
          · subst e; exact he
          · exact NO.out m hm h1 (by omega))
        go_wp2
        exact ⟨⟨ws, bn, k + 1, by omega, hlt, by omega, rfl, by simp, SP.out, N1.out, OW.out, HB.out⟩, by simp only [intOf]; omega⟩
    · obtain rfl : k = T.size := by omega
      have b1 : (bn : Int) ≤ (T.size : Int) := by omega
      have b0 : (0 : Int) ≤ (bn : Int) := by omega
      have ES := Lib.hid (show splitL c T.data.toList = ws ++ [T.data.toList.drop bn] by
        have h2 := piece_no (c := c) (b := bn) (i := T.size) (Nat.le_refl _) NO.out
        rw [List.take_of_length_le (by rw [List.length_drop, Array.length_toList]; exact Nat.le_refl _)] at h2
        rw [SP.out, split_last _ h2])
      have EX := Lib.hid (show T.extract bn T.size = strOf (T.data.toList.drop bn) by
        rw [extract_of, List.take_of_length_le (by rw [List.length_drop, Array.length_toList]; exact Nat.le_refl _)])
      have OX := Lib.hid (show (wr.alloc (.cells #[.string (T.extract bn T.size)] 9)).ownsRow w.heap.size 9 1 u5 ws.length (ws.map strV) from OW.out.alloc _)
      go_wp2_with (at_builtin; refine wpList_append_own _ rfl (.tmp 29) (.tmp 33) _ rfl w.heap.size 9 i0 (.string ⟨#[]⟩) 1 16 Tryd.underlying65 hi0 hz0 hz1 hz2 rfl (by decide) _ _ _ rfl OX.out ⟨wr.heap.size, 0, none⟩ 1 1 [.string (T.extract bn T.size)] rfl rfl (oneNew wr _ _) ?d2a ?d3a ?d4a ?d5a ?_)
      case d2a => (intro u hu; simp at hu; subst hu; rfl)
      case d3a => (unfold maxLen; omega)
      case d4a => omega
      case d5a => (simp; omega)
      intro v3 w3 hown3 hgrow3 _
      have O3 := Lib.hid (show w3.ownsRow w.heap.size 9 1 v3 (splitL c T.data.toList).length ((splitL c T.data.toList).map strV) by
        rw [ES.out, List.length_append, List.length_singleton, List.map_append]
        have h := hown3
        rw [EX.out] at h
        exact h)
      have G3 := Lib.hid ((HB.out.alloc zb (.cells #[.string (T.extract bn T.size)] 9)).grown hgrow3 (by simp; omega) (fun k hk => (OX.out.lt k hk).1))
      clear hown3 hgrow3
      go_wp2
      go_ret
      exact ⟨_, rfl, O3.out, G3.out⟩
end Go.Proofs.YtkojnepgeegalaaDoor
