/- ReadLayout, by the model and by the program: contracts. Condition: the two error variables hold two different errors of errors.New's make; a text no longer than told. -/
import Derived.Test.YtkcoakhfckipdaaDoorRd4
import Derived.Test.YtkcoakhfckipdaaDoorRdM
import Derived.Test.YtkcoakhfckipdaaDoorCd2
import Derived.Test.YtkcoakhfckipdaaDoorPln
namespace Go.Proofs.YtkcoakhfckipdaaDoor
set_option linter.unusedSimpArgs false
set_option linter.unusedVariables false
set_option maxRecDepth 100000
open Go.RowKit

def LayP (L : List UInt8) (zs : List Int) : Prop := plainB zs = true ∧ L = joinL 44 (zs.map dec)
theorem map_dec_inj : ∀ (zs zs' : List Int), (∀ z ∈ zs, 0 ≤ z) → (∀ z ∈ zs', 0 ≤ z) → zs.map dec = zs'.map dec → zs = zs'
  | [], [], _, _, _ => rfl
  | [], z :: zs', _, _, h => by simp at h
  | z :: zs, [], _, _, h => by simp at h
  | z :: zs, z' :: zs', h1, h2, h => by
    rw [List.map_cons, List.map_cons] at h
    injection h with e1 e2
    rw [dec_inj (h1 z (by simp)) (h2 z' (by simp)) e1, map_dec_inj zs zs' (fun x hx => h1 x (by simp [hx])) (fun x hx => h2 x (by simp [hx])) e2]
theorem split_dec {c : UInt8} (hc : isDig c = false) {zs : List Int} (h : zs ≠ []) : splitL c (joinL c (zs.map dec)) = zs.map dec :=
  split_join _ (by simpa using h) (fun w hw => by
    obtain ⟨z, _, rfl⟩ := List.mem_map.1 hw
    exact dig_not hc)
theorem layP_split {L : List UInt8} {zs : List Int} (h : LayP L zs) : splitL 44 L = zs.map dec := by
  have := (plain_of h.1).1.1
  rw [h.2]
  exact split_dec (by decide) (fun e => by rw [e] at this; simp at this)
theorem layP_uniq {L : List UInt8} {zs zs' : List Int} (h : LayP L zs) (h' : LayP L zs') : zs = zs' :=
  map_dec_inj zs zs' (fun z hz => ((plain_of h.1).2 z hz).1) (fun z hz => ((plain_of h'.1).2 z hz).1) ((layP_split h).symm.trans (layP_split h'))
open Classical in
noncomputable def rlZ (L : List UInt8) : List Int := if h : ∃ zs, LayP L zs then Classical.choose h else []
open Classical in
noncomputable def rlC (L : List UInt8) : Int := if ∃ zs, LayP L zs then 0 else 5
theorem rl_yes {L : List UInt8} {zs : List Int} (h : LayP L zs) : rlZ L = zs ∧ rlC L = 0 := by
  have hx : ∃ zs, LayP L zs := ⟨zs, h⟩
  unfold rlZ rlC
  rw [dif_pos hx, if_pos hx]
  exact ⟨layP_uniq (Classical.choose_spec hx) h, rfl⟩
theorem rl_no {L : List UInt8} (h : ∀ zs, ¬ LayP L zs) : rlZ L = [] ∧ rlC L = 5 := by
  have hx : ¬ ∃ zs, LayP L zs := fun ⟨zs, e⟩ => h zs e
  unfold rlZ rlC
  rw [dif_neg hx, if_neg hx]
  exact ⟨rfl, rfl⟩
theorem rlZ_len (L : List UInt8) : (rlZ L).length ≤ 1048576 := by
  by_cases h : ∃ zs, LayP L zs
  · obtain ⟨zs, h⟩ := h
    have := (plain_of h.1).1
    rw [(rl_yes h).1]
    omega
  · rw [(rl_no (fun zs e => h ⟨zs, e⟩)).1]
    simp
theorem plain_in {zs : List Int} (h1 : 1 ≤ zs.length) (h2 : zs.length ≤ 12) (ha : AllIn 60 zs) : plainB zs = true :=
  plain_ok (by unfold inB; exact decide_eq_true (by omega)) (fun i hi _ => by unfold inB; exact decide_eq_true (ha _ (List.getElem_mem hi)))
theorem restT_zero (T : ByteArray) : restT T 0 = T.data.toList := rfl
theorem last_lay {T : ByteArray} {zs : List Int} {f : Bool} (h : LastS 44 60 T 0 zs f) : (f = false ∧ rlZ T.data.toList = zs ∧ rlC T.data.toList = 0) ∨ (f = true ∧ rlZ T.data.toList = [] ∧ rlC T.data.toList = 5) := by
  rcases h with ⟨h1, h2, h3, h4, h5⟩ | ⟨h1, h2⟩
  · exact .inl ⟨h1, rl_yes ⟨plain_in h2 h3 h4, h5⟩⟩
  · refine .inr ⟨h1, rl_no fun zs' e => ?_⟩
    obtain ⟨k1, k2⟩ := plain_of e.1
    exact h2 zs' k1.1 k1.2 k2 e.2
theorem nilNeq (w : World) : (binOp .neq 84 .nilIface .nilIface).run Tryd.prog w = .ok (.bool false) w := by
  have h := run_eql_iface_nil_left (P := Tryd.prog) w 185 .nilIface Tryd.underlying84
  go_simp
set_option maxHeartbeats 4000000 in
theorem readLayout_any (T : ByteArray) (hT : T.size ≤ 1048576) (w : World) (s y : Addr) (he : Es2 w s y) :
    Calls Tryd.prog 21 #[.string T] w fun e w' => ∃ u, e = .returned (.tuple #[u, .int .i64 (rlC T.data.toList)]) ∧ w'.ownsRow w.heap.size 2 1 u (rlZ T.data.toList).length ((rlZ T.data.toList).map (Value.int .i64)) ∧ Below w.heap.size w w' := by
  have hl0 := World.block_lt_of_cell? _ _ he.cy
  have G1 := Lib.hid (show Below w.heap.size w (w.alloc (.cells #[.string T, .int .i64 0, .nilIface] 86)) from (Below.refl _ _).alloc (Nat.le_refl _) _)
  have R1 := Lib.hid (show Rd (w.alloc (.cells #[.string T, .int .i64 0, .nilIface] 86)) w.heap.size T 0 false y from ⟨heap_alloc_new w _, Nat.zero_le _⟩)
  have E1 := Lib.hid (he.below G1.out)
  have hne : w.heap.size ≠ 0 := fun e => by
    have h2 : (0 : Nat) < w.heap.size := hl0
    omega
  have HE := Lib.hid he
  clear he
  go_enter Tryd.func21, Tryd.ntmps21
  go_upto_region 2 with (fail)
  generalize World.alloc _ _ = w1 at G1 R1 E1 ⊢
  go_wp2_with fail
  refine (lastNumbers_any w.heap.size hne w.heap.size (Nat.le_refl _) hl0 T hT 0 y 44 (by decide) 60 (by omega) w1 R1.out E1.out.cy).mono ?_
  rintro e w2 ⟨u, zs, q, f, rfl, hls, ho, r2, h2⟩
  have LS := last_lay hls
  have OW := Lib.hid ho
  have R2 := Lib.hid r2
  have G2 := Lib.hid (G1.out.trans h2)
  have E2 := Lib.hid (HE.out.below G2.out)
  clear hls ho r2 h2
  rcases LS with ⟨rfl, e1, e2⟩ | ⟨rfl, e1, e2⟩
  · have Z := Lib.hid e1
    have C := Lib.hid e2
    have c2 : w2.cell? ⟨w.heap.size, 2, none⟩ = some .nilIface := R2.out.c2
    have nn := fun W => nilNeq W
    clear e1 e2
    go_wp2
    go_ret2
    exact ⟨u, by rw [C.out]; rfl, by rw [Z.out]; exact OW.out, G2.out⟩
  · have Z := Lib.hid e1
    have C := Lib.hid e2
    have c2 : w2.cell? ⟨w.heap.size, 2, none⟩ = some (.iface 185 (.pointer (some y))) := R2.out.c2
    clear e1 e2
    go_wp2_with fail
    refine (codeOf_syn w2 s y E2.out).mono ?_
    rintro e w' ⟨rfl, rfl⟩
    go_wp2
    go_ret2
    exact ⟨_, by rw [C.out]; rfl, by rw [Z.out]; exact ⟨rfl, .inl ⟨rfl, rfl⟩⟩, G2.out⟩
theorem splitL_len (c : UInt8) : ∀ l, (splitL c l).length ≤ l.length + 1
  | [] => by simp [splitL]
  | x :: l => by
    have ih := splitL_len c l
    unfold splitL
    split
    · simp only [List.length_cons]; omega
    · cases hs : splitL c l with
      | nil => simp
      | cons w ws => rw [hs] at ih; simp only [List.length_cons] at ih ⊢; omega
theorem split_word_len (c : UInt8) : ∀ l, ∀ w ∈ splitL c l, w.length ≤ l.length
  | [], w, hw => by simp [splitL] at hw; subst hw; simp
  | x :: l, w, hw => by
    have ih := split_word_len c l
    unfold splitL at hw
    split at hw
    · rcases List.mem_cons.1 hw with rfl | h
      · simp
      · have := ih w h; simp only [List.length_cons]; omega
    · cases hs : splitL c l with
      | nil => exact absurd hs (splitL_ne c l)
      | cons v ws =>
        rw [hs] at hw ih
        rcases List.mem_cons.1 hw with rfl | h
        · have := ih v (by simp); simp only [List.length_cons]; omega
        · have := ih w (by simp [h]); simp only [List.length_cons]; omega
set_option maxHeartbeats 8000000 in
theorem specReadLayout_any (T : ByteArray) (hT : T.size ≤ 1048576) (w : World) :
    Calls Tryd.prog 20 #[.string T] w fun e w' => ∃ u, e = .returned (.tuple #[u, .int .i64 (rlC T.data.toList)]) ∧ w'.ownsRow w.heap.size 2 1 u (rlZ T.data.toList).length ((rlZ T.data.toList).map (Value.int .i64)) ∧ Below w.heap.size w w' := by
  obtain ⟨i0, hi0, hz0, hz1, hz2⟩ := info_parts infoI64
  have SPL := Lib.hid (l01Split_any T hT 44 w)
  go_enter Tryd.func20, Tryd.ntmps20
  go_wp2_with fail
  refine SPL.out.mono ?_
  rintro e w1 ⟨u, rfl, ho1, h1⟩
  obtain ⟨ws, ews⟩ : ∃ ws, ws = splitL 44 T.data.toList := ⟨_, rfl⟩
  rw [← ews] at ho1
  have WS := Lib.hid ews
  have SO := Lib.hid (ownStrs ho1 rfl)
  have B1 := Lib.hid h1
  have hlen : ws.length ≤ 1048577 := by rw [ews]; exact Nat.le_trans (splitL_len 44 _) (by rw [Array.length_toList]; exact Nat.succ_le_succ hT)
  have hwl : ∀ v ∈ ws, v.length ≤ 1048576 := fun v hv => by rw [ews] at hv; exact Nat.le_trans (split_word_len 44 _ v hv) (by rw [Array.length_toList]; exact hT)
  have HWL := Lib.hid hwl
  have z1 := h1.size
  obtain ⟨As, cs, es, hsa⟩ := SO.out
  subst es
  have HSA := Lib.hid hsa
  have B2 := Lib.hid (show Below w.heap.size w (w1.alloc (.cells #[] 2)) from B1.out.alloc z1 _)
  have b12 := Lib.hid (show Below w1.heap.size w1 (w1.alloc (.cells #[] 2)) from (Below.refl _ _).alloc (Nat.le_refl _) _)
  have O2 := Lib.hid (show (w1.alloc (.cells #[] 2)).ownsRow w1.heap.size 2 1 (.slice (some ⟨w1.heap.size, 0, none⟩) 0 0) 0 (([] : List Int).map (Value.int .i64)) from ⟨rfl, .inr ⟨w1.heap.size, 0, _, rfl, Nat.le_refl _, heap_alloc_new w1 _, Nat.le_refl _, by decide, rfl, rfl⟩⟩)
  clear ho1 h1 ews hwl hsa
  go_wp2
  generalize World.alloc _ _ = w2 at B2 b12 O2 ⊢
  go_loopw [5, 6] (fun o i wr => ∃ (zs : List Int), zs.length ≤ ws.length ∧ i = .int .i64 (zs.length : Int) ∧ ws.take zs.length = zs.map dec ∧ (∀ z ∈ zs, 0 ≤ z) ∧ wr.ownsRow w1.heap.size 2 1 o zs.length (zs.map (Value.int .i64)) ∧ Below w1.heap.size w1 wr) (fun _ i _ => ws.length - (intOf i).toNat)
  case atStart => exact ⟨[], Nat.zero_le _, rfl, rfl, fun _ h => (by simp at h), O2.out, b12.out⟩
  case round =>
    obtain ⟨zs, hk, rfl, htk, hnn, ho, hb⟩ := hrel
    have TK := Lib.hid htk
    have NN := Lib.hid hnn
    have OW := Lib.hid ho
    have HB := Lib.hid hb
    have zb := hb.size
    clear htk hnn ho hb
    by_cases hlt : zs.length < ws.length
    · obtain ⟨ga, oa, rfl, hga, hat⟩ := HSA.out (by omega)
      have p0 := hat.below HB.out hga zs.length hlt
      have sl : (strOf ws[zs.length]).data.toList = ws[zs.length] := by simp [strOf]
      have NU := Lib.hid (l01Number_any (strOf ws[zs.length]) (by rw [strOf_size]; exact HWL.out _ (List.getElem_mem hlt)) wr)
      rw [sl] at NU
      unfold strV at p0
      clear hat sl
      generalize hX : ws[zs.length] = X at *
      go_wp2_with fail
      refine NU.out.mono ?_
      rintro e w' ⟨n, ok, rfl, hn, rfl⟩
      have HX := Lib.hid hX
      have HN := Lib.hid hn
      clear hn hX
      cases ok
      · have NO := Lib.hid (rl_no (L := T.data.toList) (fun zs' e => by
          have hs := (WS.out.trans (layP_split e))
          rcases HN.out with ⟨h, _⟩ | ⟨_, _, h⟩
          · cases h
          · have hl : zs.length < zs'.length := by have := congrArg List.length hs; rw [List.length_map] at this; omega
            have e3 : X = dec zs'[zs.length] := by rw [← HX.out]; simp only [hs, List.getElem_map]
            obtain ⟨_, hz⟩ := plain_of e.1
            have hz2 := hz _ (List.getElem_mem hl)
            have := h _ hz2.1 e3
            rw [e3] at this
            have := dec_short (z := zs'[zs.length]) (by omega)
            omega))
        go_wp2
        go_ret2
        exact ⟨_, by rw [NO.out.2]; rfl, by rw [NO.out.1]; exact ⟨rfl, .inr ⟨wr.heap.size, 0, _, rfl, by omega, heap_alloc_new wr _, Nat.le_refl _, by decide, rfl, rfl⟩⟩, (B1.out.trans (HB.out.mono z1)).alloc (by omega) _⟩
      · have OX := Lib.hid (show (wr.alloc (.cells #[.int .i64 n] 2)).ownsRow w1.heap.size 2 1 u5 zs.length (zs.map (Value.int .i64)) from OW.out.alloc _)
        go_wp2_with (at_builtin; refine wpList_append_own _ rfl (.tmp 29) (.tmp 31) _ rfl w1.heap.size 2 i0 (.int .i64 0) 1 8 Tryd.underlying35 hi0 hz0 hz1 hz2 rfl (by decide) _ _ _ rfl OX.out ⟨wr.heap.size, 0, none⟩ 1 1 [.int .i64 n] rfl rfl (cellNew1 wr _ _) ?d2a ?d3a ?d4a ?d5a ?_)
        case d2a => (intro u hu; simp at hu; subst hu; rfl)
        case d3a => (unfold maxLen; omega)
        case d4a => omega
        case d5a => (simp; omega)
        intro v3 w3 hown3 hgrow3 _
        have O3 := Lib.hid (show w3.ownsRow w1.heap.size 2 1 v3 (zs ++ [n]).length ((zs ++ [n]).map (Value.int .i64)) by
          rw [List.length_append, List.length_singleton, List.map_append]
          exact hown3)
        have G3 := Lib.hid ((HB.out.alloc zb (.cells #[.int .i64 n] 2)).grown hgrow3 (by simp; omega) (fun k hk => (OX.out.lt k hk).1))
        have hnd : 0 ≤ n ∧ X = dec n := by
          rcases HN.out with ⟨_, h1, h2, _⟩ | ⟨h, _⟩
          · exact ⟨h1, h2⟩
          · cases h
        have TK2 := Lib.hid (show ws.take (zs ++ [n]).length = (zs ++ [n]).map dec by
          rw [List.length_append, List.length_singleton, List.take_add_one, List.getElem?_eq_getElem hlt, HX.out, TK.out, List.map_append, hnd.2]
          rfl)
        have NN2 := Lib.hid (show ∀ z ∈ zs ++ [n], 0 ≤ z from fun z hz => by
          rcases List.mem_append.1 hz with h | h
          · exact NN.out z h
          · rw [List.mem_singleton] at h; rw [h]; exact hnd.1)
        clear hown3 hgrow3 p0 hnd
        go_wp2
        exact ⟨⟨zs ++ [n], by rw [List.length_append, List.length_singleton]; omega, by rw [List.length_append, List.length_singleton]; simp, TK2.out, NN2.out, O3.out, G3.out⟩, by simp only [intOf]; omega⟩
    · have ek : zs.length = ws.length := by omega
      have EW := Lib.hid (show ws = zs.map dec by rw [← TK.out, ek, List.take_length])
      have PL := Lib.hid (l02Plain_any u5 zs wr (ownInts OW.out) (by unfold maxLen; omega))
      go_wp2_with fail
      refine PL.out.mono ?_
      rintro e w3 ⟨rfl, h3⟩
      have B3 := Lib.hid (bnext (B1.out.trans (HB.out.mono z1)) h3)
      have O3 := Lib.hid (ownMono (ownBelow OW.out h3) z1)
      have z3 := B3.out.size
      clear h3
      cases hp : plainB zs
      · have NO := Lib.hid (rl_no (L := T.data.toList) (fun zs' e => by
          have hs := (EW.out.symm.trans (WS.out.trans (layP_split e)))
          have := map_dec_inj zs zs' NN.out (fun z hz => ((plain_of e.1).2 z hz).1) hs
          rw [this, e.1] at hp
          cases hp))
        go_wp2
        go_ret2
        exact ⟨_, by rw [NO.out.2]; rfl, by rw [NO.out.1]; exact ⟨rfl, .inr ⟨w3.heap.size, 0, _, rfl, z3, heap_alloc_new w3 _, Nat.le_refl _, by decide, rfl, rfl⟩⟩, B3.out.alloc z3 _⟩
      · have YE := Lib.hid (rl_yes (L := T.data.toList) (zs := zs) ⟨hp, by rw [← EW.out, WS.out, join_split]⟩)
        go_wp2
        go_ret2
        exact ⟨_, by rw [YE.out.2]; rfl, by rw [YE.out.1]; exact O3.out, B3.out⟩
end Go.Proofs.YtkcoakhfckipdaaDoor
