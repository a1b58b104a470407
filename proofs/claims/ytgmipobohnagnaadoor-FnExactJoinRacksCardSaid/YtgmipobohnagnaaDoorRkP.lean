/- The program's places: which are taken or free, the books in them, the rack of them: contracts. Condition: at most 60 places. -/
import Derived.Test.YtgmipobohnagnaaDoorRkE
import Derived.Test.YtgmipobohnagnaaDoorResC
import Derived.Test.YtgmipobohnagnaaDoorRuns2
import Derived.Test.YtgmipobohnagnaaDoorFirst
namespace Go.Proofs.YtgmipobohnagnaaDoor
set_option linter.unusedSimpArgs false
set_option linter.unusedVariables false
set_option maxRecDepth 100000
open Go.RowKit

abbrev PcsOf := SliceN Pc.cells
theorem pcAt_some {w : World} {g o : Nat} {xs : List Pc} (h : AtN Pc.cells w g o xs) {i : Nat} (hi : i < xs.length) :
    w.cell? ⟨g, o + i * 9, none⟩ = some (.bool xs[i].t) ∧ w.cell? ⟨g, o + i * 9 + 1, none⟩ = some (.int .i16 xs[i].b.c) ∧ w.cell? ⟨g, o + i * 9 + 2, none⟩ = some (.int .u8 xs[i].b.m0) ∧ w.cell? ⟨g, o + i * 9 + 3, none⟩ = some (.int .u8 xs[i].b.m1) ∧ w.cell? ⟨g, o + i * 9 + 4, none⟩ = some (.int .u8 xs[i].b.m2) ∧
    w.cell? ⟨g, o + i * 9 + 5, none⟩ = some (.int .i16 xs[i].b.v) ∧ w.cell? ⟨g, o + i * 9 + 6, none⟩ = some (.int .i16 xs[i].b.wi) ∧ w.cell? ⟨g, o + i * 9 + 7, none⟩ = some (.int .i16 xs[i].b.hi) ∧ w.cell? ⟨g, o + i * 9 + 8, none⟩ = some (.int .i16 xs[i].b.we) :=
  ⟨h i hi 0 _ rfl, h i hi 1 _ rfl, h i hi 2 _ rfl, h i hi 3 _ rfl, h i hi 4 _ rfl, h i hi 5 _ rfl, h i hi 6 _ rfl, h i hi 7 _ rfl, h i hi 8 _ rfl⟩
theorem whereTo_succ {t : Bool} {q : List Pc} {k : Nat} (h : k < q.length) : whereTo t q (k + 1) = whereTo t q k ++ (if q[k].t == t then [(k : Int)] else []) := by
  rw [whereTo, getD_pc (List.getElem?_eq_getElem h)]

set_option maxHeartbeats 8000000 in
theorem whereM_any (v0 : Value) (q : List Pc) (t : Bool) (w : World) (hs : PcsOf w v0 q) (hn : q.length ≤ 200) :
    Calls Tryd.prog 31 #[v0, .bool t] w fun e w' => ∃ v, e = .returned v ∧ w'.ownsRow w.heap.size 2 1 v (whr t q).length ((whr t q).map (Value.int .i64)) ∧ Below w.heap.size w w' := by
  obtain ⟨A, c, rfl, hs⟩ := hs
  obtain ⟨i0, hi, hz0, hz1, hz2⟩ := info_parts infoInt64
  have HS := Lib.hid hs
  have H0 := Lib.hid (show w.ownsRow w.heap.size 2 1 (.slice none 0 0) (whereTo t q 0).length ((whereTo t q 0).map (Value.int .i64)) from ⟨rfl, .inl ⟨rfl, rfl⟩⟩)
  clear hs
  go_enter Tryd.func31, Tryd.ntmps31
  go_wp2
  go_loopw [5, 10] (fun v i_ wr => ∃ (k : Nat), k ≤ q.length ∧ i_ = .int .i64 (k : Int) ∧ wr.ownsRow w.heap.size 2 1 v (whereTo t q k).length ((whereTo t q k).map (Value.int .i64)) ∧ Below w.heap.size w wr) (fun _ i_ _ => q.length - (intOf i_).toNat)
  case atStart => exact ⟨0, Nat.zero_le _, rfl, H0.out, Below.refl _ _⟩
  case round =>
    obtain ⟨k, hk, rfl, hown, hb⟩ := hrel
    have OW := Lib.hid hown
    have hz := hb.size
    clear hown
    have hwl := whereTo_length t q k
    by_cases hlt : k < q.length
    · obtain ⟨ga, oa, rfl, hga, hat⟩ := HS.out (by omega)
      have hlt' := hlt
      obtain ⟨p0, p1, p2, p3, p4, p5, p6, p7, p8⟩ := pcAt_some (hat.below hb hga) hlt
      have WS := Lib.hid (whereTo_succ (t := t) hlt)
      clear hat
      generalize q[k] = x at WS p0 p1 p2 p3 p4 p5 p6 p7 p8
      cases ht : (x.t == t)
      · have WE := Lib.hid (show whereTo t q (k + 1) = whereTo t q k by rw [WS.out, ht]; simp)
        go_wp2
        go_roundw
        case rel => exact ⟨k + 1, by omega, by go_num, by rw [WE.out]; exact OW.out.alloc _, hb.alloc hz _⟩
        case measure => simp [intOf]; omega
      · have WE := Lib.hid (show whereTo t q (k + 1) = whereTo t q k ++ [(k : Int)] by rw [WS.out, ht]; rfl)
        go_wp2_with (at_builtin; refine wpList_append_own _ rfl (.tmp 19) (.tmp 21) _ rfl w.heap.size 2 i0 (.int .i64 0) 1 8 Tryd.underlying54 hi hz0 hz1 hz2 rfl (by decide) _ _ _ rfl ((OW.out.alloc _).alloc _) ⟨wr.heap.size + 1, 0, none⟩ 1 1 [.int .i64 (k : Int)] rfl rfl ?c1b ?c2b ?c3b ?c4b ?c5b ?_)
        case c1b => exact (by simpa using cell_one_new (wr.alloc _) (.int .i64 (k : Int)) 2)
        case c2b => (intro u hu; simp at hu; subst hu; rfl)
        case c3b => (unfold maxLen; omega)
        case c4b => omega
        case c5b => (simp; omega)
        intro v' w2 hown' hgrow' _
        have OW' := Lib.hid hown'
        have g2 : Below w.heap.size w w2 := ((hb.alloc hz _).alloc (by simp; omega) _).grown hgrow' (by simp; omega) (fun k hk => (OW.out.lt k hk).1)
        clear hown' hgrow'
        go_wp2
        go_roundw
        case rel => exact ⟨k + 1, by omega, by go_num, by have h := OW'.out; rw [WE.out]; simpa using h, g2⟩
        case measure => simp [intOf]; omega
    · obtain rfl : k = q.length := by omega
      go_wp2
      go_ret
      exact ⟨_, rfl, OW.out, hb⟩
theorem where_any (v0 : Value) (q : List Pc) (t : Bool) (w : World) (hs : PcsOf w v0 q) (hn : q.length ≤ 60) :
    Calls Tryd.prog 31 #[v0, .bool t] w fun e w' => ∃ v, e = .returned v ∧ w'.ownsRow w.heap.size 2 1 v (whr t q).length ((whr t q).map (Value.int .i64)) ∧ Below w.heap.size w w' :=
  whereM_any v0 q t w hs (by omega)
end Go.Proofs.YtgmipobohnagnaaDoor
