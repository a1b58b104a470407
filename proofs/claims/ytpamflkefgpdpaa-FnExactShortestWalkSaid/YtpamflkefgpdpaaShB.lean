/- Stops put in order, and where a start lies among them: contracts. Condition: at most 100 stops. -/
import Derived.Test.YtpamflkefgpdpaaShA
import Derived.Shelf.SortM.Plain
import Derived.Shelf.SortM.SortNone
import Derived.Shelf.SlGeneric
import Derived.Ground.SlgmProg
import Derived.Ground.SlgnProg
import Derived.Shelf.SlicesG.SearchI
import Derived.Sort.OwnSortedInts
namespace Go.Proofs.Ytpamflkefgpdpaa
set_option linter.unusedSimpArgs false
set_option linter.unusedVariables false
set_option maxRecDepth 100000
open Go.RowKit Go.Shelf

shelf_lay_g SlLaysM.n5 Slgm 5 at Try 94 as sortZL
shelf_lay_g SlLaysN.n49 Slgn 49 at Try 65 as searchZL

theorem sortInts_any (v : Value) (zs : List Int) (base : Nat) (w : World) (hown : w.ownsRow base 2 1 v zs.length (zs.map (Value.int .i64))) (hn : zs.length ≤ 100) :
    Calls Try.prog 94 #[v] w fun e w' => e = .returned (.tuple #[]) ∧ w'.ownsRow base 2 1 v zs.length ((rowI zs).map (Value.int .i64)) ∧ w.grownBy w' v.ownBlock := by
  by_cases h0 : zs.length = 0
  · obtain ⟨A, c, rfl⟩ := vlen_own1 hown
    obtain rfl : zs = [] := List.eq_nil_of_length_eq_zero h0
    have H := AnyM.slices_Sort_int_none sortZL A c w
    refine H.mono fun e w' h => ?_
    obtain ⟨h1, h2⟩ := h
    subst h2
    refine ⟨h1, ?_, World.grownBy.refl _ _⟩
    simpa [rowI] using hown
  · rcases hown.2 with ⟨_, h⟩ | ⟨g, cap, cur, rfl, hb, hg, hc, hm, hs, ht⟩
    · exact absurd h h0
    · have hlt := (Array.getElem?_eq_some_iff.1 hg).1
      have H := AnyM.slices_Sort_int sortZL g 0 cap zs w (holds_of_blockI hg (by simpa using ht)) hlt (by omega)
      refine H.mono fun e w' h => ?_
      obtain ⟨h1, n, os, rfl⟩ := h
      exact ⟨h1, ownsRow_sortedI (by rw [List.length_mergeSort]) hb hg hc hm hs, grownBy_sortedI _⟩
theorem rowI_length (zs : List Int) : (rowI zs).length = zs.length := (rowI_perm zs).length_eq

set_option maxHeartbeats 1000000 in
theorem sorted_any (Bn : Nat) (A : Option Addr) (c : Nat) (hs : List Int) (w : World) (hc : w.heap[Bn]? = some (.cells #[.slice A hs.length c] 22 (0, 0))) (hi : IntsV w w.heap.size A hs) (hlen : hs.length ≤ 100) :
    Calls Try.prog 63 #[.func (.func 95) #[] #[.pointer (some ⟨Bn, 0, none⟩)]] w fun e w' => ∃ u, e = .returned u ∧ w'.ownsRow w.heap.size 2 1 u hs.length ((rowI hs).map (Value.int .i64)) ∧ Below w.heap.size w w' := by
  have AQ := Lib.hid (collect_any Bn A c hs w hc hi hlen)
  clear hc hi
  go_enter Try.func63, Try.ntmps63
  go_wp2_with fail
  refine AQ.out.mono ?_
  rintro e w1 ⟨u, rfl, ho, hb⟩
  have OO := Lib.hid ho
  obtain ⟨Au, cu, rfl⟩ := vlen_own1 ho
  clear ho
  go_wp2_with fail
  refine (sortInts_any _ hs w.heap.size _ OO.out hlen).mono ?_
  rintro e w2 ⟨rfl, ho, hg⟩
  have O2 := Lib.hid ho
  have B2 := Lib.hid (hb.grown hg hb.size (fun k hk => (OO.out.lt k hk).1))
  clear ho hg
  go_wp2
  go_ret
  exact ⟨_, rfl, O2.out, B2.out⟩

theorem countP_lb : ∀ {row : List Int} (_ : row.Pairwise (· ≤ ·)) (a : Int), row.countP (fun x => decide (x < a)) = lbI row a
  | [], _, _ => rfl
  | v :: t, hp, a => by
    obtain ⟨h1, h2⟩ := List.pairwise_cons.1 hp
    have ih := countP_lb h2 a
    unfold lbI at ih ⊢
    by_cases hv : v < a
    · rw [List.countP_cons_of_pos (by simpa using hv), List.takeWhile_cons_of_pos (by simpa using hv), List.length_cons, ih]
    · rw [List.countP_cons_of_neg (by simpa using hv), List.takeWhile_cons_of_neg (by simpa using hv), List.length_nil, List.countP_eq_zero]
      intro x hx
      have := h1 x hx
      simp
      omega
theorem search_any (g : Nat) (c : Nat) (row : List Int) (a : Int) (w : World) (hat : IntsAt .i64 w g 0 row) (hp : row.Pairwise (· ≤ ·)) (hn : row.length ≤ 100) :
    Calls Try.prog 65 #[.slice (some ⟨g, 0, none⟩) row.length c, .int .i64 a] w fun e w' => (∃ b, e = .returned (.tuple #[.int .i64 ((lbI row a : Nat) : Int), .bool b])) ∧ Below w.heap.size w w' := by
  have H := AnyG.slices_BinarySearch_int searchZL g 0 row.length c row a w (Nat.le_refl _) (by omega) (fun j hj => by rw [hat j hj, List.getD_eq_getElem?_getD, List.getElem?_eq_getElem hj]; rfl) (by rw [List.take_length]; exact hp)
  refine H.mono fun e w' h => ?_
  obtain ⟨h1, q, rfl⟩ := h
  rw [List.take_length, countP_lb hp] at h1
  exact ⟨⟨_, h1⟩, below_drewN (Below.refl _ _) q⟩
end Go.Proofs.Ytpamflkefgpdpaa
