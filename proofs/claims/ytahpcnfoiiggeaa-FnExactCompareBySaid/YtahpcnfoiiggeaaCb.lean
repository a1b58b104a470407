/- Two books compared by an order, by the model and by the program: contracts. Condition: the order is no longer than a slice can be, its numbers are int8s; the books' numbers lie within their kinds. -/
import Derived.Test.YtahpcnfoiiggeaaFields
import Derived.Test.YtahpcnfoiiggeaaOrd3
import Derived.Test.YtahpcnfoiiggeaaValid2
namespace Go.Proofs.Ytahpcnfoiiggeaa
set_option linter.unusedSimpArgs false
set_option linter.unusedVariables false
open Go.RowKit

def cbVal (zs : List Int) (a b : Bk) : Int := if okO zs && (bookB a && bookB b) then cmpL zs a b else 0
def cbCode (zs : List Int) (a b : Bk) : Int := if okO zs && (bookB a && bookB b) then 0 else 1

theorem cb_cases (zs : List Int) (a b : Bk) :
    (okO zs = false ∧ cbVal zs a b = 0 ∧ cbCode zs a b = 1) ∨ (okO zs = true ∧ bookB a = false ∧ cbVal zs a b = 0 ∧ cbCode zs a b = 1) ∨
    (okO zs = true ∧ bookB a = true ∧ bookB b = false ∧ cbVal zs a b = 0 ∧ cbCode zs a b = 1) ∨ (okO zs = true ∧ bookB a = true ∧ bookB b = true ∧ cbVal zs a b = cmpL zs a b ∧ cbCode zs a b = 0) := by
  unfold cbVal cbCode
  cases okO zs <;> cases bookB a <;> cases bookB b <;> simp

theorem okO_fields {zs : List Int} (h : okO zs = true) : ∀ z ∈ zs, 1 ≤ fieldOf z ∧ fieldOf z ≤ 6 := by
  intro z hz
  have h1 : 0 < zs.length ∧ GoodTo zs zs.length := by unfold okO at h; simpa using h
  exact h1.2.1 (fieldOf z) (by unfold fsOf; rw [List.take_length]; exact List.mem_map.2 ⟨z, hz, rfl⟩)

theorem Below.of_alloc {w w' : World} {o : Obj} (h : w.alloc o = w') : Below w.heap.size w w' := by
  subst h
  exact (Below.refl _ _).alloc (Nat.le_refl _) _

set_option maxHeartbeats 4000000 in
theorem specCompareBy_any (v : Value) (zs : List Int) (hz : ∀ z ∈ zs, -128 ≤ z ∧ z ≤ 127) (a b : Bk) (ha : a.Wf) (hb : b.Wf) (w : World) (hs : IntsOf .i8 w v zs) (hn : zs.length ≤ maxLen) :
    Calls Try.prog 29 #[v, .agg #[.int .i16 a.c, .int .u8 a.m0, .int .u8 a.m1, .int .u8 a.m2, .int .i16 a.v, .int .i16 a.wi, .int .i16 a.hi, .int .i16 a.we], .agg #[.int .i16 b.c, .int .u8 b.m0, .int .u8 b.m1, .int .u8 b.m2, .int .i16 b.v, .int .i16 b.wi, .int .i16 b.hi, .int .i16 b.we]] w fun e w' => e = .returned (.tuple #[.int .i64 (cbVal zs a b), .int .i64 (cbCode zs a b)]) ∧ Below w.heap.size w w' := by
  have HS := Lib.hid hs
  have HZ := Lib.hid hz
  have WA := Lib.hid ha
  have WB := Lib.hid hb
  clear hs hz ha hb
  have PA := Lib.hid (show BkAt ((w.alloc (.cells #[.int .i16 a.c, .int .u8 a.m0, .int .u8 a.m1, .int .u8 a.m2, .int .i16 a.v, .int .i16 a.wi, .int .i16 a.hi, .int .i16 a.we] 29)).alloc (.cells #[.int .i16 b.c, .int .u8 b.m0, .int .u8 b.m1, .int .u8 b.m2, .int .i16 b.v, .int .i16 b.wi, .int .i16 b.hi, .int .i16 b.we] 29)) w.heap.size 0 a from (bkAt_new w a _).next ((Below.refl _ _).alloc (Nat.le_refl _) _))
  have PB := Lib.hid (show BkAt ((w.alloc (.cells #[.int .i16 a.c, .int .u8 a.m0, .int .u8 a.m1, .int .u8 a.m2, .int .i16 a.v, .int .i16 a.wi, .int .i16 a.hi, .int .i16 a.we] 29)).alloc (.cells #[.int .i16 b.c, .int .u8 b.m0, .int .u8 b.m1, .int .u8 b.m2, .int .i16 b.v, .int .i16 b.wi, .int .i16 b.hi, .int .i16 b.we] 29)) (w.heap.size + 1) 0 b by have := bkAt_new (w.alloc (.cells #[.int .i16 a.c, .int .u8 a.m0, .int .u8 a.m1, .int .u8 a.m2, .int .i16 a.v, .int .i16 a.wi, .int .i16 a.hi, .int .i16 a.we] 29)) b 29; simpa using this)
  have G0 := Lib.hid (show Below w.heap.size w ((w.alloc (.cells #[.int .i16 a.c, .int .u8 a.m0, .int .u8 a.m1, .int .u8 a.m2, .int .i16 a.v, .int .i16 a.wi, .int .i16 a.hi, .int .i16 a.we] 29)).alloc (.cells #[.int .i16 b.c, .int .u8 b.m0, .int .u8 b.m1, .int .u8 b.m2, .int .i16 b.v, .int .i16 b.wi, .int .i16 b.hi, .int .i16 b.we] 29)) from ((Below.refl _ _).alloc (Nat.le_refl _) _).alloc (by simp) _)
  rcases cb_cases zs a b with ⟨k1, e0, e1⟩ | ⟨k1, k2, e0, e1⟩ | ⟨k1, k2, k3, e0, e1⟩ | ⟨k1, k2, k3, e0, e1⟩
  · have E0 := Lib.hid e0
    have E1 := Lib.hid e1
    clear e0 e1
    go_enter Try.func29, Try.ntmps29
    go_wp2_with fail
    generalize (w.alloc _).alloc _ = W at PA PB G0 ⊢
    refine (l01Order_any v zs HZ.out _ (HS.out.below G0.out) hn).mono ?_
    rintro e w1 ⟨rfl, h1⟩
    rw [k1]
    go_wp2
    go_ret2
    exact ⟨by rw [E0.out, E1.out]; rfl, bnext G0.out h1⟩
  · have E0 := Lib.hid e0
    have E1 := Lib.hid e1
    clear e0 e1
    go_enter Try.func29, Try.ntmps29
    go_wp2_with fail
    generalize (w.alloc _).alloc _ = W at PA PB G0 ⊢
    refine (l01Order_any v zs HZ.out _ (HS.out.below G0.out) hn).mono ?_
    rintro e w1 ⟨rfl, h1⟩
    rw [k1]
    go_wp2_with fail
    obtain ⟨za, x0, x1, x2, x3, x4, x5, x6, x7⟩ := PA.out.next h1
    refine (l01Book_any a WA.out _ _ _ x0 x1 x2 x3 x4 x5 x6 x7 za).mono ?_
    rintro e w2 ⟨rfl, h2⟩
    clear x0 x1 x2 x3 x4 x5 x6 x7 za
    rw [k2]
    go_wp2
    go_ret2
    exact ⟨by rw [E0.out, E1.out]; rfl, bnext G0.out (bnext h1 h2)⟩
  · have E0 := Lib.hid e0
    have E1 := Lib.hid e1
    clear e0 e1
    go_enter Try.func29, Try.ntmps29
    go_wp2_with fail
    generalize (w.alloc _).alloc _ = W at PA PB G0 ⊢
    refine (l01Order_any v zs HZ.out _ (HS.out.below G0.out) hn).mono ?_
    rintro e w1 ⟨rfl, h1⟩
    rw [k1]
    go_wp2_with fail
    obtain ⟨za, x0, x1, x2, x3, x4, x5, x6, x7⟩ := PA.out.next h1
    refine (l01Book_any a WA.out _ _ _ x0 x1 x2 x3 x4 x5 x6 x7 za).mono ?_
    rintro e w2 ⟨rfl, h2⟩
    clear x0 x1 x2 x3 x4 x5 x6 x7 za
    rw [k2]
    go_wp2_with fail
    obtain ⟨zb, x0, x1, x2, x3, x4, x5, x6, x7⟩ := PB.out.next (bnext h1 h2)
    refine (l01Book_any b WB.out _ _ _ x0 x1 x2 x3 x4 x5 x6 x7 zb).mono ?_
    rintro e w3 ⟨rfl, h3⟩
    clear x0 x1 x2 x3 x4 x5 x6 x7 zb
    rw [k3]
    go_wp2
    go_ret2
    exact ⟨by rw [E0.out, E1.out]; rfl, bnext G0.out (bnext (bnext h1 h2) h3)⟩
  · have E0 := Lib.hid e0
    have E1 := Lib.hid e1
    clear e0 e1
    go_enter Try.func29, Try.ntmps29
    go_wp2_with fail
    generalize (w.alloc _).alloc _ = W at PA PB G0 ⊢
    refine (l01Order_any v zs HZ.out _ (HS.out.below G0.out) hn).mono ?_
    rintro e w1 ⟨rfl, h1⟩
    rw [k1]
    go_wp2_with fail
    obtain ⟨za, x0, x1, x2, x3, x4, x5, x6, x7⟩ := PA.out.next h1
    refine (l01Book_any a WA.out _ _ _ x0 x1 x2 x3 x4 x5 x6 x7 za).mono ?_
    rintro e w2 ⟨rfl, h2⟩
    clear x0 x1 x2 x3 x4 x5 x6 x7 za
    rw [k2]
    go_wp2_with fail
    obtain ⟨zb, x0, x1, x2, x3, x4, x5, x6, x7⟩ := PB.out.next (bnext h1 h2)
    refine (l01Book_any b WB.out _ _ _ x0 x1 x2 x3 x4 x5 x6 x7 zb).mono ?_
    rintro e w3 ⟨rfl, h3⟩
    clear x0 x1 x2 x3 x4 x5 x6 x7 zb
    rw [k3]
    go_wp2_with fail
    refine (l01Compare_any v zs HZ.out a b WA.out WB.out _ _ _ _ _ (HS.out.below (bnext G0.out (bnext (bnext h1 h2) h3))) hn (PA.out.next (bnext (bnext h1 h2) h3)) (PB.out.next (bnext (bnext h1 h2) h3))).mono ?_
    rintro e w4 ⟨rfl, h4⟩
    go_wp2
    go_ret2
    exact ⟨by rw [E0.out, E1.out]; rfl, bnext G0.out (bnext (bnext (bnext h1 h2) h3) h4)⟩

set_option maxHeartbeats 4000000 in
theorem compareBy_any (v : Value) (zs : List Int) (hz : ∀ z ∈ zs, -128 ≤ z ∧ z ≤ 127) (a b : Bk) (ha : a.Wf) (hb : b.Wf) (w : World) (hs : IntsOf .i8 w v zs) (hn : zs.length ≤ maxLen) :
    Calls Try.prog 30 #[v, .agg #[.int .i16 a.c, .int .u8 a.m0, .int .u8 a.m1, .int .u8 a.m2, .int .i16 a.v, .int .i16 a.wi, .int .i16 a.hi, .int .i16 a.we], .agg #[.int .i16 b.c, .int .u8 b.m0, .int .u8 b.m1, .int .u8 b.m2, .int .i16 b.v, .int .i16 b.wi, .int .i16 b.hi, .int .i16 b.we]] w fun e w' => e = .returned (.tuple #[.int .i64 (cbVal zs a b), .int .i64 (cbCode zs a b)]) ∧ Below w.heap.size w w' := by
  have HS := Lib.hid hs
  have HZ := Lib.hid hz
  have WA := Lib.hid ha
  have WB := Lib.hid hb
  clear hs hz ha hb
  have PA := Lib.hid (show BkAt ((w.alloc (.cells #[.int .i16 a.c, .int .u8 a.m0, .int .u8 a.m1, .int .u8 a.m2, .int .i16 a.v, .int .i16 a.wi, .int .i16 a.hi, .int .i16 a.we] 29)).alloc (.cells #[.int .i16 b.c, .int .u8 b.m0, .int .u8 b.m1, .int .u8 b.m2, .int .i16 b.v, .int .i16 b.wi, .int .i16 b.hi, .int .i16 b.we] 29)) w.heap.size 0 a from (bkAt_new w a _).next ((Below.refl _ _).alloc (Nat.le_refl _) _))
  have PB := Lib.hid (show BkAt ((w.alloc (.cells #[.int .i16 a.c, .int .u8 a.m0, .int .u8 a.m1, .int .u8 a.m2, .int .i16 a.v, .int .i16 a.wi, .int .i16 a.hi, .int .i16 a.we] 29)).alloc (.cells #[.int .i16 b.c, .int .u8 b.m0, .int .u8 b.m1, .int .u8 b.m2, .int .i16 b.v, .int .i16 b.wi, .int .i16 b.hi, .int .i16 b.we] 29)) (w.heap.size + 1) 0 b by have := bkAt_new (w.alloc (.cells #[.int .i16 a.c, .int .u8 a.m0, .int .u8 a.m1, .int .u8 a.m2, .int .i16 a.v, .int .i16 a.wi, .int .i16 a.hi, .int .i16 a.we] 29)) b 29; simpa using this)
  have G0 := Lib.hid (show Below w.heap.size w ((w.alloc (.cells #[.int .i16 a.c, .int .u8 a.m0, .int .u8 a.m1, .int .u8 a.m2, .int .i16 a.v, .int .i16 a.wi, .int .i16 a.hi, .int .i16 a.we] 29)).alloc (.cells #[.int .i16 b.c, .int .u8 b.m0, .int .u8 b.m1, .int .u8 b.m2, .int .i16 b.v, .int .i16 b.wi, .int .i16 b.hi, .int .i16 b.we] 29)) from ((Below.refl _ _).alloc (Nat.le_refl _) _).alloc (by simp) _)
  rcases cb_cases zs a b with ⟨k1, e0, e1⟩ | ⟨k1, k2, e0, e1⟩ | ⟨k1, k2, k3, e0, e1⟩ | ⟨k1, k2, k3, e0, e1⟩
  · have E0 := Lib.hid e0
    have E1 := Lib.hid e1
    clear e0 e1
    go_enter Try.func30, Try.ntmps30
    go_wp2_with fail
    generalize (w.alloc _).alloc _ = W at PA PB G0 ⊢
    refine (validOrder_any v zs HZ.out _ (HS.out.below G0.out) hn).mono ?_
    rintro e w1 ⟨rfl, h1⟩
    rw [k1]
    go_wp2
    go_ret2
    exact ⟨by rw [E0.out, E1.out]; rfl, bnext G0.out h1⟩
  · have E0 := Lib.hid e0
    have E1 := Lib.hid e1
    clear e0 e1
    go_enter Try.func30, Try.ntmps30
    go_wp2_with fail
    generalize (w.alloc _).alloc _ = W at PA PB G0 ⊢
    refine (validOrder_any v zs HZ.out _ (HS.out.below G0.out) hn).mono ?_
    rintro e w1 ⟨rfl, h1⟩
    rw [k1]
    obtain ⟨za, x0, x1, x2, x3, x4, x5, x6, x7⟩ := PA.out.next h1
    go_wp2_with fail
    refine (validBook_any a _).mono ?_
    rintro e w2 ⟨rfl, h2⟩
    have h2 := Below.of_alloc h2
    clear x0 x1 x2 x3 x4 x5 x6 x7 za
    rw [k2]
    go_wp2
    go_ret2
    exact ⟨by rw [E0.out, E1.out]; rfl, bnext G0.out (bnext h1 h2)⟩
  · have E0 := Lib.hid e0
    have E1 := Lib.hid e1
    clear e0 e1
    go_enter Try.func30, Try.ntmps30
    go_wp2_with fail
    generalize (w.alloc _).alloc _ = W at PA PB G0 ⊢
    refine (validOrder_any v zs HZ.out _ (HS.out.below G0.out) hn).mono ?_
    rintro e w1 ⟨rfl, h1⟩
    rw [k1]
    obtain ⟨za, x0, x1, x2, x3, x4, x5, x6, x7⟩ := PA.out.next h1
    go_wp2_with fail
    refine (validBook_any a _).mono ?_
    rintro e w2 ⟨rfl, h2⟩
    have h2 := Below.of_alloc h2
    clear x0 x1 x2 x3 x4 x5 x6 x7 za
    rw [k2]
    obtain ⟨zb, x0, x1, x2, x3, x4, x5, x6, x7⟩ := PB.out.next (bnext h1 h2)
    go_wp2_with fail
    refine (validBook_any b _).mono ?_
    rintro e w3 ⟨rfl, h3⟩
    have h3 := Below.of_alloc h3
    clear x0 x1 x2 x3 x4 x5 x6 x7 zb
    rw [k3]
    go_wp2
    go_ret2
    exact ⟨by rw [E0.out, E1.out]; rfl, bnext G0.out (bnext (bnext h1 h2) h3)⟩
  · have E0 := Lib.hid e0
    have E1 := Lib.hid e1
    clear e0 e1
    go_enter Try.func30, Try.ntmps30
    go_wp2_with fail
    generalize (w.alloc _).alloc _ = W at PA PB G0 ⊢
    refine (validOrder_any v zs HZ.out _ (HS.out.below G0.out) hn).mono ?_
    rintro e w1 ⟨rfl, h1⟩
    rw [k1]
    obtain ⟨za, x0, x1, x2, x3, x4, x5, x6, x7⟩ := PA.out.next h1
    go_wp2_with fail
    refine (validBook_any a _).mono ?_
    rintro e w2 ⟨rfl, h2⟩
    have h2 := Below.of_alloc h2
    clear x0 x1 x2 x3 x4 x5 x6 x7 za
    rw [k2]
    obtain ⟨zb, x0, x1, x2, x3, x4, x5, x6, x7⟩ := PB.out.next (bnext h1 h2)
    go_wp2_with fail
    refine (validBook_any b _).mono ?_
    rintro e w3 ⟨rfl, h3⟩
    have h3 := Below.of_alloc h3
    clear x0 x1 x2 x3 x4 x5 x6 x7 zb
    rw [k3]
    obtain ⟨za, x0, x1, x2, x3, x4, x5, x6, x7⟩ := PA.out.next (bnext (bnext h1 h2) h3)
    obtain ⟨zb, y0, y1, y2, y3, y4, y5, y6, y7⟩ := PB.out.next (bnext (bnext h1 h2) h3)
    go_wp2_with fail
    refine (compareFields_any v zs (okO_fields k1) a b WA.out WB.out _ (HS.out.below (bnext G0.out (bnext (bnext h1 h2) h3))) hn).mono ?_
    rintro e w4 ⟨rfl, h4⟩
    clear x0 x1 x2 x3 x4 x5 x6 x7 y0 y1 y2 y3 y4 y5 y6 y7 za zb
    go_wp2
    go_ret2
    exact ⟨by rw [E0.out, E1.out]; rfl, bnext G0.out (bnext (bnext (bnext h1 h2) h3) h4)⟩

end Go.Proofs.Ytahpcnfoiiggeaa
