/- The measures of a row, by the program: contracts. Condition: a row of at most 60 books, whose free width is small. -/
import Derived.Test.YtpamflkefgpdpaaSums2
namespace Go.Proofs.Ytpamflkefgpdpaa
set_option linter.unusedSimpArgs false
set_option linter.unusedVariables false
set_option maxRecDepth 100000
open Go.RowKit

def useI (d : Nat) : Int := if d = 0 then 0 else 1
def measV (m : Nat) (d : Nat) (f : Int) : Int := if m = 0 then f else if m = 1 then useI d else useI d * f * f

set_option maxHeartbeats 400000 in
theorem freeWide_any (X : Option Addr) (i : Int) (d : Nat) (f : Int) (w : World) :
    Calls Try.prog 105 #[.agg #[.int .i64 i, .slice X d d, .int .i64 f]] w fun e w' => e = .returned (.int .i64 f) ∧ Below w.heap.size w w' := by
  go_enter Try.func105, Try.ntmps105
  go_wp2
  go_ret
  exact ⟨rfl, by go_grown⟩

set_option maxHeartbeats 400000 in
theorem used_any (X : Option Addr) (i : Int) (d : Nat) (f : Int) (w : World) (hd : d ≤ 60) :
    Calls Try.prog 106 #[.agg #[.int .i64 i, .slice X d d, .int .i64 f]] w fun e w' => e = .returned (.int .i64 (useI d)) ∧ Below w.heap.size w w' := by
  have h3 : d = 0 ∨ d = 1 ∨ 2 ≤ d := by omega
  rcases h3 with rfl | rfl | h
  · go_enter Try.func106, Try.ntmps106
    go_wp2
    go_ret
    exact ⟨rfl, by go_grown⟩
  · go_enter Try.func106, Try.ntmps106
    go_wp2
    go_ret
    exact ⟨rfl, by go_grown⟩
  · have E := Lib.hid (show useI d = 1 by unfold useI; rw [if_neg (by omega)])
    have h1 : ¬ ((d : Int) < 1) := by omega
    have h2 : (1 : Int) < (d : Int) := by omega
    have h4 : ¬ ((d : Int) ≤ 1) := by omega
    go_enter Try.func106, Try.ntmps106
    go_wp2
    go_ret
    exact ⟨by rw [E.out]; rfl, by go_grown⟩

set_option maxHeartbeats 1000000 in
theorem cost_any (X : Option Addr) (i : Int) (d : Nat) (f : Int) (w : World) (hd : d ≤ 60) (f1 : -2100000 ≤ f) (f2 : f ≤ 2100000) :
    Calls Try.prog 107 #[.agg #[.int .i64 i, .slice X d d, .int .i64 f]] w fun e w' => e = .returned (.int .i64 (useI d * f * f)) ∧ Below w.heap.size w w' := by
  have HU := Lib.hid (fun W => used_any X i d f W hd)
  have hu : useI d = 0 ∨ useI d = 1 := by unfold useI; split <;> simp
  generalize useI d = u at *
  have mf : -4410000000000 ≤ f * f ∧ f * f ≤ 4410000000000 := by
    rcases Int.le_total 0 f with h | h
    · have := mul_bd (a := f) (M := 2100000) h f2; omega
    · have := mul_bd (a := -f) (M := 2100000) (by omega) (by omega)
      rw [Int.neg_mul_neg] at this
      omega
  have w1 : IntKind.i64.wrap (u * f) = u * f := by rcases hu with rfl | rfl <;> refine IntWalk.i64_in _ (by omega)
  have w2 : IntKind.i64.wrap (u * f * f) = u * f * f := by rcases hu with rfl | rfl <;> refine IntWalk.i64_in _ (by first | (simp; done) | (simp; omega))
  clear hu mf
  go_enter Try.func107, Try.ntmps107
  go_wp2
  generalize hw0 : World.alloc _ _ = W
  have p0 : W.cell? ⟨w.heap.size, 0, none⟩ = some (.int .i64 i) := by rw [← hw0]; clear hw0; go_simp
  have p1 : W.cell? ⟨w.heap.size, 1, none⟩ = some (.slice X d d) := by rw [← hw0]; clear hw0; go_simp
  have p2 : W.cell? ⟨w.heap.size, 2, none⟩ = some (.int .i64 f) := by rw [← hw0]; clear hw0; go_simp
  have z0 : w.heap.size < W.heap.size := by rw [← hw0]; clear hw0; simp
  have g0 : Below w.heap.size w W := by rw [← hw0]; clear hw0; go_grown
  clear hw0
  have p0 := belowBy_cell z0 p0
  have p1 := belowBy_cell z0 p1
  have p2 := belowBy_cell z0 p2
  refine wp_region_below (by kernel_rfl) (by kernel_rfl) ?_
  repeat (quiet_step ((go_at_call 106; exact calls_below (HU.out _))))
  refine wpQuiet_nil ?_
  rintro _ ⟨⟨wq, hq⟩, rfl⟩
  clear p0 p1 p2
  go_wp2
  go_ret
  exact ⟨by first | rfl | (congr 2), bnext g0 hq⟩

set_option maxHeartbeats 4000000 in
theorem of_any (m : Nat) (hm : m < 3) (X : Option Addr) (i : Int) (d : Nat) (f : Int) (w : World) (hd : d ≤ 60) (f1 : -2100000 ≤ f) (f2 : f ≤ 2100000) :
    Calls Try.prog 89 #[.int .i64 (m : Int), .agg #[.int .i64 i, .slice X d d, .int .i64 f]] w fun e w' => e = .returned (.int .i64 (measV m d f)) ∧ Below w.heap.size w w' := by
  have HU := Lib.hid (fun W => used_any X i d f W hd)
  have HF := Lib.hid (fun W => freeWide_any X i d f W)
  have HC := Lib.hid (fun W => cost_any X i d f W hd f1 f2)
  have hm3 : m = 0 ∨ m = 1 ∨ m = 2 := by omega
  rcases hm3 with rfl | rfl | rfl
  all_goals
    go_enter Try.func89, Try.ntmps89
    go_wp2
    generalize hw0 : World.alloc _ _ = W
    have p0 : W.cell? ⟨w.heap.size, 0, none⟩ = some (.int .i64 i) := by rw [← hw0]; clear hw0; go_simp
    have p1 : W.cell? ⟨w.heap.size, 1, none⟩ = some (.slice X d d) := by rw [← hw0]; clear hw0; go_simp
    have p2 : W.cell? ⟨w.heap.size, 2, none⟩ = some (.int .i64 f) := by rw [← hw0]; clear hw0; go_simp
    have q0 : W.cell? ⟨w.heap.size + 1, 0, none⟩ = some (.func (.func 105) #[] #[]) := by rw [← hw0]; clear hw0; go_simp
    have q1 : W.cell? ⟨w.heap.size + 1, 1, none⟩ = some (.func (.func 106) #[] #[]) := by rw [← hw0]; clear hw0; go_simp
    have q2 : W.cell? ⟨w.heap.size + 1, 2, none⟩ = some (.func (.func 107) #[] #[]) := by rw [← hw0]; clear hw0; go_simp
    have z0 : w.heap.size < W.heap.size := by rw [← hw0]; clear hw0; simp; omega
    have z1 : w.heap.size + 1 < W.heap.size := by rw [← hw0]; clear hw0; simp
    have g0 : Below w.heap.size w W := by rw [← hw0]; clear hw0; go_grown
    clear hw0
    have p0 := belowBy_cell z0 p0
    have p1 := belowBy_cell z0 p1
    have p2 := belowBy_cell z0 p2
    have q0 := belowBy_cell z1 q0
    have q1 := belowBy_cell z1 q1
    have q2 := belowBy_cell z1 q2
    refine wp_region_below (by kernel_rfl) (by kernel_rfl) ?_
    repeat (quiet_step ((first | (go_at_call 106; exact calls_below (HU.out _)) | (go_at_call 105; exact calls_below (HF.out _)) | (go_at_call 107; exact calls_below (HC.out _)))))
    refine wpQuiet_nil ?_
    rintro _ ⟨⟨wq, hq⟩, rfl⟩
    clear p0 p1 p2 q0 q1 q2
    go_wp2
    go_ret
    exact ⟨rfl, bnext g0 hq⟩

end Go.Proofs.Ytpamflkefgpdpaa
