/- What the three laid tables (powers of ten; two tables of bits) give a walk: a frame for the laws of texts. Condition: those that the rows print (the three tables read as laid). -/
import Derived.Test.YtaahfcdpgcfmhaaDoorApM
import Derived.Test.YtaahfcdpgcfmhaaDoorRows
import Derived.Lib.LaidTab
import Derived.ChangeSame
import Derived.ChangeVars
import Derived.JoinedOf
import Derived.RowKit
import Derived.RowKitTokens
import Derived.LaidLaws
namespace Go.Proofs.YtaahfcdpgcfmhaaDoor
set_option linter.unusedSimpArgs false
set_option linter.unusedVariables false
set_option maxRecDepth 100000
open Go.ChangeShapes Go.WideShapes Go.ChangeAt Go.RowKit

def zsOf (d : DataW Unit) : List Int := match d with | .agg l => l.map (fun x => match x with | .lit (.int _ z) => z | _ => 0) | _ => []
def z32 : List Int := zsOf Rows.laid_math_bits_deBruijn32tab
def z64 : List Int := zsOf Rows.laid_math_bits_deBruijn64tab
theorem d32 : (Rows.laid_math_bits_deBruijn32tab : DataW Unit) = Lib.tabData .u8 z32 := by kernel_rfl
theorem d64 : (Rows.laid_math_bits_deBruijn64tab : DataW Unit) = Lib.tabData .u8 z64 := by kernel_rfl
theorem d10 : (Rows.laid_internal_strconv_uint64pow10 : DataW Unit) = Lib.tabData .u64 Lib.pow10Tab := by kernel_rfl
def laidT : List (String × DataW Unit) := [("math/bits.deBruijn32tab", Rows.laid_math_bits_deBruijn32tab), ("math/bits.deBruijn64tab", Rows.laid_math_bits_deBruijn64tab), ("internal/strconv.uint64pow10", Rows.laid_internal_strconv_uint64pow10)]
theorem g10 : Tryd.prog.globalNamed "internal/strconv.uint64pow10" = some 3 := by kernel_rfl
theorem g32 : Tryd.prog.globalNamed "math/bits.deBruijn32tab" = some 4 := by kernel_rfl
theorem g64 : Tryd.prog.globalNamed "math/bits.deBruijn64tab" = some 5 := by kernel_rfl
theorem g10T : (Tryd.prog.globals[3]?).map (·.type) = some 235 := by kernel_rfl
theorem g32T : (Tryd.prog.globals[4]?).map (·.type) = some 257 := by kernel_rfl
theorem g64T : (Tryd.prog.globals[5]?).map (·.type) = some 258 := by kernel_rfl
theorem c10 : Tryd.prog.cellsOf 235 = 20 := by kernel_rfl
theorem c32 : Tryd.prog.cellsOf 257 = 32 := by kernel_rfl
theorem c64 : Tryd.prog.cellsOf 258 = 64 := by kernel_rfl
theorem cU8 : Tryd.prog.cellsOf 5 = 1 := by kernel_rfl
theorem cU64 : Tryd.prog.cellsOf 214 = 1 := by kernel_rfl
def cs10 : Array Value := (Lib.pow10Tab.map fun z => Value.int .u64 z).toArray
def cs32 : Array Value := (z32.map fun z => Value.int .u8 z).toArray
def cs64 : Array Value := (z64.map fun z => Value.int .u8 z).toArray

theorem tabs_of_laid {W : World} (h : laidMet Tryd.prog laidT W) :
    W.var? Tryd.prog "internal/strconv.uint64pow10" = some cs10 ∧ W.var? Tryd.prog "math/bits.deBruijn32tab" = some cs32 ∧ W.var? Tryd.prog "math/bits.deBruijn64tab" = some cs64 := by
  obtain ⟨ps, ⟨g0, t0, a0, f0, p0, q0, hg0, ht0, hv0, hd0, ⟨g1, t1, a1, f1, p1, q1, hg1, ht1, hv1, hd1, ⟨g2, t2, a2, f2, p2, q2, hg2, ht2, hv2, hd2, -, -⟩, -⟩, -⟩, -, -⟩ := h
  obtain rfl := Option.some.inj (g32.symm.trans hg0)
  obtain rfl := Option.some.inj (g64.symm.trans hg1)
  obtain rfl := Option.some.inj (g10.symm.trans hg2)
  obtain rfl := Option.some.inj (g32T.symm.trans ht0)
  obtain rfl := Option.some.inj (g64T.symm.trans ht1)
  obtain rfl := Option.some.inj (g10T.symm.trans ht2)
  rw [d32] at hd0
  rw [d64] at hd1
  rw [d10] at hd2
  have e0 := Lib.cells_of_tab Tryd.underlying257 Tryd.underlying5 cU8 c32 hd0
  have e1 := Lib.cells_of_tab Tryd.underlying258 Tryd.underlying5 cU8 c64 hd1
  have e2 := Lib.cells_of_tab Tryd.underlying235 Tryd.underlying214 cU64 c10 hd2
  refine ⟨hv2.trans (congrArg some ?_), hv0.trans (congrArg some ?_), hv1.trans (congrArg some ?_)⟩
  · exact Array.ext' (by rw [e2]; rfl)
  · exact Array.ext' (by rw [e0]; rfl)
  · exact Array.ext' (by rw [e1]; rfl)
theorem tab_of_laid {W : World} (h : laidMet Tryd.prog laidT W) : Tab W.heap.size W := Lib.tabBelow_of_tabIs (tabs_of_laid h).1

/-- A world that meets the condition. -/
noncomputable def laidWorldT (os : Os) : World :=
  let w0 := World.holding Tryd.prog os ⟨#[], #[], []⟩
  { w0 with heap := ((w0.heap.modify 3 fun
      | .cells _ t frozen => .cells cs10 t frozen
      | o => o).modify 4 fun
      | .cells _ t frozen => .cells cs32 t frozen
      | o => o).modify 5 fun
      | .cells _ t frozen => .cells cs64 t frozen
      | o => o }
theorem laidWorldT_met (os : Os) (args : Array Value) : laidMet Tryd.prog laidT ((laidWorldT os).forCall (fun _ _ => 0) ⟨#[], args, []⟩).memory :=
  laidMet_of_run' 8 (by kernel_rfl) (by kernel_rfl)

theorem var_belowT {W W' : World} {n : String} {cs : Array Value} (h : W.var? Tryd.prog n = some cs) (hb : Below W.heap.size W W') : W'.var? Tryd.prog n = some cs := by
  unfold World.var? at h ⊢
  cases hg : Tryd.prog.globalNamed n with
  | none => simp [hg] at h
  | some g =>
    simp only [hg, Option.bind_some] at h ⊢
    have hlt : g < W.heap.size := by
      rcases Nat.lt_or_ge g W.heap.size with h' | h'
      · exact h'
      · simp [Array.getElem?_eq_none h'] at h
    rw [hb.block g hlt]
    exact h
theorem reads10 {H : Type} (enc : TypeId × Value → H) (W : World) (sp : Nat → Bool) : DataW.trod enc Tryd.prog W 0 sp true 3 235 cs10.toList = some (Lib.tabData .u64 Lib.pow10Tab, []) := by kernel_rfl
theorem reads32 {H : Type} (enc : TypeId × Value → H) (W : World) (sp : Nat → Bool) : DataW.trod enc Tryd.prog W 0 sp true 3 257 cs32.toList = some (Lib.tabData .u8 z32, []) := by kernel_rfl
theorem reads64 {H : Type} (enc : TypeId × Value → H) (W : World) (sp : Nat → Bool) : DataW.trod enc Tryd.prog W 0 sp true 3 258 cs64.toList = some (Lib.tabData .u8 z64, []) := by kernel_rfl
def placesT : List MemPlace := MemPlace.row ⟨3, 0, none⟩ cs10.size ++ [] ++ (MemPlace.row ⟨4, 0, none⟩ cs32.size ++ [] ++ (MemPlace.row ⟨5, 0, none⟩ cs64.size ++ [] ++ []))
theorem vars_readT {H : Type} (enc : TypeId × Value → H) {W : World} (h10 : W.var? Tryd.prog "internal/strconv.uint64pow10" = some cs10) (h32 : W.var? Tryd.prog "math/bits.deBruijn32tab" = some cs32) (h64 : W.var? Tryd.prog "math/bits.deBruijn64tab" = some cs64) (sp : Nat → Bool) :
    DataW.TrodVars enc Tryd.prog W sp ["internal/strconv.uint64pow10", "math/bits.deBruijn32tab", "math/bits.deBruijn64tab"] [Lib.tabData .u64 Lib.pow10Tab, Lib.tabData .u8 z32, Lib.tabData .u8 z64] placesT :=
  ⟨_, _, cs10, 3, [], _, g10, g10T, h10, reads10 enc W sp, ⟨_, _, cs32, 3, [], _, g32, g32T, h32, reads32 enc W sp, ⟨_, _, cs64, 3, [], [], g64, g64T, h64, reads64 enc W sp, rfl, rfl⟩, rfl⟩, rfl⟩
end Go.Proofs.YtaahfcdpgcfmhaaDoor
