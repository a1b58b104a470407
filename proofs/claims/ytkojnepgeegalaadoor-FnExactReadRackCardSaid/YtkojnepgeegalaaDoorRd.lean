/- The reader, by the program: at the end, fail, letter, skip: contracts. Condition: the error variable holds an error of errors.New's make; a text no longer than told. -/
import Derived.Test.YtkojnepgeegalaaDoorRdN
import Derived.Test.YtkojnepgeegalaaDoorNums
import Derived.Test.YtkojnepgeegalaaDoorQuiet
import Derived.Deep.RegionLaw
import Derived.Deep.Cut
import Derived.Deep.CutRange
namespace Go.Proofs.YtkojnepgeegalaaDoor
set_option linter.unusedSimpArgs false
set_option linter.unusedVariables false
set_option maxRecDepth 100000
open Go.RowKit

def errv (f : Bool) (y : Addr) : Value := if f then .iface 166 (.pointer (some y)) else .nilIface
/-- A reader in block g: it reads T, stands at p; f: it has failed. -/
structure Rd (w : World) (g : Nat) (T : ByteArray) (p : Nat) (f : Bool) (y : Addr) : Prop where
  cs : w.heap[g]? = some (.cells #[.string T, .int .i64 (p : Int), errv f y] 76 (0, 0))
  le : p ≤ T.size
/-- The error that readers note. -/
def Syn (w : World) (y : Addr) : Prop := w.cell? ⟨0, 0, none⟩ = some (.iface 166 (.pointer (some y)))
abbrev Gr (g : Nat) (w w' : World) : Prop := w.grownBy w' (some g)
theorem Gr.refl (g : Nat) (w : World) : Gr g w w := ⟨rfl, rfl, rfl, Nat.le_refl _, fun _ _ _ => rfl⟩
theorem Gr.trans {g : Nat} {w w1 w2 : World} (h : Gr g w w1) (k : Gr g w1 w2) : Gr g w w2 :=
  ⟨k.os.trans h.os, k.tape.trans h.tape, k.output.trans h.output, Nat.le_trans h.size k.size, fun b hb hne => (k.block b (Nat.lt_of_lt_of_le hb h.size) hne).trans (h.block b hb hne)⟩
theorem Gr.of {g : Nat} {w w' : World} (h : Below w.heap.size w w') : Gr g w w' := ⟨h.os, h.tape, h.output, h.size, fun b hb _ => h.block b hb⟩
theorem Gr.set {g : Nat} {a w : World} (h : Gr g a w) (o : Nat) (u : Value) : Gr g a (w.setCell ⟨g, o, none⟩ u) := only_set2 h o u
theorem Rd.lt {w : World} {g : Nat} {T : ByteArray} {p : Nat} {f : Bool} {y : Addr} (h : Rd w g T p f y) : g < w.heap.size := (Array.getElem?_eq_some_iff.1 h.cs).1
theorem Rd.below {w w' : World} {g : Nat} {T : ByteArray} {p : Nat} {f : Bool} {y : Addr} (h : Rd w g T p f y) (hb : Below w.heap.size w w') : Rd w' g T p f y := ⟨(hb.block g h.lt).trans h.cs, h.le⟩
theorem Rd.c0 {w : World} {g : Nat} {T : ByteArray} {p : Nat} {f : Bool} {y : Addr} (h : Rd w g T p f y) : w.cell? ⟨g, 0, none⟩ = some (.string T) := cell_of_row w _ 0 _ _ _ h.cs
theorem Rd.c1 {w : World} {g : Nat} {T : ByteArray} {p : Nat} {f : Bool} {y : Addr} (h : Rd w g T p f y) : w.cell? ⟨g, 1, none⟩ = some (.int .i64 (p : Int)) := cell_of_row w _ 1 _ _ _ h.cs
theorem Rd.c2 {w : World} {g : Nat} {T : ByteArray} {p : Nat} {f : Bool} {y : Addr} (h : Rd w g T p f y) : w.cell? ⟨g, 2, none⟩ = some (errv f y) := cell_of_row w _ 2 _ _ _ h.cs
theorem Rd.fz {w : World} {g : Nat} {T : ByteArray} {p : Nat} {f : Bool} {y : Addr} (h : Rd w g T p f y) (o : Nat) : w.frozen? ⟨g, o, none⟩ = false := frozen_of_row w g _ _ _ h.cs
theorem Rd.to {w : World} {g : Nat} {T : ByteArray} {p q : Nat} {f : Bool} {y : Addr} (h : Rd w g T p f y) (hq : q ≤ T.size) : Rd (w.setCell ⟨g, 1, none⟩ (.int .i64 (q : Int))) g T q f y :=
  ⟨heap_setCell_same _ _ _ _ _ _ h.cs, hq⟩
theorem Rd.bad {w : World} {g : Nat} {T : ByteArray} {p : Nat} {f : Bool} {y : Addr} (h : Rd w g T p f y) : Rd (w.setCell ⟨g, 2, none⟩ (.iface 166 (.pointer (some y)))) g T p true y :=
  ⟨heap_setCell_same _ _ _ _ _ _ h.cs, h.le⟩
theorem Syn.gr {w w' : World} {g : Nat} {y : Addr} (h : Syn w y) (hg : Gr g w w') (hne : g ≠ 0) : Syn w' y := by
  have hlt := World.block_lt_of_cell? _ _ h
  exact (World.cell?_of_block (hg.block _ hlt (fun e => hne (by injection e with e; exact e.symm)))).trans h
/-- What is still to be read. -/
def restT (T : ByteArray) (p : Nat) : List UInt8 := T.data.toList.drop p
theorem restT_len (T : ByteArray) (p : Nat) : (restT T p).length = T.size - p := by
  unfold restT
  rw [List.length_drop, Array.length_toList]
  rfl
theorem restT_end {T : ByteArray} {p : Nat} (h : T.size ≤ p) : restT T p = [] := List.eq_nil_of_length_eq_zero (by rw [restT_len]; omega)
theorem restT_cons {T : ByteArray} {p : Nat} (h : p < T.size) : restT T p = T[p] :: restT T (p + 1) := by
  unfold restT
  have hl : p < T.data.toList.length := by rw [Array.length_toList]; exact h
  rw [List.drop_eq_getElem_cons hl]
  rfl
theorem restT_add (T : ByteArray) (p j : Nat) : (restT T p).drop j = restT T (p + j) := by
  unfold restT
  rw [List.drop_drop]
set_option maxHeartbeats 1000000 in
theorem atEnd_any (g : Nat) (T : ByteArray) (p : Nat) (f : Bool) (y : Addr) (w : World) (h : Rd w g T p f y) :
    Calls Tryd.prog 45 #[.pointer (some ⟨g, 0, none⟩)] w fun e w' => e = .returned (.bool (decide (p = T.size))) ∧ Below w.heap.size w w' := by
  have p0 := belowBy_cell h.lt h.c0
  have p1 := belowBy_cell h.lt h.c1
  have hd : ((p : Int) == (T.size : Int)) = decide (p = T.size) := by
    by_cases e : p = T.size
    · rw [e, decide_eq_true rfl]; simp
    · rw [decide_eq_false e]; simp; omega
  clear h
  generalize decide (p = T.size) = b at *
  go_enter Tryd.func45, Tryd.ntmps45
  go_wp2
  refine wp_region_below (by kernel_rfl) (by kernel_rfl) ?_
  iterate 11 (first | go_big_quiet_step (fail) | quiet_step (fail))
  refine wpQuiet_nil ?_
  rintro w2 ⟨⟨_, hq⟩, rfl⟩
  clear p0 p1
  go_wp2
  go_ret
  exact ⟨rfl, hq⟩
set_option maxHeartbeats 1000000 in
theorem fail_any (g : Nat) (T : ByteArray) (p : Nat) (f : Bool) (y : Addr) (w : World) (h : Rd w g T p f y) (hs : Syn w y) :
    Calls Tryd.prog 46 #[.pointer (some ⟨g, 0, none⟩)] w fun e w' => e = .returned (.tuple #[]) ∧ Rd w' g T p true y ∧ Gr g w w' := by
  have H := Lib.hid h
  have cy := hs
  unfold Syn at cy
  have c2 := h.c2
  have fz := h.fz 2
  clear h hs
  go_enter Tryd.func46, Tryd.ntmps46
  go_wp2
  go_returns
  exact ⟨rfl, H.out.bad, (Gr.refl g w).set _ _⟩
end Go.Proofs.YtkojnepgeegalaaDoor
