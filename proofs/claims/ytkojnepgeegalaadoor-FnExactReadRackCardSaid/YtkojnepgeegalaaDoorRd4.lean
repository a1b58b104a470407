/- The reader's last numbers, by the program: a contract. Condition: the error variable holds an error of errors.New's make; a text no longer than told. -/
import Derived.Test.YtkojnepgeegalaaDoorRd3
import Derived.Test.YtkojnepgeegalaaDoorRdL
namespace Go.Proofs.YtkojnepgeegalaaDoor
set_option linter.unusedSimpArgs false
set_option linter.unusedVariables false
set_option maxRecDepth 100000
open Go.RowKit

theorem Rd.kept {w w' : World} {g : Nat} {T : ByteArray} {p : Nat} {f : Bool} {y : Addr} {row : Option Nat} (h : Rd w g T p f y) (hg : w.grownBy w' row) (hne : some g ≠ row) : Rd w' g T p f y :=
  ⟨(hg.block g h.lt hne).trans h.cs, h.le⟩
theorem Syn.kept {w w' : World} {y : Addr} {row : Option Nat} (h : Syn w y) (hg : w.grownBy w' row) (hne : row ≠ some 0) : Syn w' y := by
  have hlt := World.block_lt_of_cell? _ _ h
  exact (World.cell?_of_block (hg.block _ hlt (fun e => hne e.symm))).trans h
theorem infoI64 : (Tryd.prog.info? 2).map (fun i => (i.zero, i.size, i.bytes)) = some (some (.int .i64 0), 1, 8) := by kernel_rfl
theorem tRd : (76 : Nat) ≠ 2 := by decide
/-- A row of numbers is no reader. -/
theorem own_not {w : World} {g : Nat} {T : ByteArray} {p : Nat} {f : Bool} {y : Addr} (h : Rd w g T p f y) {B n : Nat} {v : Value} {xs : List Value} (ho : w.ownsRow B 2 1 v n xs) : ∀ k, v.ownBlock = some k → k ≠ g := by
  intro k hk e
  rcases ho.2 with ⟨rfl, _⟩ | ⟨g', cap, cur, rfl, e2, e3, e4⟩
  · exact absurd hk (by simp [Value.ownBlock])
  · have e5 : g' = k := by simpa [Value.ownBlock] using hk
    rw [e5, e] at e3
    rw [h.cs] at e3
    injection e3 with e3
    injection e3 with _ e6 _
    exact tRd e6
/-- What the last numbers say. -/
def LastS (c : UInt8) (most : Int) (T : ByteArray) (p : Nat) (zs : List Int) (f' : Bool) : Prop :=
  (f' = false ∧ 1 ≤ zs.length ∧ zs.length ≤ 12 ∧ AllIn most zs ∧ restT T p = joinL c (zs.map dec)) ∨ (f' = true ∧ NoLast c most (restT T p))
theorem nilEq (w : World) : (binOp .eql 74 .nilIface .nilIface).run Tryd.prog w = .ok (.bool true) w := by
  have h := run_eql_iface_nil_left (P := Tryd.prog) w 166 .nilIface Tryd.underlying74
  go_simp
def lenV : Value → Nat
  | .slice _ n _ => n
  | _ => 0
theorem own_sl {w : World} {B n : Nat} {v : Value} {xs : List Value} {t : TypeId} (h : w.ownsRow B t 1 v n xs) : ∃ A cap, v = .slice A n cap := by
  rcases h.2 with ⟨rfl, h0⟩ | ⟨g, cap, cur, rfl, _⟩
  · exact ⟨none, 0, by rw [h0]⟩
  · exact ⟨_, cap, rfl⟩
theorem cellNew1 (w : World) (u : Value) (t : TypeId) : ∀ (j : Nat) (x : Value), [u][j]? = some x → (w.alloc (.cells #[u] t)).cell? (Addr.add ⟨w.heap.size, 0, none⟩ j) = some x := by
  intro j x hj
  rw [Addr.add_lit, Nat.zero_add, cell_of_row _ _ j _ _ _ (heap_alloc_new w _)]
  simpa using hj
end Go.Proofs.YtkojnepgeegalaaDoor
