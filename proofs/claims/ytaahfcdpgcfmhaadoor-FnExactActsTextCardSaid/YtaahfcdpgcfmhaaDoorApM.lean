/- Numbers and texts appended to bytes of one's own; what else lies in memory is kept: contracts. Condition: the table of powers of ten is as laid; the bytes are not too many; numbers none below nought. -/
import Derived.Test.YtaahfcdpgcfmhaaDoorTxt
import Derived.Test.YtaahfcdpgcfmhaaDoorOpen
import Derived.Shelf.Strconv.AppendIntPublic10
import Derived.Shelf.Lay
import Derived.Ground.NamesProg
import Derived.Lib.ItoaLen
import Derived.Lib.AppendStr
namespace Go.Proofs.YtaahfcdpgcfmhaaDoor
set_option linter.unusedSimpArgs false
set_option linter.unusedVariables false
set_option maxRecDepth 100000
open Go.Shelf Go.RowKit

shelf_lay LaysM.n176 Nm 176 at Tryd as aiLays
/-- The table of powers of ten is as laid, below B. -/
abbrev Tab (B : Nat) (w : World) : Prop := Lib.TabBelow Tryd.prog B w "internal/strconv.uint64pow10" .u64 Lib.pow10Tab
/-- What a call that writes bytes of its own leaves: all below B, and all that is no row of bytes. -/
structure Kp (B : Nat) (w w' : World) : Prop where
  b : Below B w w'
  o : Lib.OthersKept 5 none w w'
theorem Kp.refl (B : Nat) (w : World) : Kp B w w := ⟨Below.refl _ _, Lib.OthersKept.refl _ _ _⟩
theorem Kp.trans {B : Nat} {a c d : World} (h : Kp B a c) (k : Kp B c d) : Kp B a d := ⟨h.b.trans k.b, h.o.trans k.o⟩
theorem Kp.drew {B : Nat} {a w : World} (h : Kp B a w) : Kp B a w.drew := ⟨h.b.drew, h.o.drew⟩
theorem Kp.alloc {B : Nat} {a w : World} (h : Kp B a w) (hB : B ≤ w.heap.size) (o : Obj) : Kp B a (w.alloc o) := ⟨h.b.alloc hB o, h.o.alloc o⟩
theorem Kp.below {B : Nat} {a w w' : World} (h : Kp B a w) (hB : B ≤ w.heap.size) (hb : Below w.heap.size w w') : Kp B a w' := ⟨h.b.trans (hb.mono hB), h.o.below hb⟩
theorem Kp.size {B : Nat} {a w : World} (h : Kp B a w) : a.heap.size ≤ w.heap.size := h.b.size
theorem Kp.box {B : Nat} {a w : World} (h : Kp B a w) {g : Nat} {cs : Array Value} {t : TypeId} {fz : Nat × Nat} (hg : a.heap[g]? = some (.cells cs t fz)) (ht : t ≠ 5) : w.heap[g]? = some (.cells cs t fz) :=
  h.o g _ hg (by simp) (fun c f e => ht (by injection e))
theorem Kp.grown {B : Nat} {a w w' : World} {v : Value} {L : List UInt8} (h : Kp B a w) (ht : Txt w B v L) (hg : w.grownBy w' v.ownBlock) (hB : B ≤ w.heap.size) : Kp B a w' := by
  refine ⟨h.b.grown hg hB (fun k hk => (World.ownsRow.lt ht k hk).1), h.o.trans fun k o hk _ ho => ?_⟩
  have hlt := (Array.getElem?_eq_some_iff.1 hk).1
  refine (hg.block k hlt fun e => ?_).trans hk
  rcases ht.2 with ⟨rfl, _⟩ | ⟨g, cap, cur, rfl, e2, e3, e4⟩
  · exact absurd e (by simp [Value.ownBlock])
  · have e5 : k = g := by simpa [Value.ownBlock] using e
    subst e5
    rw [e3] at hk
    injection hk with hk
    exact ho _ _ hk.symm
theorem Tab.on {B : Nat} {w w1 : World} (h : Tab B w) (hb : Below B w w1) : Tab B w1 := Lib.TabBelow.on h hb
theorem Tab.up {w w1 : World} (h : Tab w.heap.size w) (hb : Below w.heap.size w w1) : Tab w1.heap.size w1 :=
  fun w' h' => h w' (hb.trans (h'.mono hb.size))
theorem infoByteT : (Tryd.prog.info? 5).map (fun i => (i.zero, i.size, i.bytes)) = some (some (.int .u8 0), 1, 1) := by kernel_rfl

set_option maxHeartbeats 4000000 in
theorem number_txt (B : Nat) (z : Int) (h0 : 0 ≤ z) (h1 : z ≤ 9223372036854775807) (S L : List UInt8) (v : Value) (w : World) (ht : Txt w B v L) (hB : B ≤ w.heap.size) (hlim : L.length + S.length ≤ 140737488355000) (htab : Tab B w) :
    Calls Tryd.prog 89 #[v, .int .i64 z, .string ⟨S.toArray⟩] w fun e w' => ∃ v', e = .returned v' ∧ Txt w' B v' (L ++ (dec z ++ S)) ∧ Kp B w w' := by
  obtain ⟨i0, hi0, hz0, hz1, hz2⟩ := info_parts infoByteT
  have hl := Lib.itoa_length_le z (by omega) h1
  have AI := Lib.hid (Any.strconv_AppendInt_10 aiLays B L.length z (by omega) h1 v (Lib.byteCells L) w ht hB (by omega) htab)
  rw [itoa_dec h0] at AI hl
  clear ht htab
  have hS : (⟨S.toArray⟩ : ByteArray).size = S.length := strOf_size S
  generalize dec z = D at *
  have EC := Lib.hid (show Lib.byteCells L ++ Lib.byteCells D ++ Lib.strCells ⟨S.toArray⟩ = Lib.byteCells (L ++ (D ++ S)) by rw [Lib.byteCells_append, Lib.byteCells_append, List.append_assoc]; rfl)
  have EN := Lib.hid (show L.length + D.length + S.length = (L ++ (D ++ S)).length by simp only [List.length_append]; omega)
  generalize (⟨S.toArray⟩ : ByteArray) = s at *
  go_enter Tryd.func89, Tryd.ntmps89
  go_wp2_with fail
  refine AI.out.mono ?_
  rintro e w1 ⟨v1, rfl, ho, hb, hok⟩
  have OW := Lib.hid (show Txt w1 B v1 (L ++ D) from by unfold Txt; rw [List.length_append, Lib.byteCells_append]; exact ho)
  have HB := Lib.hid (Kp.mk hb hok)
  have hz := hb.size
  clear ho hb hok
  go_wp2_with (at_builtin; refine Lib.wpList_append_own_string _ rfl (.tmp 9) (.tmp 10) _ _ rfl B 5 i0 Tryd.underlying121 Tryd.underlying9 hi0 hz0 hz1 hz2 _ _ _ rfl OW.out _ rfl ?c1 ?c2 ?c3 ?_)
  case c1 => (simp only [List.length_append]; unfold maxLen; omega)
  case c2 => (simp only [List.length_append]; omega)
  case c3 => omega
  intro v' w4 hown' hgrow' _
  have OW' := Lib.hid (show Txt w4 B v' (L ++ (D ++ S)) by
    unfold Txt
    rw [Lib.byteCells_append, EC.out, EN.out] at hown'
    exact hown')
  have G4 := Lib.hid (HB.out.grown OW.out hgrow' (by omega))
  clear hown' hgrow'
  go_wp2
  go_ret
  exact ⟨_, rfl, OW'.out, G4.out⟩
end Go.Proofs.YtaahfcdpgcfmhaaDoor
