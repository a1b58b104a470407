/- Blocks of books moved, by the model: contracts. Condition: at most 1048576 books. -/
import Derived.Test.YtkclobdealnkhaaDoorMb0
import Derived.Test.YtkclobdealnkhaaDoorCatO
import Derived.Deep.AppendLies
import Derived.Deep.RegionHeldLaw
import Derived.Deep.RegionLaw
import Derived.Deep.Cut
import Derived.IntWalk
namespace Go.Proofs.YtkclobdealnkhaaDoor
set_option linter.unusedSimpArgs false
set_option linter.unusedVariables false
set_option maxRecDepth 100000
open Go.RowKit Go.Sort

section
variable {P : Program} (w : World)
/-- An append to a row of the call's own, at a step of a drawn region. -/
theorem step_append_some {ops : Array Oper} {o : Oper} {a : Act} {K : Act → World → Prop} {Q : Exit → Act → World → Prop} {E : Prop} (hgd : o.guard = none) (s x : Operand) (t : TypeId)
    (ho : o.op = .call { callee := .builtin .append, args := #[s, x], argTypes := #[t, t] })
    (base : Nat) (e : TypeId) (i : TypeInfo) (z : Value) (size bytes : Nat) (ht : P.underlying t = some (.slice e)) (hi : P.info? e = some i) (hz : i.zero = some z)
    (hsize : i.size = size) (hby : i.bytes = bytes) (hzs : z.cells.size = size) (hsz : 0 < size)
    (g0 c0 : Nat) (n : Nat) (xs : List Value) (hs : a.eval s = .slice (some ⟨g0, 0, none⟩) n c0) (hown : w.ownsRow base e size (.slice (some ⟨g0, 0, none⟩) n c0) n xs)
    (ad : Addr) (m c : Nat) (news : List Value) (hx : a.eval x = .slice (some ad) m c) (hl : news.length = m * size) (hnews : ∀ j u, news[j]? = some u → w.cell? (ad.add j) = some u) (h1 : ∀ u ∈ news, u.oneCell' = true)
    (h63 : n + m ≤ maxLen) (hbytes : (n + m) * bytes ≤ 140737488355328) (hbase : base ≤ w.heap.size)
    (h : ∀ g cap w', w'.ownsRow base e size (.slice (some ⟨g, 0, none⟩) (n + m) cap) (n + m) (xs ++ news) → w.grownBy w' (some g0) → K (a.put o.dst (.slice (some ⟨g, 0, none⟩) (n + m) cap)) w') :
    if Region.wanted o (yielded ops a.tmps) = true then Oper.wp P o a w K Q else E := by
  have hw : Region.wanted o (yielded ops a.tmps) = true := by simp [Region.wanted, hgd]
  rw [if_pos hw]
  refine wp_append_own w s x t ho base e i z size bytes ht hi hz hsize hby hzs hsz _ n xs hs hown ad m c news hx hl hnews h1 h63 hbytes hbase fun v' w' h2 h3 h4 => ?_
  rcases h2.2 with ⟨e1, _⟩ | ⟨g, cap, cur, rfl, _⟩
  · have := (h4.1 e1).1
    cases this
  · exact h g cap w' h2 h3
end
theorem own_empty (W : World) (t : TypeId) (B size : Nat) (h : B ≤ W.heap.size) : (W.alloc (.cells #[] t)).ownsRow B t size (.slice (some ⟨W.heap.size, 0, none⟩) 0 0) 0 [] :=
  ⟨by simp, .inr ⟨W.heap.size, 0, #[], rfl, h, heap_alloc_new W _, Nat.le_refl _, Nat.zero_le _, by simp, by simp⟩⟩
theorem own_drew {W : World} {B : Nat} {t : TypeId} {size n : Nat} {v : Value} {xs : List Value} (h : W.ownsRow B t size v n xs) : W.drew.ownsRow B t size v n xs := h
theorem run_hiB (A : Option Addr) (n c k : Nat) (hk : k ≤ c) (w : World) :
    (Instr.slice 29 (.slice A n c) none (some (.int .i64 (k : Int))) none).run Tryd.prog w = .ok (.slice A k c) w := by
  rw [run_slice_h w _ _ _ _ elemBooks' _ _ (by omega) (by omega), sizeBook']
  cases A <;> simp [Result.andThen, sliced, Addr.add]
theorem run_hiB16 (A : Option Addr) (n c k : Nat) (hk : k ≤ c) (w : World) :
    (Instr.slice 29 (.slice A n c) none (some (.int .i16 (k : Int))) none).run Tryd.prog w = .ok (.slice A k c) w := by
  rw [run_slice_h w _ _ _ _ elemBooks' _ _ (by omega) (by omega), sizeBook']
  cases A <;> simp [Result.andThen, sliced, Addr.add]
/-- Where the books from i on lie. -/
def loO (o i c : Nat) : Nat := if c = i then o else o + i * 8
theorem run_loB (g o n c i : Nat) (hi : i ≤ n) (hc : n ≤ c) (w : World) :
    (Instr.slice 29 (.slice (some ⟨g, o, none⟩) n c) (some (.int .i64 (i : Int))) none none).run Tryd.prog w = .ok (.slice (some ⟨g, loO o i c, none⟩) (n - i) (c - i)) w := by
  rw [run_slice_l w _ _ _ _ elemBooks' _ _ (by omega) (by omega), sizeBook']
  unfold loO
  by_cases h : c = i
  · simp [Result.andThen, sliced, h]
  · simp [Result.andThen, sliced, h, Addr.add]
theorem run_loB16 (g o n c i : Nat) (hi : i ≤ n) (hc : n ≤ c) (w : World) :
    (Instr.slice 29 (.slice (some ⟨g, o, none⟩) n c) (some (.int .i16 (i : Int))) none none).run Tryd.prog w = .ok (.slice (some ⟨g, loO o i c, none⟩) (n - i) (c - i)) w := by
  rw [run_slice_l w _ _ _ _ elemBooks' _ _ (by omega) (by omega), sizeBook']
  unfold loO
  by_cases h : c = i
  · simp [Result.andThen, sliced, h]
  · simp [Result.andThen, sliced, h, Addr.add]
theorem run_midB (g o n c i k : Nat) (hi : i ≤ k) (hk : k ≤ c) (w : World) :
    (Instr.slice 29 (.slice (some ⟨g, o, none⟩) n c) (some (.int .i64 (i : Int))) (some (.int .i64 (k : Int))) none).run Tryd.prog w = .ok (.slice (some ⟨g, loO o i c, none⟩) (k - i) (c - i)) w := by
  rw [run_slice_lh w _ _ _ _ elemBooks' _ _ _ _ (by omega) (by omega) (by omega), sizeBook']
  unfold loO
  by_cases h : c = i
  · simp [Result.andThen, sliced, h]
  · simp [Result.andThen, sliced, h, Addr.add]
theorem booksAt_lo {w : World} {g o c i : Nat} {xs : List Bk} (h : BooksAt w g o xs) (hc : xs.length ≤ c) : BooksAt w g (loO o i c) (xs.drop i) := by
  unfold loO
  split
  · rename_i e
    rw [List.drop_eq_nil_of_le (by omega)]
    exact fun k hk => absurd hk (Nat.not_lt_zero _)
  · intro k hk j v hv
    have hk2 : i + k < xs.length := by rw [List.length_drop] at hk; omega
    have := h (i + k) hk2 j v (by rw [List.getElem_drop] at hv; exact hv)
    rwa [show o + (i + k) * 8 + j = o + i * 8 + k * 8 + j by omega] at this
theorem booksAt_take {w : World} {g o : Nat} {xs : List Bk} (h : BooksAt w g o xs) (k : Nat) : BooksAt w g o (xs.take k) := by
  intro i hi j v hv
  have hi2 : i < xs.length := by rw [List.length_take] at hi; omega
  exact h i hi2 j v (by rw [List.getElem_take] at hv; exact hv)
theorem flatB_appK (xs ys : List Bk) : flatB (xs ++ ys) = flatB xs ++ flatB ys := by
  refine List.ext_getElem? fun k => ?_
  by_cases h : k < (xs ++ ys).length * 8
  · have hj : k % 8 < 8 := Nat.mod_lt _ (by omega)
    have hi : k / 8 < (xs ++ ys).length := by omega
    have hk : k = k / 8 * 8 + k % 8 := by omega
    generalize k / 8 = i at *
    generalize k % 8 = j at *
    subst hk
    rw [flatB_at hi hj]
    by_cases h2 : i < xs.length
    · rw [List.getElem?_append_left (by rw [flatB_length]; omega), flatB_at h2 hj, List.getElem_append_left h2]
    · have hi2 : i - xs.length < ys.length := by rw [List.length_append] at hi; omega
      rw [List.getElem?_append_right (by rw [flatB_length]; omega), flatB_length, show i * 8 + j - xs.length * 8 = (i - xs.length) * 8 + j by omega, flatB_at hi2 hj, List.getElem_append_right (by omega)]
  · rw [List.getElem?_eq_none (by rw [flatB_length]; omega), List.getElem?_eq_none (by rw [List.length_append, flatB_length, flatB_length]; rw [List.length_append] at h; omega)]
theorem cells_add {w : World} {g o : Nat} {xs : List Bk} (h : BooksAt w g o xs) : ∀ j u, (flatB xs)[j]? = some u → w.cell? ((⟨g, o, none⟩ : Addr).add j) = some u := fun j u hu => by
  rw [Addr.add_lit]
  exact flat_cells h j u hu
theorem hatK {w W W' : World} {g o : Nat} {xs : List Bk} (h : BooksAt W g o xs) (h1 : Below w.heap.size w W) (h2 : Below w.heap.size w W') (hg : g < w.heap.size) : BooksAt W' g o xs := fun i hi j v hv =>
  (h2.cell (p := ⟨g, o + i * 8 + j, none⟩) hg).trans ((h1.cell (p := ⟨g, o + i * 8 + j, none⟩) hg).symm.trans (h i hi j v hv))
theorem keepBox {w W W' : World} {g : Nat} {o : Obj} (h : W.heap[g]? = some o) (h1 : Below w.heap.size w W) (h2 : Below w.heap.size w W') : W.heap[g]? = some o := h
theorem BooksAt.belowK {w w' : World} {g o : Nat} {xs : List Bk} (h : BooksAt w g o xs) (hb : Below w.heap.size w w') (hg : g < w.heap.size) : BooksAt w' g o xs := h.below hb hg
theorem rowK_grown {w w' : World} {g k n : Nat} {ys : List Bk} {row : Option Nat} (h : RowK w g ys k n) {w0 : World} (hg : w0.grownBy w' row) (hlt : g < w0.heap.size) (hne : some g ≠ row) (h0 : w0.heap[g]? = w.heap[g]? := by first | rfl | exact Below.heap_alloc _ _ _ (by assumption)) : RowK w' g ys k n := by
  obtain ⟨cs, e1, e2⟩ := h
  exact ⟨cs, (hg.block g hlt hne).trans (h0.trans e1), e2⟩
theorem some_neK {a b : Nat} (h : a ≠ b) : some a ≠ some b := fun e => h (by injection e)
set_option maxHeartbeats 8000000 in
theorem l03Carried_any (g o cc : Nat) (xs : List Bk) (f c t : Nat) (w : World) (hat : BooksAt w g o xs) (hg : g < w.heap.size) (hcap : xs.length ≤ cc) (hn : xs.length ≤ 1048576) (h1 : 1 ≤ c) (hf : f + c ≤ xs.length) (ht : t + c ≤ xs.length) (hf2 : f ≤ 32767) (hc2 : c ≤ 32767) (ht2 : t ≤ 32767) :
    Calls Tryd.prog 60 #[.slice (some ⟨g, o, none⟩) xs.length cc, .agg #[.int .i16 (f : Int), .int .i16 (c : Int), .int .i16 (t : Int)]] w fun e w' => ∃ g' N, e = .returned (.slice (some ⟨g', 0, none⟩) xs.length N) ∧ RowK w' g' (carL xs f c t) xs.length N ∧ w.heap.size ≤ g' ∧ xs.length ≤ N ∧ Below w.heap.size w w' := by
  obtain ⟨i0, hi0, hz0, hz1, hz2⟩ := info_parts infoBook
  have G0 := Lib.hid (show Below w.heap.size w (w.alloc (.cells #[.int .i16 (f : Int), .int .i16 (c : Int), .int .i16 (t : Int)] 71)) from (Below.refl _ _).alloc (Nat.le_refl _) _)
  have X0 := Lib.hid (heap_alloc_new w (.cells #[.int .i16 (f : Int), .int .i16 (c : Int), .int .i16 (t : Int)] 71))
  have A0 := Lib.hid (hat.below G0.out hg)
  have HG := Lib.hid hg
  obtain ⟨e, he⟩ : ∃ e : Nat, e = f + c := ⟨_, rfl⟩
  have w1 : (f : Int) + (c : Int) = (e : Int) := by omega
  have s1 := fun W => run_hiB (some ⟨g, o, none⟩) xs.length cc f (by omega) W
  have s2 := fun W => run_loB g o xs.length cc e (by omega) hcap W
  have s3 := fun W => run_midB g o xs.length cc f e (by omega) (by omega) W
  have EF := Lib.hid he
  have ne : e ≤ xs.length := by omega
  have nf : f ≤ e := by omega
  have HF := Lib.hid hf
  have HT := Lib.hid ht
  have HCAP := Lib.hid hcap
  have LT := Lib.hid (show (xs.take f).length = f by rw [List.length_take]; omega)
  have LD := Lib.hid (show (xs.drop e).length = xs.length - e by rw [List.length_drop])
  clear hat hf ht he hg hcap
  go_enter Tryd.func60, Tryd.ntmps60
  go_upto_region 1 with (fail)
  generalize World.alloc w _ = W1 at G0 X0 A0 ⊢
  have m0 : W1.cell? ⟨w.heap.size, 0, none⟩ = some (.int .i16 (f : Int)) := cell_of_row W1 _ 0 _ _ _ X0.out
  have m1 : W1.cell? ⟨w.heap.size, 1, none⟩ = some (.int .i16 (c : Int)) := cell_of_row W1 _ 1 _ _ _ X0.out
  have m2 : W1.cell? ⟨w.heap.size, 2, none⟩ = some (.int .i16 (t : Int)) := cell_of_row W1 _ 2 _ _ _ X0.out
  go_upto_region 3 with (fail)
  have HG1 := Lib.hid (Nat.lt_of_lt_of_le HG.out G0.out.size)
  have X0l := Lib.hid (Array.getElem?_eq_some_iff.1 X0.out).1
  have G1 := Lib.hid (show Below W1.heap.size W1 (W1.alloc (.cells #[] 65)).drew from ((Below.refl _ _).alloc (Nat.le_refl _) _).drew)
  have A1 := Lib.hid (A0.out.below G1.out HG1.out)
  have O1 := Lib.hid (own_drew (own_empty W1 65 W1.heap.size 8 (Nat.le_refl _)))
  have C1 := Lib.hid (cells_add (booksAt_take A1.out f))
  have z1 : W1.heap.size ≤ (W1.alloc (.cells #[] 65)).drew.heap.size := G1.out.size
  obtain ⟨nr, hnr⟩ : ∃ nr : Nat, f + (xs.length - e) = nr := ⟨_, rfl⟩
  obtain ⟨rs, hrs⟩ : ∃ rs : List Bk, rs = xs.take f ++ xs.drop e := ⟨_, rfl⟩
  have LRS := Lib.hid (show rs.length = nr by rw [hrs, List.length_append, LT.out, LD.out]; exact hnr)
  have tn : t ≤ nr := by have := HT.out; have := EF.out; omega
  have nc : nr + c = xs.length := by have := EF.out; omega
  have HNR := Lib.hid hnr
  have HRS := Lib.hid hrs
  clear hnr hrs
  have FL := Lib.hid (show (flatB (xs.take f)).length = f * 8 by rw [flatB_length, LT.out])
  have FD := Lib.hid (show (flatB (xs.drop e)).length = (xs.length - e) * 8 by rw [flatB_length, LD.out])
  go_region_law (first
    | (refine step_append_some _ (by rfl) (.tmp 17) (.tmp 20) _ (by rfl) W1.heap.size 65 i0 (.agg #[.int .i16 0, .int .u8 0, .int .u8 0, .int .u8 0, .int .i16 0, .int .i16 0, .int .i16 0, .int .i16 0]) 8 14 Tryd.underlying29 hi0 hz0 hz1 hz2 rfl (by decide) W1.heap.size 0 0 [] (by rfl) O1.out ⟨g, o, none⟩ f cc (flatB (xs.take f)) (by rfl) FL.out C1.out (flatB_one _) (by unfold maxLen; omega) (by omega) z1 ?_
       intro g2 n2 W2 ho2 hk2
       have G2 := Lib.hid (G1.out.grown hk2 G1.out.size (fun k hk => by injection hk with hk; omega))
       have A2 := Lib.hid (A0.out.below G2.out HG1.out)
       have C2 := Lib.hid (cells_add (booksAt_lo (i := e) A2.out HCAP.out))
       have z2 := G2.out.size
       have O2 := Lib.hid (show W2.ownsRow W1.heap.size 65 8 (.slice (some ⟨g2, 0, none⟩) f n2) f (flatB (xs.take f)) by simpa using ho2)
       have hk2 := Lib.hid (hk2)
       clear ho2)
    | (refine step_append_some _ (by rfl) (.tmp 21) (.tmp 24) _ (by rfl) W1.heap.size 65 i0 (.agg #[.int .i16 0, .int .u8 0, .int .u8 0, .int .u8 0, .int .i16 0, .int .i16 0, .int .i16 0, .int .i16 0]) 8 14 Tryd.underlying29 hi0 hz0 hz1 hz2 rfl (by decide) g2 n2 f (flatB (xs.take f)) (by rfl) O2.out ⟨g, loO o e cc, none⟩ (xs.length - e) (cc - e) (flatB (xs.drop e)) (by rfl) FD.out C2.out (flatB_one _) (by unfold maxLen; omega) (by omega) z2 ?_
       intro g3 n3 W3 ho3 hk3
       have G3 := Lib.hid (G2.out.grown hk3 G2.out.size (fun k hk => (O2.out.lt k hk).1))
       rw [HNR.out] at ho3 ⊢
       have O3 := Lib.hid (show W3.ownsRow W1.heap.size 65 8 (.slice (some ⟨g3, 0, none⟩) nr n3) nr (flatB rs) by rw [HRS.out, flatB_appK]; exact ho3)
       clear ho3 hk3))
  clear O1 C1 O2 C2 FD z1 z2
  obtain ⟨hgb3, hrk3, hnN3⟩ := rowK_of_own O3.out LRS.out.symm
  have R3 := Lib.hid hrk3
  have A3 := Lib.hid (A0.out.below G3.out HG1.out)
  have X3 := Lib.hid ((G3.out.block _ X0l.out).trans X0.out)
  clear A1 A2 G1 G2 hrk3 m0 m1 m2
  rw [LRS.out] at hnN3
  have m2 : W3.cell? ⟨w.heap.size, 2, none⟩ = some (.int .i16 (t : Int)) := cell_of_row W3 _ 2 _ _ _ X3.out
  have lx3 : w.heap.size < W3.heap.size := Nat.lt_of_lt_of_le X0l.out G3.out.size
  have m2e : (W3.alloc (.cells #[] 65)).cell? ⟨w.heap.size, 2, none⟩ = some (.int .i16 (t : Int)) := (((Below.refl W3.heap.size W3).alloc (Nat.le_refl _) _).cell (p := ⟨w.heap.size, 2, none⟩) lx3).trans m2
  have s4 := fun W => run_hiB16 (some ⟨g3, 0, none⟩) nr n3 t (by omega) W
  have s5 := fun W => run_loB16 g3 0 nr n3 t (by omega) (by omega) W
  have z3 := G3.out.size
  have OE := Lib.hid (own_empty W3 65 W1.heap.size 8 z3)
  have GE := Lib.hid (show Below W1.heap.size W1 (W3.alloc (.cells #[] 65)) from G3.out.alloc z3 _)
  have FT := Lib.hid (show (flatB (rs.take t)).length = t * 8 by rw [flatB_length, List.length_take, LRS.out]; omega)
  have AE := Lib.hid (cells_add (booksAt_take (BooksAt.belowK R3.out.at_ (show Below W3.heap.size W3 (W3.alloc (.cells #[] 65)) from (Below.refl _ _).alloc (Nat.le_refl _) _) R3.out.lt) t))
  go_wp2_with (at_builtin; refine wpList_append_own_at _ rfl (.tmp 26) (.tmp 30) _ rfl W1.heap.size 65 i0 (.agg #[.int .i16 0, .int .u8 0, .int .u8 0, .int .u8 0, .int .i16 0, .int .i16 0, .int .i16 0, .int .i16 0]) 8 14 Tryd.underlying29 hi0 hz0 hz1 hz2 rfl (by decide) _ _ _ rfl OE.out ⟨g3, 0, none⟩ t n3 (flatB (rs.take t)) rfl FT.out AE.out (flatB_one _) (by unfold maxLen; omega) (by omega) (by simp; omega) ?_)
  intro v4 W4 ho4 hk4 hn4 hat4
  obtain ⟨g4, n4, rfl⟩ : ∃ g4 n4, v4 = .slice (some ⟨g4, 0, none⟩) t n4 := by
    rcases ho4.2 with ⟨e1, _⟩ | ⟨g4, cap, cur, e1, _⟩
    · exact absurd e1 (fun h => hn4 h)
    · exact ⟨g4, cap, by simpa using e1⟩
  have G4 := Lib.hid (GE.out.grown hk4 GE.out.size (fun k hk => (OE.out.lt k hk).1))
  have O4 := Lib.hid (show W4.ownsRow W1.heap.size 65 8 (.slice (some ⟨g4, 0, none⟩) t n4) t (flatB (rs.take t)) by simpa using ho4)
  have A4 := Lib.hid (A0.out.below G4.out HG1.out)
  have X4 := Lib.hid ((G4.out.block _ X0l.out).trans X0.out)
  have N4 := Lib.hid (show g3 < g4 by
    have h1 := R3.out.lt
    rcases hat4 with h | h
    · have h : some g4 = some W3.heap.size := h
      have h2 : g4 = W3.heap.size := Option.some.inj h
      omega
    · have h : some g4 = some (W3.heap.size + 1) := h
      have h2 : g4 = W3.heap.size + 1 := Option.some.inj h
      omega)
  have hk4 : (W3.alloc (.cells #[] 65)).grownBy W4 (some W3.heap.size) := hk4
  have R4 := Lib.hid (show RowK W4 g3 rs rs.length n3 from rowK_grown R3.out hk4 (by simp; have := R3.out.lt; omega) (some_neK (by have := R3.out.lt; omega)) (Below.heap_alloc _ _ _ R3.out.lt))
  clear ho4 hk4 hn4 hat4 m2 m2e lx3 OE GE AE FT A3 X3
  have C4 := Lib.hid (cells_add (booksAt_take (booksAt_lo (i := f) A4.out HCAP.out) c))
  have FM := Lib.hid (show (flatB ((xs.drop f).take c)).length = (e - f) * 8 by rw [flatB_length, List.length_take, List.length_drop]; have := EF.out; omega)
  have z4 := G4.out.size
  have tf : t + (e - f) ≤ xs.length := by have := HT.out; have := EF.out; omega
  go_wp2_with (at_builtin; refine wpList_append_own _ rfl (.tmp 32) (.tmp 36) _ rfl W1.heap.size 65 i0 (.agg #[.int .i16 0, .int .u8 0, .int .u8 0, .int .u8 0, .int .i16 0, .int .i16 0, .int .i16 0, .int .i16 0]) 8 14 Tryd.underlying29 hi0 hz0 hz1 hz2 rfl (by decide) _ _ _ rfl O4.out ⟨g, loO o f cc, none⟩ (e - f) (cc - f) (flatB ((xs.drop f).take c)) rfl FM.out C4.out (flatB_one _) (by unfold maxLen; omega) (by omega) z4 ?_)
  intro v5 W5 ho5 hk5 hn5
  obtain ⟨g5, n5, rfl⟩ : ∃ g5 n5, v5 = .slice (some ⟨g5, 0, none⟩) (t + (e - f)) n5 := by
    rcases ho5.2 with ⟨e1, _⟩ | ⟨g5, cap, cur, e1, _⟩
    · exact absurd e1 (fun h => hn5 h)
    · exact ⟨g5, cap, e1⟩
  have G5 := Lib.hid (G4.out.grown hk5 G4.out.size (fun k hk => (O4.out.lt k hk).1))
  obtain ⟨n6, hn6⟩ : ∃ n6 : Nat, t + (e - f) = n6 := ⟨_, rfl⟩
  have HN6 := Lib.hid hn6
  have L6 := Lib.hid (show n6 + (nr - t) = xs.length by have := EF.out; omega)
  rw [hn6] at ho5 ⊢
  clear hn6
  have O5 := Lib.hid ho5
  have X5 := Lib.hid ((G5.out.block _ X0l.out).trans X0.out)
  have hk5 : W4.grownBy W5 (some g4) := hk5
  have R5 := Lib.hid (show RowK W5 g3 rs rs.length n3 from rowK_grown R4.out hk5 R4.out.lt (some_neK (by have := N4.out; omega)) rfl)
  clear ho5 hk5 hn5 C4 FM z4
  have m2 : W5.cell? ⟨w.heap.size, 2, none⟩ = some (.int .i16 (t : Int)) := cell_of_row W5 _ 2 _ _ _ X5.out
  have C5 := Lib.hid (cells_add (booksAt_lo (c := n3) (i := t) R5.out.at_ (by rw [LRS.out]; exact hnN3)))
  have FE := Lib.hid (show (flatB (rs.drop t)).length = (nr - t) * 8 by rw [flatB_length, List.length_drop, LRS.out])
  have z5 := G5.out.size
  have l6 := L6.out
  go_wp2_with (at_builtin; refine wpList_append_own _ rfl (.tmp 38) (.tmp 42) _ rfl W1.heap.size 65 i0 (.agg #[.int .i16 0, .int .u8 0, .int .u8 0, .int .u8 0, .int .i16 0, .int .i16 0, .int .i16 0, .int .i16 0]) 8 14 Tryd.underlying29 hi0 hz0 hz1 hz2 rfl (by decide) _ _ _ rfl O5.out ⟨g3, loO 0 t n3, none⟩ (nr - t) (n3 - t) (flatB (rs.drop t)) rfl FE.out C5.out (flatB_one _) (by unfold maxLen; omega) (by omega) z5 ?_)
  intro v6 W6 ho6 hk6 hn6
  obtain ⟨g6, n7, rfl⟩ : ∃ g6 n7, v6 = .slice (some ⟨g6, 0, none⟩) xs.length n7 := by
    rcases ho6.2 with ⟨e1, _⟩ | ⟨g6, cap, cur, e1, _⟩
    · exact absurd e1 (fun h => hn6 h)
    · exact ⟨g6, cap, e1⟩
  have G6 := Lib.hid (G5.out.grown hk6 G5.out.size (fun k hk => (O5.out.lt k hk).1))
  have CE := Lib.hid (show carL xs f c t = rs.take t ++ (xs.drop f).take c ++ rs.drop t by unfold carL; rw [HRS.out, EF.out])
  have O6 := Lib.hid (show W6.ownsRow W1.heap.size 65 8 (.slice (some ⟨g6, 0, none⟩) xs.length n7) xs.length (flatB (carL xs f c t)) by rw [CE.out, flatB_appK, flatB_appK, List.append_assoc]; exact ho6)
  clear ho6 hk6 hn6 m2
  obtain ⟨hg6, hr6, hn7⟩ := rowK_of_own O6.out (carL_length xs f c t).symm
  rw [carL_length] at hr6 hn7
  have R6 := Lib.hid hr6
  clear hr6
  go_wp2
  go_ret
  exact ⟨_, _, rfl, R6.out, Nat.le_trans G0.out.size hg6, hn7, bnext G0.out G6.out⟩
end Go.Proofs.YtkclobdealnkhaaDoor
