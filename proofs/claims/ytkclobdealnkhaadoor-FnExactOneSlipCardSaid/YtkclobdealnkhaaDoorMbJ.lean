/- Blocks of books moved, by the model and by the program: contracts. Condition: as they stand in each. -/
import Derived.Test.YtkclobdealnkhaaDoorSwap
import Derived.Test.YtkclobdealnkhaaDoorCatO
import Derived.Deep.AppendLies
import Derived.Deep.RegionHeldLaw
import Derived.Deep.RegionLaw
import Derived.Deep.Cut
import Derived.IntWalk
import Derived.StillTailTactics
namespace Go.Proofs.YtkclobdealnkhaaDoor
set_option linter.unusedSimpArgs false
set_option linter.unusedVariables false
set_option maxRecDepth 100000

section
open Go.RowKit

/-- A list behind a block move. -/
def carL (xs : List Bk) (f c t : Nat) : List Bk := (xs.take f ++ xs.drop (f + c)).take t ++ (xs.drop f).take c ++ (xs.take f ++ xs.drop (f + c)).drop t
/-- A block move that can be made. -/
def canK (n : Nat) (F C T : Int) : Bool := decide (1 ≤ C ∧ 0 ≤ F ∧ F + C ≤ n ∧ 0 ≤ T ∧ T + C ≤ n)
def blC (xs : List Bk) (F C T : Int) : Int := if okB xs = false then 1 else if canK xs.length F C T = true then 0 else 2
def blR (xs : List Bk) (F C T : Int) : List Bk := if blC xs F C T = 0 then carL xs F.toNat C.toNat T.toNat else []
theorem carL_perm {xs : List Bk} (f c t : Nat) : (carL xs f c t).Perm xs := by
  unfold carL
  have h1 : ((xs.take f ++ xs.drop (f + c)).take t ++ (xs.drop f).take c ++ (xs.take f ++ xs.drop (f + c)).drop t).Perm ((xs.drop f).take c ++ ((xs.take f ++ xs.drop (f + c)).take t ++ (xs.take f ++ xs.drop (f + c)).drop t)) := by
    refine (List.Perm.append_right _ List.perm_append_comm).trans ?_
    rw [List.append_assoc]
  refine h1.trans ?_
  rw [List.take_append_drop]
  have h2 : ((xs.drop f).take c ++ (xs.take f ++ xs.drop (f + c))).Perm (xs.take f ++ ((xs.drop f).take c ++ xs.drop (f + c))) := by
    rw [← List.append_assoc, ← List.append_assoc]
    exact List.Perm.append_right _ List.perm_append_comm
  refine h2.trans ?_
  rw [show xs.drop (f + c) = (xs.drop f).drop c by rw [List.drop_drop], List.take_append_drop, List.take_append_drop]
theorem carL_length (xs : List Bk) (f c t : Nat) : (carL xs f c t).length = xs.length := (carL_perm f c t).length_eq
theorem carL_wf {xs : List Bk} (f c t : Nat) (h : ∀ b ∈ xs, b.Wf) : ∀ b ∈ carL xs f c t, b.Wf := fun b hb => h b ((carL_perm f c t).mem_iff.1 hb)
theorem okB_perm {xs ys : List Bk} (h : xs.Perm ys) : okB xs = okB ys := by
  unfold okB
  rw [h.length_eq]
  congr 1
  rw [Bool.eq_iff_iff, List.all_eq_true, List.all_eq_true]
  exact ⟨fun g b hb => g b (h.mem_iff.2 hb), fun g b hb => g b (h.mem_iff.1 hb)⟩
theorem bl_cases (xs : List Bk) (F C T : Int) : (okB xs = false ∧ blC xs F C T = 1 ∧ blR xs F C T = []) ∨ (okB xs = true ∧ canK xs.length F C T = false ∧ blC xs F C T = 2 ∧ blR xs F C T = []) ∨
    (okB xs = true ∧ ∃ f c t : Nat, F = f ∧ C = c ∧ T = t ∧ 1 ≤ c ∧ f + c ≤ xs.length ∧ t + c ≤ xs.length ∧ blC xs F C T = 0 ∧ blR xs F C T = carL xs f c t) := by
  by_cases h1 : okB xs = false
  · have e : blC xs F C T = 1 := by unfold blC; rw [if_pos h1]
    exact .inl ⟨h1, e, by unfold blR; rw [e]; rfl⟩
  · have h1' : okB xs = true := by simpa using h1
    by_cases h2 : canK xs.length F C T = true
    · have e : blC xs F C T = 0 := by unfold blC; rw [if_neg h1, if_pos h2]
      refine .inr (.inr ⟨h1', F.toNat, C.toNat, T.toNat, ?_, ?_, ?_, ?_, ?_, ?_, e, by unfold blR; rw [if_pos e]⟩)
      all_goals (unfold canK at h2; simp only [decide_eq_true_eq] at h2; omega)
    · have e : blC xs F C T = 2 := by unfold blC; rw [if_neg h1, if_neg h2]
      exact .inr (.inl ⟨h1', by simpa using h2, e, by unfold blR; rw [e]; rfl⟩)
theorem blR_length (xs : List Bk) (F C T : Int) : (blR xs F C T).length ≤ xs.length := by
  unfold blR
  split
  · rw [carL_length]; omega
  · simp
theorem can_canK (n : Nat) (m : Mv) : canB n m = canK n m.f 1 m.t := by
  unfold canB canK inB
  rw [← Bool.decide_and]
  exact decide_eq_decide.2 (by omega)
/-- Lists behind several moves. -/
def mvTo (xs : List Bk) (ms : List Mv) : Nat → List Bk
  | 0 => xs
  | k + 1 => carL (mvTo xs ms k) (ms.getD k default).f.toNat 1 (ms.getD k default).t.toNat
def mvR (xs : List Bk) (ms : List Mv) : List Bk := if swCode xs ms = 0 then mvTo xs ms ms.length else []
theorem mvTo_perm (xs : List Bk) (ms : List Mv) : ∀ k, (mvTo xs ms k).Perm xs
  | 0 => List.Perm.refl _
  | k + 1 => (carL_perm _ _ _).trans (mvTo_perm xs ms k)
theorem mvTo_length (xs : List Bk) (ms : List Mv) (k : Nat) : (mvTo xs ms k).length = xs.length := (mvTo_perm xs ms k).length_eq
theorem mvTo_wf {xs : List Bk} {ms : List Mv} (h : ∀ b ∈ xs, b.Wf) (k : Nat) : ∀ b ∈ mvTo xs ms k, b.Wf := fun b hb => h b ((mvTo_perm xs ms k).mem_iff.1 hb)
theorem mvR_length (xs : List Bk) (ms : List Mv) : (mvR xs ms).length ≤ xs.length := by
  unfold mvR
  split
  · rw [mvTo_length]; omega
  · simp
theorem mv_bad {xs : List Bk} {ms : List Mv} (h : swCode xs ms = (if ms.all (canB xs.length) then 0 else 2)) {k : Nat} (hk : k < ms.length) (hb : canB xs.length ms[k] = false) : swCode xs ms = 2 ∧ mvR xs ms = [] := by
  obtain ⟨e, _⟩ := sw_bad h hk hb
  exact ⟨e, by unfold mvR; rw [e]; rfl⟩
theorem mv_good {xs : List Bk} {ms : List Mv} (h : swCode xs ms = (if ms.all (canB xs.length) then 0 else 2)) (ha : ∀ k, k < ms.length → canB xs.length (ms.getD k default) = true) : swCode xs ms = 0 ∧ mvR xs ms = mvTo xs ms ms.length := by
  obtain ⟨e, _⟩ := sw_good h ha
  exact ⟨e, by unfold mvR; rw [if_pos e]⟩
end

section
open Go.RowKit Go.Sort

section
variable {P : Program} (w : World)
/-- An append to a row of the call's own, at a step of a drawn region. -/
theorem step_append_some {ops : Array Oper} {o : Oper} {a : Act} {K : Act → World → Prop} {Q : Exit → Act → World → Prop} {E : Prop} (hgd : o.guard = none) (s x : Operand) (t : TypeId)
    (ho : o.op = .call { callee := .builtin .append, args := #[s, x], argTypes := #[t, t] })
    (base : Nat) (e : TypeId) (i : TypeInfo) (z : Value) (size bytes : Nat) (ht : P.underlying t = some (.slice e)) (hi : P.info? e = some i) (hz : i.zero = some z)
    (hsize : i.size = size) (hby : i.bytes = bytes) (hzs : z.cells.size = size) (hsz : 0 < size)
    (g0 c0 : Nat) (n : Nat) (xs : List Value) (hs : a.eval s = .slice (some ⟨g0, 0, none⟩) n c0) (hown : w.ownsRow base e size (.slice (some ⟨g0, 0, none⟩) n c0) n xs)
    (ad : Addr) (m c : Nat) (news : List Value) (hx : a.eval x = .slice (some ad) m c) (hl : news.length = m * size) (hnews : ∀ j u, news[j]? = some u → w.cell? (ad.add j) = some u) (h1 : ∀ u ∈ news, u.oneCell' = true)
    (h63 : n + m ≤ maxLen) (hbytes : (n + m) * bytes ≤ 140737488355328) (hbase : base ≤ w.heap.size)
    (h : ∀ g cap w', w'.ownsRow base e size (.slice (some ⟨g, 0, none⟩) (n + m) cap) (n + m) (xs ++ news) → w.grownBy w' (some g0) → K (a.put o.dst (.slice (some ⟨g, 0, none⟩) (n + m) cap)) w') :
    if Region.wanted o (yielded ops a.tmps) = true then Oper.wp P o a w K Q else E := by
  have hw : Region.wanted o (yielded ops a.tmps) = true := by simp [Region.wanted, hgd]
  rw [if_pos hw]
  refine wp_append_own w s x t ho base e i z size bytes ht hi hz hsize hby hzs hsz _ n xs hs hown ad m c news hx hl hnews h1 h63 hbytes hbase fun v' w' h2 h3 h4 => ?_
  rcases h2.2 with ⟨e1, _⟩ | ⟨g, cap, cur, rfl, _⟩
  · have := (h4.1 e1).1
    cases this
  · exact h g cap w' h2 h3
end
theorem own_empty (W : World) (t : TypeId) (B size : Nat) (h : B ≤ W.heap.size) : (W.alloc (.cells #[] t)).ownsRow B t size (.slice (some ⟨W.heap.size, 0, none⟩) 0 0) 0 [] :=
  ⟨by simp, .inr ⟨W.heap.size, 0, #[], rfl, h, heap_alloc_new W _, Nat.le_refl _, Nat.zero_le _, by simp, by simp⟩⟩
theorem own_drew {W : World} {B : Nat} {t : TypeId} {size n : Nat} {v : Value} {xs : List Value} (h : W.ownsRow B t size v n xs) : W.drew.ownsRow B t size v n xs := h
theorem run_hiB (A : Option Addr) (n c k : Nat) (hk : k ≤ c) (w : World) :
    (Instr.slice 29 (.slice A n c) none (some (.int .i64 (k : Int))) none).run Tryd.prog w = .ok (.slice A k c) w := by
  rw [run_slice_h w _ _ _ _ elemBooks' _ _ (by omega) (by omega), sizeBook']
  cases A <;> simp [Result.andThen, sliced, Addr.add]
theorem run_hiB16 (A : Option Addr) (n c k : Nat) (hk : k ≤ c) (w : World) :
    (Instr.slice 29 (.slice A n c) none (some (.int .i16 (k : Int))) none).run Tryd.prog w = .ok (.slice A k c) w := by
  rw [run_slice_h w _ _ _ _ elemBooks' _ _ (by omega) (by omega), sizeBook']
  cases A <;> simp [Result.andThen, sliced, Addr.add]
/-- Where the books from i on lie. -/
def loO (o i c : Nat) : Nat := if c = i then o else o + i * 8
theorem run_loB (g o n c i : Nat) (hi : i ≤ n) (hc : n ≤ c) (w : World) :
    (Instr.slice 29 (.slice (some ⟨g, o, none⟩) n c) (some (.int .i64 (i : Int))) none none).run Tryd.prog w = .ok (.slice (some ⟨g, loO o i c, none⟩) (n - i) (c - i)) w := by
  rw [run_slice_l w _ _ _ _ elemBooks' _ _ (by omega) (by omega), sizeBook']
  unfold loO
  by_cases h : c = i
  · simp [Result.andThen, sliced, h]
  · simp [Result.andThen, sliced, h, Addr.add]
theorem run_loB16 (g o n c i : Nat) (hi : i ≤ n) (hc : n ≤ c) (w : World) :
    (Instr.slice 29 (.slice (some ⟨g, o, none⟩) n c) (some (.int .i16 (i : Int))) none none).run Tryd.prog w = .ok (.slice (some ⟨g, loO o i c, none⟩) (n - i) (c - i)) w := by
  rw [run_slice_l w _ _ _ _ elemBooks' _ _ (by omega) (by omega), sizeBook']
  unfold loO
  by_cases h : c = i
  · simp [Result.andThen, sliced, h]
  · simp [Result.andThen, sliced, h, Addr.add]
theorem run_midB (g o n c i k : Nat) (hi : i ≤ k) (hk : k ≤ c) (w : World) :
    (Instr.slice 29 (.slice (some ⟨g, o, none⟩) n c) (some (.int .i64 (i : Int))) (some (.int .i64 (k : Int))) none).run Tryd.prog w = .ok (.slice (some ⟨g, loO o i c, none⟩) (k - i) (c - i)) w := by
  rw [run_slice_lh w _ _ _ _ elemBooks' _ _ _ _ (by omega) (by omega) (by omega), sizeBook']
  unfold loO
  by_cases h : c = i
  · simp [Result.andThen, sliced, h]
  · simp [Result.andThen, sliced, h, Addr.add]
theorem booksAt_lo {w : World} {g o c i : Nat} {xs : List Bk} (h : BooksAt w g o xs) (hc : xs.length ≤ c) : BooksAt w g (loO o i c) (xs.drop i) := by
  unfold loO
  split
  · rename_i e
    rw [List.drop_eq_nil_of_le (by omega)]
    exact fun k hk => absurd hk (Nat.not_lt_zero _)
  · intro k hk j v hv
    have hk2 : i + k < xs.length := by rw [List.length_drop] at hk; omega
    have := h (i + k) hk2 j v (by rw [List.getElem_drop] at hv; exact hv)
    rwa [show o + (i + k) * 8 + j = o + i * 8 + k * 8 + j by omega] at this
theorem booksAt_take {w : World} {g o : Nat} {xs : List Bk} (h : BooksAt w g o xs) (k : Nat) : BooksAt w g o (xs.take k) := by
  intro i hi j v hv
  have hi2 : i < xs.length := by rw [List.length_take] at hi; omega
  exact h i hi2 j v (by rw [List.getElem_take] at hv; exact hv)
theorem flatB_appK (xs ys : List Bk) : flatB (xs ++ ys) = flatB xs ++ flatB ys := by
  refine List.ext_getElem? fun k => ?_
  by_cases h : k < (xs ++ ys).length * 8
  · have hj : k % 8 < 8 := Nat.mod_lt _ (by omega)
    have hi : k / 8 < (xs ++ ys).length := by omega
    have hk : k = k / 8 * 8 + k % 8 := by omega
    generalize k / 8 = i at *
    generalize k % 8 = j at *
    subst hk
    rw [flatB_at hi hj]
    by_cases h2 : i < xs.length
    · rw [List.getElem?_append_left (by rw [flatB_length]; omega), flatB_at h2 hj, List.getElem_append_left h2]
    · have hi2 : i - xs.length < ys.length := by rw [List.length_append] at hi; omega
      rw [List.getElem?_append_right (by rw [flatB_length]; omega), flatB_length, show i * 8 + j - xs.length * 8 = (i - xs.length) * 8 + j by omega, flatB_at hi2 hj, List.getElem_append_right (by omega)]
  · rw [List.getElem?_eq_none (by rw [flatB_length]; omega), List.getElem?_eq_none (by rw [List.length_append, flatB_length, flatB_length]; rw [List.length_append] at h; omega)]
theorem cells_add {w : World} {g o : Nat} {xs : List Bk} (h : BooksAt w g o xs) : ∀ j u, (flatB xs)[j]? = some u → w.cell? ((⟨g, o, none⟩ : Addr).add j) = some u := fun j u hu => by
  rw [Addr.add_lit]
  exact flat_cells h j u hu
theorem hatK {w W W' : World} {g o : Nat} {xs : List Bk} (h : BooksAt W g o xs) (h1 : Below w.heap.size w W) (h2 : Below w.heap.size w W') (hg : g < w.heap.size) : BooksAt W' g o xs := fun i hi j v hv =>
  (h2.cell (p := ⟨g, o + i * 8 + j, none⟩) hg).trans ((h1.cell (p := ⟨g, o + i * 8 + j, none⟩) hg).symm.trans (h i hi j v hv))
theorem keepBox {w W W' : World} {g : Nat} {o : Obj} (h : W.heap[g]? = some o) (h1 : Below w.heap.size w W) (h2 : Below w.heap.size w W') : W.heap[g]? = some o := h
theorem BooksAt.belowK {w w' : World} {g o : Nat} {xs : List Bk} (h : BooksAt w g o xs) (hb : Below w.heap.size w w') (hg : g < w.heap.size) : BooksAt w' g o xs := h.below hb hg
theorem rowK_grown {w w' : World} {g k n : Nat} {ys : List Bk} {row : Option Nat} (h : RowK w g ys k n) {w0 : World} (hg : w0.grownBy w' row) (hlt : g < w0.heap.size) (hne : some g ≠ row) (h0 : w0.heap[g]? = w.heap[g]? := by first | rfl | exact Below.heap_alloc _ _ _ (by assumption)) : RowK w' g ys k n := by
  obtain ⟨cs, e1, e2⟩ := h
  exact ⟨cs, (hg.block g hlt hne).trans (h0.trans e1), e2⟩
theorem some_neK {a b : Nat} (h : a ≠ b) : some a ≠ some b := fun e => h (by injection e)
set_option maxHeartbeats 8000000 in
theorem l03Carried_any (g o cc : Nat) (xs : List Bk) (f c t : Nat) (w : World) (hat : BooksAt w g o xs) (hg : g < w.heap.size) (hcap : xs.length ≤ cc) (hn : xs.length ≤ 1048576) (h1 : 1 ≤ c) (hf : f + c ≤ xs.length) (ht : t + c ≤ xs.length) (hf2 : f ≤ 32767) (hc2 : c ≤ 32767) (ht2 : t ≤ 32767) :
    Calls Tryd.prog 60 #[.slice (some ⟨g, o, none⟩) xs.length cc, .agg #[.int .i16 (f : Int), .int .i16 (c : Int), .int .i16 (t : Int)]] w fun e w' => ∃ g' N, e = .returned (.slice (some ⟨g', 0, none⟩) xs.length N) ∧ RowK w' g' (carL xs f c t) xs.length N ∧ w.heap.size ≤ g' ∧ xs.length ≤ N ∧ Below w.heap.size w w' := by
  obtain ⟨i0, hi0, hz0, hz1, hz2⟩ := info_parts infoBook
  have G0 := Lib.hid (show Below w.heap.size w (w.alloc (.cells #[.int .i16 (f : Int), .int .i16 (c : Int), .int .i16 (t : Int)] 71)) from (Below.refl _ _).alloc (Nat.le_refl _) _)
  have X0 := Lib.hid (heap_alloc_new w (.cells #[.int .i16 (f : Int), .int .i16 (c : Int), .int .i16 (t : Int)] 71))
  have A0 := Lib.hid (hat.below G0.out hg)
  have HG := Lib.hid hg
  obtain ⟨e, he⟩ : ∃ e : Nat, e = f + c := ⟨_, rfl⟩
  have w1 : (f : Int) + (c : Int) = (e : Int) := by omega
  have s1 := fun W => run_hiB (some ⟨g, o, none⟩) xs.length cc f (by omega) W
  have s2 := fun W => run_loB g o xs.length cc e (by omega) hcap W
  have s3 := fun W => run_midB g o xs.length cc f e (by omega) (by omega) W
  have EF := Lib.hid he
  have ne : e ≤ xs.length := by omega
  have nf : f ≤ e := by omega
  have HF := Lib.hid hf
  have HT := Lib.hid ht
  have HCAP := Lib.hid hcap
  have LT := Lib.hid (show (xs.take f).length = f by rw [List.length_take]; omega)
  have LD := Lib.hid (show (xs.drop e).length = xs.length - e by rw [List.length_drop])
  clear hat hf ht he hg hcap
  go_enter Tryd.func60, Tryd.ntmps60
  go_upto_region 1 with (fail)
  generalize World.alloc w _ = W1 at G0 X0 A0 ⊢
  have m0 : W1.cell? ⟨w.heap.size, 0, none⟩ = some (.int .i16 (f : Int)) := cell_of_row W1 _ 0 _ _ _ X0.out
  have m1 : W1.cell? ⟨w.heap.size, 1, none⟩ = some (.int .i16 (c : Int)) := cell_of_row W1 _ 1 _ _ _ X0.out
  have m2 : W1.cell? ⟨w.heap.size, 2, none⟩ = some (.int .i16 (t : Int)) := cell_of_row W1 _ 2 _ _ _ X0.out
  go_upto_region 3 with (fail)
  have HG1 := Lib.hid (Nat.lt_of_lt_of_le HG.out G0.out.size)
  have X0l := Lib.hid (Array.getElem?_eq_some_iff.1 X0.out).1
  have G1 := Lib.hid (show Below W1.heap.size W1 (W1.alloc (.cells #[] 65)).drew from ((Below.refl _ _).alloc (Nat.le_refl _) _).drew)
  have A1 := Lib.hid (A0.out.below G1.out HG1.out)
  have O1 := Lib.hid (own_drew (own_empty W1 65 W1.heap.size 8 (Nat.le_refl _)))
  have C1 := Lib.hid (cells_add (booksAt_take A1.out f))
  have z1 : W1.heap.size ≤ (W1.alloc (.cells #[] 65)).drew.heap.size := G1.out.size
  obtain ⟨nr, hnr⟩ : ∃ nr : Nat, f + (xs.length - e) = nr := ⟨_, rfl⟩
  obtain ⟨rs, hrs⟩ : ∃ rs : List Bk, rs = xs.take f ++ xs.drop e := ⟨_, rfl⟩
  have LRS := Lib.hid (show rs.length = nr by rw [hrs, List.length_append, LT.out, LD.out]; exact hnr)
  have tn : t ≤ nr := by have := HT.out; have := EF.out; omega
  have nc : nr + c = xs.length := by have := EF.out; omega
  have HNR := Lib.hid hnr
  have HRS := Lib.hid hrs
  clear hnr hrs
  have FL := Lib.hid (show (flatB (xs.take f)).length = f * 8 by rw [flatB_length, LT.out])
  have FD := Lib.hid (show (flatB (xs.drop e)).length = (xs.length - e) * 8 by rw [flatB_length, LD.out])
  go_region_law (first
    | (refine step_append_some _ (by rfl) (.tmp 17) (.tmp 20) _ (by rfl) W1.heap.size 65 i0 (.agg #[.int .i16 0, .int .u8 0, .int .u8 0, .int .u8 0, .int .i16 0, .int .i16 0, .int .i16 0, .int .i16 0]) 8 14 Tryd.underlying29 hi0 hz0 hz1 hz2 rfl (by decide) W1.heap.size 0 0 [] (by rfl) O1.out ⟨g, o, none⟩ f cc (flatB (xs.take f)) (by rfl) FL.out C1.out (flatB_one _) (by unfold maxLen; omega) (by omega) z1 ?_
       intro g2 n2 W2 ho2 hk2
       have G2 := Lib.hid (G1.out.grown hk2 G1.out.size (fun k hk => by injection hk with hk; omega))
       have A2 := Lib.hid (A0.out.below G2.out HG1.out)
       have C2 := Lib.hid (cells_add (booksAt_lo (i := e) A2.out HCAP.out))
       have z2 := G2.out.size
       have O2 := Lib.hid (show W2.ownsRow W1.heap.size 65 8 (.slice (some ⟨g2, 0, none⟩) f n2) f (flatB (xs.take f)) by simpa using ho2)
       have hk2 := Lib.hid (hk2)
       clear ho2)
    | (refine step_append_some _ (by rfl) (.tmp 21) (.tmp 24) _ (by rfl) W1.heap.size 65 i0 (.agg #[.int .i16 0, .int .u8 0, .int .u8 0, .int .u8 0, .int .i16 0, .int .i16 0, .int .i16 0, .int .i16 0]) 8 14 Tryd.underlying29 hi0 hz0 hz1 hz2 rfl (by decide) g2 n2 f (flatB (xs.take f)) (by rfl) O2.out ⟨g, loO o e cc, none⟩ (xs.length - e) (cc - e) (flatB (xs.drop e)) (by rfl) FD.out C2.out (flatB_one _) (by unfold maxLen; omega) (by omega) z2 ?_
       intro g3 n3 W3 ho3 hk3
       have G3 := Lib.hid (G2.out.grown hk3 G2.out.size (fun k hk => (O2.out.lt k hk).1))
       rw [HNR.out] at ho3 ⊢
       have O3 := Lib.hid (show W3.ownsRow W1.heap.size 65 8 (.slice (some ⟨g3, 0, none⟩) nr n3) nr (flatB rs) by rw [HRS.out, flatB_appK]; exact ho3)
       clear ho3 hk3))
  clear O1 C1 O2 C2 FD z1 z2
  obtain ⟨hgb3, hrk3, hnN3⟩ := rowK_of_own O3.out LRS.out.symm
  have R3 := Lib.hid hrk3
  have A3 := Lib.hid (A0.out.below G3.out HG1.out)
  have X3 := Lib.hid ((G3.out.block _ X0l.out).trans X0.out)
  clear A1 A2 G1 G2 hrk3 m0 m1 m2
  rw [LRS.out] at hnN3
  have m2 : W3.cell? ⟨w.heap.size, 2, none⟩ = some (.int .i16 (t : Int)) := cell_of_row W3 _ 2 _ _ _ X3.out
  have lx3 : w.heap.size < W3.heap.size := Nat.lt_of_lt_of_le X0l.out G3.out.size
  have m2e : (W3.alloc (.cells #[] 65)).cell? ⟨w.heap.size, 2, none⟩ = some (.int .i16 (t : Int)) := (((Below.refl W3.heap.size W3).alloc (Nat.le_refl _) _).cell (p := ⟨w.heap.size, 2, none⟩) lx3).trans m2
  have s4 := fun W => run_hiB16 (some ⟨g3, 0, none⟩) nr n3 t (by omega) W
  have s5 := fun W => run_loB16 g3 0 nr n3 t (by omega) (by omega) W
  have z3 := G3.out.size
  have OE := Lib.hid (own_empty W3 65 W1.heap.size 8 z3)
  have GE := Lib.hid (show Below W1.heap.size W1 (W3.alloc (.cells #[] 65)) from G3.out.alloc z3 _)
  have FT := Lib.hid (show (flatB (rs.take t)).length = t * 8 by rw [flatB_length, List.length_take, LRS.out]; omega)
  have AE := Lib.hid (cells_add (booksAt_take (BooksAt.belowK R3.out.at_ (show Below W3.heap.size W3 (W3.alloc (.cells #[] 65)) from (Below.refl _ _).alloc (Nat.le_refl _) _) R3.out.lt) t))
  go_wp2_with (at_builtin; refine wpList_append_own_at _ rfl (.tmp 26) (.tmp 30) _ rfl W1.heap.size 65 i0 (.agg #[.int .i16 0, .int .u8 0, .int .u8 0, .int .u8 0, .int .i16 0, .int .i16 0, .int .i16 0, .int .i16 0]) 8 14 Tryd.underlying29 hi0 hz0 hz1 hz2 rfl (by decide) _ _ _ rfl OE.out ⟨g3, 0, none⟩ t n3 (flatB (rs.take t)) rfl FT.out AE.out (flatB_one _) (by unfold maxLen; omega) (by omega) (by simp; omega) ?_)
  intro v4 W4 ho4 hk4 hn4 hat4
  obtain ⟨g4, n4, rfl⟩ : ∃ g4 n4, v4 = .slice (some ⟨g4, 0, none⟩) t n4 := by
    rcases ho4.2 with ⟨e1, _⟩ | ⟨g4, cap, cur, e1, _⟩
    · exact absurd e1 (fun h => hn4 h)
    · exact ⟨g4, cap, by simpa using e1⟩
  have G4 := Lib.hid (GE.out.grown hk4 GE.out.size (fun k hk => (OE.out.lt k hk).1))
  have O4 := Lib.hid (show W4.ownsRow W1.heap.size 65 8 (.slice (some ⟨g4, 0, none⟩) t n4) t (flatB (rs.take t)) by simpa using ho4)
  have A4 := Lib.hid (A0.out.below G4.out HG1.out)
  have X4 := Lib.hid ((G4.out.block _ X0l.out).trans X0.out)
  have N4 := Lib.hid (show g3 < g4 by
    have h1 := R3.out.lt
    rcases hat4 with h | h
    · have h : some g4 = some W3.heap.size := h
      have h2 : g4 = W3.heap.size := Option.some.inj h
      omega
    · have h : some g4 = some (W3.heap.size + 1) := h
      have h2 : g4 = W3.heap.size + 1 := Option.some.inj h
      omega)
  have hk4 : (W3.alloc (.cells #[] 65)).grownBy W4 (some W3.heap.size) := hk4
  have R4 := Lib.hid (show RowK W4 g3 rs rs.length n3 from rowK_grown R3.out hk4 (by simp; have := R3.out.lt; omega) (some_neK (by have := R3.out.lt; omega)) (Below.heap_alloc _ _ _ R3.out.lt))
  clear ho4 hk4 hn4 hat4 m2 m2e lx3 OE GE AE FT A3 X3
  have C4 := Lib.hid (cells_add (booksAt_take (booksAt_lo (i := f) A4.out HCAP.out) c))
  have FM := Lib.hid (show (flatB ((xs.drop f).take c)).length = (e - f) * 8 by rw [flatB_length, List.length_take, List.length_drop]; have := EF.out; omega)
  have z4 := G4.out.size
  have tf : t + (e - f) ≤ xs.length := by have := HT.out; have := EF.out; omega
  go_wp2_with (at_builtin; refine wpList_append_own _ rfl (.tmp 32) (.tmp 36) _ rfl W1.heap.size 65 i0 (.agg #[.int .i16 0, .int .u8 0, .int .u8 0, .int .u8 0, .int .i16 0, .int .i16 0, .int .i16 0, .int .i16 0]) 8 14 Tryd.underlying29 hi0 hz0 hz1 hz2 rfl (by decide) _ _ _ rfl O4.out ⟨g, loO o f cc, none⟩ (e - f) (cc - f) (flatB ((xs.drop f).take c)) rfl FM.out C4.out (flatB_one _) (by unfold maxLen; omega) (by omega) z4 ?_)
  intro v5 W5 ho5 hk5 hn5
  obtain ⟨g5, n5, rfl⟩ : ∃ g5 n5, v5 = .slice (some ⟨g5, 0, none⟩) (t + (e - f)) n5 := by
    rcases ho5.2 with ⟨e1, _⟩ | ⟨g5, cap, cur, e1, _⟩
    · exact absurd e1 (fun h => hn5 h)
    · exact ⟨g5, cap, e1⟩
  have G5 := Lib.hid (G4.out.grown hk5 G4.out.size (fun k hk => (O4.out.lt k hk).1))
  obtain ⟨n6, hn6⟩ : ∃ n6 : Nat, t + (e - f) = n6 := ⟨_, rfl⟩
  have HN6 := Lib.hid hn6
  have L6 := Lib.hid (show n6 + (nr - t) = xs.length by have := EF.out; omega)
  rw [hn6] at ho5 ⊢
  clear hn6
  have O5 := Lib.hid ho5
  have X5 := Lib.hid ((G5.out.block _ X0l.out).trans X0.out)
  have hk5 : W4.grownBy W5 (some g4) := hk5
  have R5 := Lib.hid (show RowK W5 g3 rs rs.length n3 from rowK_grown R4.out hk5 R4.out.lt (some_neK (by have := N4.out; omega)) rfl)
  clear ho5 hk5 hn5 C4 FM z4
  have m2 : W5.cell? ⟨w.heap.size, 2, none⟩ = some (.int .i16 (t : Int)) := cell_of_row W5 _ 2 _ _ _ X5.out
  have C5 := Lib.hid (cells_add (booksAt_lo (c := n3) (i := t) R5.out.at_ (by rw [LRS.out]; exact hnN3)))
  have FE := Lib.hid (show (flatB (rs.drop t)).length = (nr - t) * 8 by rw [flatB_length, List.length_drop, LRS.out])
  have z5 := G5.out.size
  have l6 := L6.out
  go_wp2_with (at_builtin; refine wpList_append_own _ rfl (.tmp 38) (.tmp 42) _ rfl W1.heap.size 65 i0 (.agg #[.int .i16 0, .int .u8 0, .int .u8 0, .int .u8 0, .int .i16 0, .int .i16 0, .int .i16 0, .int .i16 0]) 8 14 Tryd.underlying29 hi0 hz0 hz1 hz2 rfl (by decide) _ _ _ rfl O5.out ⟨g3, loO 0 t n3, none⟩ (nr - t) (n3 - t) (flatB (rs.drop t)) rfl FE.out C5.out (flatB_one _) (by unfold maxLen; omega) (by omega) z5 ?_)
  intro v6 W6 ho6 hk6 hn6
  obtain ⟨g6, n7, rfl⟩ : ∃ g6 n7, v6 = .slice (some ⟨g6, 0, none⟩) xs.length n7 := by
    rcases ho6.2 with ⟨e1, _⟩ | ⟨g6, cap, cur, e1, _⟩
    · exact absurd e1 (fun h => hn6 h)
    · exact ⟨g6, cap, e1⟩
  have G6 := Lib.hid (G5.out.grown hk6 G5.out.size (fun k hk => (O5.out.lt k hk).1))
  have CE := Lib.hid (show carL xs f c t = rs.take t ++ (xs.drop f).take c ++ rs.drop t by unfold carL; rw [HRS.out, EF.out])
  have O6 := Lib.hid (show W6.ownsRow W1.heap.size 65 8 (.slice (some ⟨g6, 0, none⟩) xs.length n7) xs.length (flatB (carL xs f c t)) by rw [CE.out, flatB_appK, flatB_appK, List.append_assoc]; exact ho6)
  clear ho6 hk6 hn6 m2
  obtain ⟨hg6, hr6, hn7⟩ := rowK_of_own O6.out (carL_length xs f c t).symm
  rw [carL_length] at hr6 hn7
  have R6 := Lib.hid hr6
  clear hr6
  go_wp2
  go_ret
  exact ⟨_, _, rfl, R6.out, Nat.le_trans G0.out.size hg6, hn7, bnext G0.out G6.out⟩
end

section
open Go.RowKit Go.Sort

theorem canK_eq (n : Nat) (F C T : Int) : canK n F C T = (decide (1 ≤ C) && (inB F 0 ((n : Int) - C) && inB T 0 ((n : Int) - C))) := by
  unfold canK inB
  rw [← Bool.decide_and, ← Bool.decide_and]
  exact decide_eq_decide.2 (by omega)
theorem resB_empty {w w1 : World} (h : Below w.heap.size w w1) {ys : List Bk} (e : ys = []) : ResB (w1.alloc (.cells #[] 65)) w.heap.size (.slice (some ⟨w1.heap.size, 0, none⟩) 0 0) ys := by
  subst e
  exact .inr ⟨w1.heap.size, 0, rfl, h.size, ⟨#[], heap_alloc_new w1 _, rfl, fun i hi => absurd hi (Nat.not_lt_zero _)⟩, Nat.le_refl _⟩
theorem SliceOf.at_some {w : World} {b o c : Nat} {xs : List Bk} (h : SliceOf w (.slice (some ⟨b, o, none⟩) xs.length c) xs) (h0 : 0 < xs.length) : b < w.heap.size ∧ BooksAt w b o xs := by
  obtain ⟨A', c', e', hh⟩ := h
  obtain ⟨g', o', rfl, hg', hat⟩ := hh h0
  injection e' with e1 e2 e3
  injection e1 with e1
  injection e1 with e1 e4 e5
  subst e1 e4
  exact ⟨hg', hat⟩
/-- A book list in the end of a call, moved in a row of its own. -/
theorem resB_row {w w' : World} {g N n : Nat} {ys : List Bk} (hr : RowK w' g ys n N) (hn : ys.length = n) (hg : w.heap.size ≤ g) (hN : n ≤ N) : ResB w' w.heap.size (.slice (some ⟨g, 0, none⟩) n N) ys := by
  subst hn
  exact .inr ⟨g, N, rfl, hg, hr, hN⟩
set_option maxHeartbeats 4000000 in
theorem l03Moved_any (b o cc : Nat) (xs : List Bk) (f t : Nat) (w : World) (hat : BooksAt w b o xs) (hg : b < w.heap.size) (hcap : xs.length ≤ cc) (hn : xs.length ≤ 1048576) (hf : f < xs.length) (ht : t < xs.length) (hf2 : f ≤ 32767) (ht2 : t ≤ 32767) :
    Calls Tryd.prog 33 #[.slice (some ⟨b, o, none⟩) xs.length cc, .agg #[.int .i16 (f : Int), .int .i16 (t : Int)]] w fun e w' => ∃ g' N, e = .returned (.slice (some ⟨g', 0, none⟩) xs.length N) ∧ RowK w' g' (carL xs f 1 t) xs.length N ∧ w.heap.size ≤ g' ∧ xs.length ≤ N ∧ Below w.heap.size w w' := by
  have G0 := Lib.hid (show Below w.heap.size w (w.alloc (.cells #[.int .i16 (f : Int), .int .i16 (t : Int)] 26)) from (Below.refl _ _).alloc (Nat.le_refl _) _)
  have A0 := Lib.hid (hat.below G0.out hg)
  have B0 := Lib.hid (Nat.lt_of_lt_of_le hg G0.out.size)
  have KK := Lib.hid (fun W (h : BooksAt W b o xs) (h' : b < W.heap.size) => l03Carried_any b o cc xs f 1 t W h h' hcap hn (Nat.le_refl _) hf ht hf2 (by omega) ht2)
  clear hat
  go_enter Tryd.func33, Tryd.ntmps33
  go_wp2_with fail
  generalize World.alloc w _ = W1 at G0 A0 B0 ⊢
  refine (KK.out _ A0.out B0.out).mono ?_
  rintro e w2 ⟨g, N, rfl, hr, hg, hN, g2⟩
  go_wp2
  go_ret
  exact ⟨g, N, rfl, hr, Nat.le_trans G0.out.size hg, hN, bnext G0.out g2⟩
end

section
open Go.RowKit Go.Sort

theorem mvTo_succ {xs : List Bk} {ms : List Mv} {k : Nat} (hk : k < ms.length) {f t : Nat} (ef : ms[k].f = f) (et : ms[k].t = t) : mvTo xs ms (k + 1) = carL (mvTo xs ms k) f 1 t := by
  rw [mvTo, mv_getD hk, ef, et]
  rfl
set_option maxHeartbeats 8000000 in
theorem l03All_any (b o c : Nat) (xs : List Bk) (v : Value) (ms : List Mv) (wf : ∀ b ∈ xs, b.Wf) (wm : ∀ m ∈ ms, m.Wf) (w : World) (hs : SliceOf w (.slice (some ⟨b, o, none⟩) xs.length c) xs) (hm : MovesOf w v ms) (hn : xs.length ≤ 1048576) (ml : xs.length ≤ maxLen) (mm : ms.length ≤ maxLen) :
    Calls Tryd.prog 39 #[.slice (some ⟨b, o, none⟩) xs.length c, v] w fun e w' => ∃ u, e = .returned (.tuple #[u, .int .i64 (swCode xs ms)]) ∧ ResB w' w.heap.size u (mvR xs ms) ∧ Below w.heap.size w w' := by
  have HS := Lib.hid hs
  have HM := Lib.hid hm
  have WF := Lib.hid wf
  have WM := Lib.hid wm
  obtain ⟨B, q, rfl, hm⟩ := hm
  have HMA := Lib.hid hm
  unfold maxLen at mm
  clear hs wf wm hm
  rcases sw_cases xs ms with ⟨h1, h2, h3⟩ | ⟨h1, h4, h2, h3⟩ | ⟨h1, h4, h2⟩
  · have E := Lib.hid h2
    have E2 := Lib.hid (show mvR xs ms = [] by unfold mvR; rw [h2]; rfl)
    clear h2 h3
    go_enter Tryd.func39, Tryd.ntmps39
    go_wp2_with fail
    refine (l01Ok_any _ xs WF.out _ HS.out ml).mono ?_
    rintro e w1 ⟨rfl, g1⟩
    rw [h1]
    go_wp2
    go_ret2
    exact ⟨_, by rw [E.out]; rfl, resB_empty g1 E2.out, g1.alloc g1.size _⟩
  · have E := Lib.hid h2
    have E2 := Lib.hid (show mvR xs ms = [] by unfold mvR; rw [h2]; rfl)
    have h4' : (200 : Int) < (ms.length : Int) := by omega
    clear h2 h3
    go_enter Tryd.func39, Tryd.ntmps39
    go_wp2_with fail
    refine (l01Ok_any _ xs WF.out _ HS.out ml).mono ?_
    rintro e w1 ⟨rfl, g1⟩
    rw [h1]
    go_wp2
    go_ret2
    exact ⟨_, by rw [E.out]; rfl, resB_empty g1 E2.out, g1.alloc g1.size _⟩
  · have E0 := Lib.hid h2
    have h4' : ¬ ((200 : Int) < (ms.length : Int)) := by omega
    obtain ⟨i0, hi0, hz0, hz1, hz2⟩ := info_parts infoBook
    have h60 := okB_60 h1
    clear h2
    go_enter Tryd.func39, Tryd.ntmps39
    go_wp2_with fail
    refine (l01Ok_any _ xs WF.out _ HS.out ml).mono ?_
    rintro e w1 ⟨rfl, g1⟩
    rw [h1]
    have OW := Lib.hid (show (w1.alloc (.cells #[] 65)).ownsRow w.heap.size 65 8 (.slice (some ⟨w1.heap.size, 0, none⟩) 0 0) 0 [] from ⟨rfl, .inr ⟨w1.heap.size, 0, #[], rfl, g1.size, heap_alloc_new w1 _, Nat.le_refl _, Nat.zero_le _, rfl, rfl⟩⟩)
    have gz := Lib.hid (g1.alloc g1.size (.cells #[] 65))
    have hsz := gz.out.size
    have HS1 := Lib.hid (HS.out.below gz.out)
    go_wp2_with (at_builtin; refine wpList_append_own _ rfl (.tmp 16) (.tmp 17) _ rfl w.heap.size 65 i0 (.agg #[.int .i16 0, .int .u8 0, .int .u8 0, .int .u8 0, .int .i16 0, .int .i16 0, .int .i16 0, .int .i16 0]) 8 14 Tryd.underlying29 hi0 hz0 hz1 hz2 rfl (by decide) _ _ _ rfl OW.out ⟨b, o, none⟩ xs.length c (flatB xs) rfl (flatB_length xs) ?c1 (flatB_one xs) ?c3 ?c4 ?c5 ?_)
    case c1 =>
      intro j u hu
      have h0 : 0 < xs.length := by have := (List.getElem?_eq_some_iff.1 hu).1; rw [flatB_length] at this; omega
      obtain ⟨_, hat⟩ := HS1.out.at_some h0
      exact cells_add hat j u hu
    case c3 => (unfold maxLen; omega)
    case c4 => omega
    case c5 => exact hsz
    intro v' w2 hown' hgrow' hne'
    obtain ⟨g, N, rfl⟩ : ∃ g N, v' = .slice (some ⟨g, 0, none⟩) xs.length N := by
      rcases hown'.2 with ⟨h, _⟩ | ⟨g, cap, cur, h, _⟩
      · exact absurd h hne'
      · exact ⟨g, cap, h⟩
    obtain ⟨hgb, hrk, hnN⟩ := rowK_of_own hown' rfl
    have HRK := Lib.hid hrk
    have g2 := Lib.hid (gz.out.grown hgrow' gz.out.size (fun k hk => (OW.out.lt k hk).1))
    clear hown' hgrow' hne' hrk OW
    go_wp2
    go_loopw [6, 7] (fun v_ i_ wr => ∃ k g N : Nat, v_ = .slice (some ⟨g, 0, none⟩) xs.length N ∧ k ≤ ms.length ∧ i_ = .int .i64 (k : Int) ∧ (∀ k', k' < k → canB xs.length (ms.getD k' default) = true) ∧ w.heap.size ≤ g ∧ xs.length ≤ N ∧ RowK wr g (mvTo xs ms k) xs.length N ∧ Below w.heap.size w wr) (fun _ i_ _ => ms.length - (intOf i_).toNat)
    case atStart => exact ⟨0, g, N, rfl, Nat.zero_le _, rfl, fun _ h => absurd h (Nat.not_lt_zero _), hgb, hnN, HRK.out, g2.out⟩
    case round =>
      clear hgb hnN HRK g2
      obtain ⟨k, g, N, rfl, hk, rfl, hcan, hgb, hnN, hrow, hb⟩ := hrel
      have HCN := Lib.hid hcan
      have HR := Lib.hid hrow
      clear hcan hrow
      by_cases hlt : k < ms.length
      · obtain ⟨gm, om, rfl, hgm, hat⟩ := HMA.out (by omega)
        obtain ⟨p0, p1⟩ := hat.below hb hgm k hlt
        have CC := Lib.hid (fun W => l03Can_any xs.length ms[k] (WM.out _ (List.getElem_mem hlt)) W hn)
        have HAT := Lib.hid hat
        clear hat
        cases hc : canB xs.length ms[k]
        · obtain ⟨E1, E2⟩ := mv_bad E0.out hlt hc
          have E1 := Lib.hid E1
          have E2 := Lib.hid E2
          rw [hc] at CC
          clear hc
          go_wp2_with fail
          refine (CC.out _).mono ?_
          rintro e w3 ⟨rfl, g3⟩
          clear p0 p1
          have b3 := Lib.hid (bnext hb g3)
          go_wp2
          go_ret2
          exact ⟨_, by rw [E1.out]; rfl, resB_empty b3.out E2.out, b3.out.alloc b3.out.size _⟩
        · obtain ⟨i, j, ei, ej, hi, hj⟩ := can_some hc
          have HC := Lib.hid hc
          rw [hc, ei, ej] at CC
          have SW := Lib.hid (mvTo_succ (xs := xs) hlt ei ej)
          have HCK := Lib.hid (show canB xs.length (ms.getD k default) = true by rw [mv_getD hlt]; exact hc)
          have EI := Lib.hid ei
          have EJ := Lib.hid ej
          rw [ei] at p0
          rw [ej] at p1
          clear hc ei ej
          have LY := Lib.hid (mvTo_length xs ms k)
          generalize mvTo xs ms k = ys at HR SW LY
          have KK := Lib.hid (fun W (h : BooksAt W g 0 ys) (h' : g < W.heap.size) => show Calls Tryd.prog 33 #[.slice (some ⟨g, 0, none⟩) xs.length N, .agg #[.int .i16 (i : Int), .int .i16 (j : Int)]] W _ from LY.out ▸ l03Moved_any g 0 N ys i j W h h' (by rw [LY.out]; exact hnN) (by rw [LY.out]; exact hn) (by rw [LY.out]; exact hi) (by rw [LY.out]; exact hj) (by omega) (by omega))
          go_wp2_with fail
          refine (CC.out _).mono ?_
          rintro e w3 ⟨rfl, g3⟩
          have b3 := Lib.hid (bnext hb g3)
          have R3 := Lib.hid (HR.out.below g3 HR.out.lt)
          clear p0 p1
          obtain ⟨p0, p1⟩ := HAT.out.below b3.out hgm k hlt
          rw [EI.out] at p0
          rw [EJ.out] at p1
          have AT := Lib.hid (RowK.at_ (show RowK w3 g ys ys.length N by rw [LY.out]; exact R3.out))
          go_wp2_with fail
          refine (KK.out _ AT.out R3.out.lt).mono ?_
          rintro e w4 ⟨g', N', rfl, hr', hg', hN', g4⟩
          have b4 := Lib.hid (bnext b3.out g4)
          have R4 := Lib.hid (show RowK w4 g' (mvTo xs ms (k + 1)) xs.length N' by rw [SW.out]; exact hr')
          have hg2 : w.heap.size ≤ g' := Nat.le_trans b3.out.size hg'
          clear p0 p1 hr' hg'
          go_wp2
          go_roundw
          case rel => exact ⟨k + 1, g', N', rfl, by omega, by go_num, all_succK HCN.out HCK.out, hg2, hN', R4.out, b4.out⟩
          case measure => simp [intOf]; omega
      · obtain rfl : k = ms.length := by omega
        obtain ⟨E1, E2⟩ := mv_good E0.out HCN.out
        have E1 := Lib.hid E1
        have E2 := Lib.hid E2
        go_wp2
        go_ret2
        exact ⟨_, by rw [E1.out]; rfl, by rw [E2.out]; exact resB_row HR.out (mvTo_length _ _ _) hgb hnN, hb⟩
end

section
open Go.RowKit Go.Sort

def am (A : Option (Nat × Nat)) : Option Addr := A.map fun p => ⟨p.1, p.2, none⟩
/-- Books at an address, if there is one. -/
def BkO (w : World) (A : Option (Nat × Nat)) (xs : List Bk) : Prop := ∀ p, A = some p → p.1 < w.heap.size ∧ BooksAt w p.1 p.2 xs
def loA (A : Option (Nat × Nat)) (i c : Nat) : Option (Nat × Nat) := if c = i then A else A.map fun p => (p.1, p.2 + i * 8)
theorem BkO.below {w w' : World} {A : Option (Nat × Nat)} {xs : List Bk} (h : BkO w A xs) (hb : Below w.heap.size w w') : BkO w' A xs := fun p hp => ⟨Nat.lt_of_lt_of_le (h p hp).1 hb.size, (h p hp).2.below hb (h p hp).1⟩
theorem BkO.take {w : World} {A : Option (Nat × Nat)} {xs : List Bk} (h : BkO w A xs) (k : Nat) : BkO w A (xs.take k) := fun p hp => ⟨(h p hp).1, booksAt_take (h p hp).2 k⟩
theorem BkO.lo {w : World} {A : Option (Nat × Nat)} {xs : List Bk} (h : BkO w A xs) (i c : Nat) (hc : xs.length ≤ c) : BkO w (loA A i c) (xs.drop i) := by
  intro p hp
  unfold loA at hp
  split at hp
  · rename_i e
    refine ⟨(h p hp).1, ?_⟩
    rw [List.drop_eq_nil_of_le (by omega)]
    exact fun k hk => absurd hk (Nat.not_lt_zero _)
  · rename_i e
    cases A with
    | none => cases hp
    | some q =>
      obtain ⟨h1, h2⟩ := h q rfl
      have hp : (q.1, q.2 + i * 8) = p := by simpa using hp
      subst hp
      refine ⟨h1, ?_⟩
      have := booksAt_lo (i := i) h2 hc
      unfold loO at this
      rwa [if_neg e] at this
theorem run_hiO (A : Option (Nat × Nat)) (n c k : Nat) (hk : k ≤ c) (w : World) :
    (Instr.slice 29 (.slice (am A) n c) none (some (.int .i64 (k : Int))) none).run Tryd.prog w = .ok (.slice (am A) k c) w := run_hiB (am A) n c k hk w
theorem run_lo_O (A : Option (Nat × Nat)) (n c i : Nat) (hi : i ≤ n) (hc : n ≤ c) (w : World) :
    (Instr.slice 29 (.slice (am A) n c) (some (.int .i64 (i : Int))) none none).run Tryd.prog w = .ok (.slice (am (loA A i c)) (n - i) (c - i)) w := by
  rw [run_slice_l w _ _ _ _ elemBooks' _ _ (by omega) (by omega), sizeBook']
  unfold loA
  by_cases h : c = i
  · simp [Result.andThen, sliced, h]
  · cases A <;> simp [Result.andThen, sliced, h, Addr.add, am]
theorem loA_none {A : Option (Nat × Nat)} {i c : Nat} (h : loA A i c = none) : A = none := by
  unfold loA at h
  split at h
  · exact h
  · cases A with
    | none => rfl
    | some q => cases h
theorem soOk_books {w : World} {A : Option (Nat × Nat)} {n c : Nat} {zs : List Bk} (h : BkO w A zs) (h0 : A = none → n = 0 ∧ c = 0) (hn : n = zs.length) : SoOk 8 w ⟨A, n, c, flatB zs⟩ := by
  refine ⟨fun e => ?_, fun p hp => (h p hp).1, by rw [hn]; exact flatB_length zs, fun p hp => flat_cells (h p hp).2, flatB_one zs⟩
  obtain ⟨e1, e2⟩ := h0 e
  refine ⟨e1, e2, List.eq_nil_of_length_eq_zero ?_⟩
  show (flatB zs).length = 0
  have e1 : n = 0 := e1
  rw [flatB_length, ← hn, e1]
theorem co_two (s0 s1 : So) : coN [s0, s1] 2 = s0.n + s1.n ∧ coL [s0, s1] 2 = s0.L ++ s1.L := by
  refine ⟨?_, ?_⟩
  · show 0 + s0.n + s1.n = _; omega
  · show [] ++ s0.L ++ s1.L = _; rw [List.nil_append]
theorem co_three (s0 s1 s2 : So) : coN [s0, s1, s2] 3 = s0.n + s1.n + s2.n ∧ coL [s0, s1, s2] 3 = s0.L ++ s1.L ++ s2.L := by
  refine ⟨?_, ?_⟩
  · show 0 + s0.n + s1.n + s2.n = _; omega
  · show [] ++ s0.L ++ s1.L ++ s2.L = _; rw [List.nil_append]
/-- Two lists of books put one behind the other. -/
theorem concat2O_any (g0 : Nat) (A B : Option (Nat × Nat)) (n1 c1 n2 c2 : Nat) (xs ys : List Bk) (w : World) (hx : BkO w A xs) (hy : BkO w B ys) (h1 : A = none → n1 = 0 ∧ c1 = 0) (h2 : B = none → n2 = 0 ∧ c2 = 0) (e1 : n1 = xs.length) (e2 : n2 = ys.length) (hn : n1 + n2 ≤ 1000)
    (q0 : w.cell? ⟨g0, 0, none⟩ = some (.slice (am A) n1 c1)) (q1 : w.cell? ⟨g0, 1, none⟩ = some (.slice (am B) n2 c2)) (hg0 : g0 < w.heap.size) :
    Calls Tryd.prog 64 #[.slice (some ⟨g0, 0, none⟩) 2 2] w fun e w' => ∃ v, e = .returned v ∧ w'.ownsRow w.heap.size 65 8 v (xs ++ ys).length (flatB (xs ++ ys)) ∧ Below w.heap.size w w' := by
  obtain ⟨k1, k2⟩ := co_two ⟨A, n1, c1, flatB xs⟩ ⟨B, n2, c2, flatB ys⟩
  have H := concatOB_any [⟨A, n1, c1, flatB xs⟩, ⟨B, n2, c2, flatB ys⟩] g0 w (by
    intro s hs
    simp only [List.mem_cons, List.not_mem_nil, or_false] at hs
    rcases hs with rfl | rfl
    · exact soOk_books hx h1 e1
    · exact soOk_books hy h2 e2) (by
    intro k hk
    match k, hk with
    | 0, _ => exact q0
    | 1, _ => exact q1) hg0 (by show coN _ 2 ≤ _; rw [k1]; show n1 + n2 ≤ _; omega) (by show 2 ≤ 1000; decide)
  refine H.mono fun e w' h => ?_
  obtain ⟨v, r1, r2, r3⟩ := h
  refine ⟨v, r1, ?_, r3⟩
  have e3 : coN [⟨A, n1, c1, flatB xs⟩, ⟨B, n2, c2, flatB ys⟩] 2 = (xs ++ ys).length := by rw [k1, List.length_append, ← e1, ← e2]
  have e4 : coL [⟨A, n1, c1, flatB xs⟩, ⟨B, n2, c2, flatB ys⟩] 2 = flatB (xs ++ ys) := by rw [k2, flatB_appK]
  rw [← e3, ← e4]
  exact r2
/-- Three lists of books put one behind the other. -/
theorem concat3O_any (g0 : Nat) (A B C : Option (Nat × Nat)) (n1 c1 n2 c2 n3 c3 : Nat) (xs ys zs : List Bk) (w : World) (hx : BkO w A xs) (hy : BkO w B ys) (hz : BkO w C zs) (h1 : A = none → n1 = 0 ∧ c1 = 0) (h2 : B = none → n2 = 0 ∧ c2 = 0) (h3 : C = none → n3 = 0 ∧ c3 = 0) (e1 : n1 = xs.length) (e2 : n2 = ys.length) (e3 : n3 = zs.length) (hn : n1 + n2 + n3 ≤ 1000)
    (q0 : w.cell? ⟨g0, 0, none⟩ = some (.slice (am A) n1 c1)) (q1 : w.cell? ⟨g0, 1, none⟩ = some (.slice (am B) n2 c2)) (q2 : w.cell? ⟨g0, 2, none⟩ = some (.slice (am C) n3 c3)) (hg0 : g0 < w.heap.size) :
    Calls Tryd.prog 64 #[.slice (some ⟨g0, 0, none⟩) 3 3] w fun e w' => ∃ v, e = .returned v ∧ w'.ownsRow w.heap.size 65 8 v (xs ++ ys ++ zs).length (flatB (xs ++ ys ++ zs)) ∧ Below w.heap.size w w' := by
  obtain ⟨k1, k2⟩ := co_three ⟨A, n1, c1, flatB xs⟩ ⟨B, n2, c2, flatB ys⟩ ⟨C, n3, c3, flatB zs⟩
  have H := concatOB_any [⟨A, n1, c1, flatB xs⟩, ⟨B, n2, c2, flatB ys⟩, ⟨C, n3, c3, flatB zs⟩] g0 w (by
    intro s hs
    simp only [List.mem_cons, List.not_mem_nil, or_false] at hs
    rcases hs with rfl | rfl | rfl
    · exact soOk_books hx h1 e1
    · exact soOk_books hy h2 e2
    · exact soOk_books hz h3 e3) (by
    intro k hk
    match k, hk with
    | 0, _ => exact q0
    | 1, _ => exact q1
    | 2, _ => exact q2) hg0 (by show coN _ 3 ≤ _; rw [k1]; show n1 + n2 + n3 ≤ _; omega) (by show 3 ≤ 1000; decide)
  refine H.mono fun e w' h => ?_
  obtain ⟨v, r1, r2, r3⟩ := h
  refine ⟨v, r1, ?_, r3⟩
  have e4 : coN [⟨A, n1, c1, flatB xs⟩, ⟨B, n2, c2, flatB ys⟩, ⟨C, n3, c3, flatB zs⟩] 3 = (xs ++ ys ++ zs).length := by rw [k1, List.length_append, List.length_append, ← e1, ← e2, ← e3]
  have e5 : coL [⟨A, n1, c1, flatB xs⟩, ⟨B, n2, c2, flatB ys⟩, ⟨C, n3, c3, flatB zs⟩] 3 = flatB (xs ++ ys ++ zs) := by rw [k2, flatB_appK, flatB_appK]
  rw [← e4, ← e5]
  exact r2
theorem own_to_O {w : World} {B n : Nat} {v : Value} {ys : List Bk} (h : w.ownsRow B 65 8 v n (flatB ys)) (hn : n = ys.length) : ∃ A c, v = .slice (am A) n c ∧ BkO w A ys ∧ (A = none → n = 0 ∧ c = 0) ∧ n ≤ c := by
  rcases h.2 with ⟨rfl, h0⟩ | ⟨g, cap, cur, rfl, _⟩
  · subst h0
    exact ⟨none, 0, rfl, (fun p hp => by cases hp), fun _ => ⟨rfl, rfl⟩, Nat.le_refl _⟩
  · obtain ⟨h1, h2, h3⟩ := rowK_of_own h hn
    refine ⟨some (g, 0), cap, rfl, fun p hp => ?_, (fun e => by cases e), by rw [hn]; exact h3⟩
    cases hp
    exact ⟨h2.lt, h2.at_⟩
set_option maxHeartbeats 400000 in
theorem withinG_any (n low high : Int) (w : World) :
    Calls Tryd.prog 63 #[.int .i64 n, .int .i64 low, .int .i64 high] w fun e w' => e = .returned (.bool (inB n low high)) ∧ w = w' := by
  by_cases h1 : low ≤ n
  · by_cases h2 : n ≤ high
    · go_enter Tryd.func63, Tryd.ntmps63
      go_wp2
      go_ret
      exact ⟨by simp [inB, h1, h2], rfl⟩
    · go_enter Tryd.func63, Tryd.ntmps63
      go_wp2
      go_ret
      exact ⟨by simp [inB, h1, h2], rfl⟩
  · go_enter Tryd.func63, Tryd.ntmps63
    go_wp2
    go_ret
    exact ⟨by simp [inB]; omega, rfl⟩
set_option maxHeartbeats 8000000 in
theorem withBlock_any (g o cc : Nat) (xs : List Bk) (f c t : Nat) (w : World) (hat : BooksAt w g o xs) (hg : g < w.heap.size) (hcap : xs.length ≤ cc) (hn : xs.length ≤ 60) (h1 : 1 ≤ c) (hf : f + c ≤ xs.length) (ht : t + c ≤ xs.length) :
    Calls Tryd.prog 37 #[.slice (some ⟨g, o, none⟩) xs.length cc, .agg #[.int .i16 (f : Int), .int .i16 (c : Int), .int .i16 (t : Int)]] w fun e w' => ∃ u, e = .returned u ∧ ResB w' w.heap.size u (carL xs f c t) ∧ Below w.heap.size w w' := by
  have G0 := Lib.hid (show Below w.heap.size w (w.alloc (.cells #[.int .i16 (f : Int), .int .i16 (c : Int), .int .i16 (t : Int)] 71)) from (Below.refl _ _).alloc (Nat.le_refl _) _)
  have X0 := Lib.hid (heap_alloc_new w (.cells #[.int .i16 (f : Int), .int .i16 (c : Int), .int .i16 (t : Int)] 71))
  have A0 := Lib.hid (hat.below G0.out hg)
  have L0 := Lib.hid (Nat.lt_of_lt_of_le hg G0.out.size)
  have EF := Lib.hid (show f + c ≤ xs.length from hf)
  have ET := Lib.hid (show t + c ≤ xs.length from ht)
  have HCAP := Lib.hid hcap
  have f60 : (f : Int) < 60 := by omega
  have c60 : (c : Int) ≤ 60 := by omega
  have t60 : (t : Int) < 60 := by omega
  obtain ⟨e, he⟩ : ∃ e : Nat, e = f + c := ⟨_, rfl⟩
  have w1 : (f : Int) + (c : Int) = (e : Int) := by omega
  have HE := Lib.hid he
  have g1 : ¬ ((f : Int) < 0) := by omega
  have g2 : ¬ ((c : Int) < 1) := by omega
  have g3 : ¬ ((xs.length : Int) < (e : Int)) := by omega
  have v1 : inB (t : Int) 0 ((xs.length : Int) - (c : Int)) = true := by unfold inB; simp; omega
  have LW := Lib.hid (fun W => v1 ▸ withinG_any (t : Int) 0 ((xs.length : Int) - (c : Int)) W)
  have s1 := fun W => run_hiB (some ⟨g, o, none⟩) xs.length cc f (by omega) W
  have s2 := fun W => run_loB g o xs.length cc e (by omega) hcap W
  have s3 := fun W => run_midB g o xs.length cc f e (by omega) (by omega) W
  clear hat hg hf ht he hcap v1
  go_enter Tryd.func37, Tryd.ntmps37
  go_upto_region 1 with (fail)
  generalize World.alloc w _ = W1 at G0 X0 A0 L0 ⊢
  have m0 : W1.cell? ⟨w.heap.size, 0, none⟩ = some (.int .i16 (f : Int)) := cell_of_row W1 _ 0 _ _ _ X0.out
  have m1 : W1.cell? ⟨w.heap.size, 1, none⟩ = some (.int .i16 (c : Int)) := cell_of_row W1 _ 1 _ _ _ X0.out
  have m2 : W1.cell? ⟨w.heap.size, 2, none⟩ = some (.int .i16 (t : Int)) := cell_of_row W1 _ 2 _ _ _ X0.out
  go_wp2
  go_quiet (fail)
  go_wp2_with (go_at_call 63; refine (LW.out _).mono ?_; rintro e w' ⟨rfl, rfl⟩)
  generalize hW : World.drewN _ _ = W2
  have G2 := Lib.hid (show Below w.heap.size w W2 by rw [← hW]; exact below_drewN G0.out _)
  have A2 := Lib.hid (show BooksAt W2 g o xs by rw [← hW]; exact A0.out)
  have L2 := Lib.hid (show g < W2.heap.size by rw [← hW]; exact L0.out)
  clear hW m0 m1 m2
  refine wp_region_still_tail 6 (by kernel_rfl) (by kernel_rfl) ?_
  simp only [List.take_succ_cons, List.take_zero, List.drop_succ_cons, List.drop_zero]
  iterate 6 still_step
  refine wpStill_nil ?_
  have GA := Lib.hid (show Below w.heap.size w (W2.alloc (.cells #[.slice (some ⟨g, o, none⟩) f cc, .slice (some ⟨g, loO o e cc, none⟩) (xs.length - e) (cc - e)] 29)).drew from (G2.out.alloc G2.out.size _).drew)
  have BA := Lib.hid (show Below W2.heap.size W2 (W2.alloc (.cells #[.slice (some ⟨g, o, none⟩) f cc, .slice (some ⟨g, loO o e cc, none⟩) (xs.length - e) (cc - e)] 29)).drew from ((Below.refl _ _).alloc (Nat.le_refl _) _).drew)
  have X3 := Lib.hid (show (W2.alloc (.cells #[.slice (some ⟨g, o, none⟩) f cc, .slice (some ⟨g, loO o e cc, none⟩) (xs.length - e) (cc - e)] 29)).drew.heap[W2.heap.size]? = some (.cells #[.slice (some ⟨g, o, none⟩) f cc, .slice (some ⟨g, loO o e cc, none⟩) (xs.length - e) (cc - e)] 29 (0, 0)) from heap_alloc_new W2 _)
  obtain ⟨nr, hnr⟩ : ∃ nr : Nat, f + (xs.length - e) = nr := ⟨_, rfl⟩
  obtain ⟨rs, hrs⟩ : ∃ rs : List Bk, rs = xs.take f ++ xs.drop e := ⟨_, rfl⟩
  have LRS := Lib.hid (show rs.length = nr by rw [hrs, List.length_append, List.length_take, List.length_drop]; have := EF.out; omega)
  have tn : t ≤ nr := by have := ET.out; have := HE.out; have := EF.out; omega
  have nc : nr + c = xs.length := by have := HE.out; have := EF.out; omega
  have HRS := Lib.hid hrs
  have HNR := Lib.hid hnr
  clear hnr hrs
  go_wp2_with fail
  generalize World.drew _ = W3 at GA BA X3 ⊢
  have A3 := Lib.hid (A2.out.below BA.out L2.out)
  have L3 := Lib.hid (Nat.lt_of_lt_of_le L2.out BA.out.size)
  refine (concat2O_any W2.heap.size (some (g, o)) (some (g, loO o e cc)) f cc (xs.length - e) (cc - e) (xs.take f) (xs.drop e) W3 (fun p hp => by cases hp; exact ⟨L3.out, booksAt_take A3.out f⟩) (fun p hp => by cases hp; exact ⟨L3.out, booksAt_lo A3.out HCAP.out⟩) (fun h => by cases h) (fun h => by cases h) (by rw [List.length_take]; have := EF.out; omega) (by rw [List.length_drop]) (by omega) (cell_of_row W3 _ 0 _ _ _ X3.out) (cell_of_row W3 _ 1 _ _ _ X3.out) (Array.getElem?_eq_some_iff.1 X3.out).1).mono ?_
  rintro e4 w4 ⟨v4, rfl, ho4, h4⟩
  rw [← HRS.out, LRS.out] at ho4
  obtain ⟨A4, n4, rfl, hb4, hn4, hc4⟩ := own_to_O ho4 LRS.out.symm
  have B4 := Lib.hid hb4
  have N4 := Lib.hid hn4
  have G4 := Lib.hid (bnext GA.out h4)
  have AA4 := Lib.hid (A3.out.below h4 L3.out)
  have L4 := Lib.hid (Nat.lt_of_lt_of_le L3.out h4.size)
  clear hb4 hn4 ho4 h4 X3 GA BA A3 L3 A2 L2 G2 A0 L0
  have s4 := fun W => run_hiO A4 nr n4 t (by omega) W
  have s5 := fun W => run_lo_O A4 nr n4 t tn hc4 W
  go_wp2
  refine wp_region_still_tail 10 (by kernel_rfl) (by kernel_rfl) ?_
  simp only [List.take_succ_cons, List.take_zero, List.drop_succ_cons, List.drop_zero]
  iterate 10 still_step
  refine wpStill_nil ?_
  have GA := Lib.hid (show Below w.heap.size w (w4.alloc (.cells #[.slice (am A4) t n4, .slice (some ⟨g, loO o f cc, none⟩) (e - f) (cc - f), .slice (am (loA A4 t n4)) (nr - t) (n4 - t)] 29)).drew from (G4.out.alloc G4.out.size _).drew)
  have BA := Lib.hid (show Below w4.heap.size w4 (w4.alloc (.cells #[.slice (am A4) t n4, .slice (some ⟨g, loO o f cc, none⟩) (e - f) (cc - f), .slice (am (loA A4 t n4)) (nr - t) (n4 - t)] 29)).drew from ((Below.refl _ _).alloc (Nat.le_refl _) _).drew)
  have X5 := Lib.hid (show (w4.alloc (.cells #[.slice (am A4) t n4, .slice (some ⟨g, loO o f cc, none⟩) (e - f) (cc - f), .slice (am (loA A4 t n4)) (nr - t) (n4 - t)] 29)).drew.heap[w4.heap.size]? = some (.cells #[.slice (am A4) t n4, .slice (some ⟨g, loO o f cc, none⟩) (e - f) (cc - f), .slice (am (loA A4 t n4)) (nr - t) (n4 - t)] 29 (0, 0)) from heap_alloc_new w4 _)
  go_wp2_with fail
  generalize World.drew _ = W5 at GA BA X5 ⊢
  have A5 := Lib.hid (AA4.out.below BA.out L4.out)
  have L5 := Lib.hid (Nat.lt_of_lt_of_le L4.out BA.out.size)
  have B5 := Lib.hid (B4.out.below BA.out)
  refine (concat3O_any w4.heap.size A4 (some (g, loO o f cc)) (loA A4 t n4) t n4 (e - f) (cc - f) (nr - t) (n4 - t) (rs.take t) ((xs.drop f).take c) (rs.drop t) W5 (B5.out.take t) (fun p hp => by cases hp; exact ⟨L5.out, booksAt_take (booksAt_lo A5.out HCAP.out) c⟩) (B5.out.lo t n4 (by rw [LRS.out]; exact hc4)) (fun h => by have := N4.out h; omega) (fun h => by cases h) (fun h => by have := N4.out (loA_none h); omega) (by rw [List.length_take, LRS.out]; omega) (by rw [List.length_take, List.length_drop]; have := HE.out; have := EF.out; omega) (by rw [List.length_drop, LRS.out]) (by omega) (cell_of_row W5 _ 0 _ _ _ X5.out) (cell_of_row W5 _ 1 _ _ _ X5.out) (cell_of_row W5 _ 2 _ _ _ X5.out) (Array.getElem?_eq_some_iff.1 X5.out).1).mono ?_
  rintro e6 w6 ⟨v6, rfl, ho6, h6⟩
  have CE := Lib.hid (show carL xs f c t = rs.take t ++ (xs.drop f).take c ++ rs.drop t by unfold carL; rw [HRS.out, HE.out])
  rw [← CE.out] at ho6
  have O6 := Lib.hid ((ResB.of ho6 rfl).mono GA.out.size)
  have G6 := Lib.hid (bnext GA.out h6)
  clear ho6 h6 X5
  go_wp2
  go_ret
  exact ⟨_, rfl, O6.out, G6.out⟩
end

end Go.Proofs.YtkclobdealnkhaaDoor
