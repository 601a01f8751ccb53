/-
  Layer 1, sha: the document's block into a state: contract. Conditions: as each theorem names.
-/
import Derived.Test.YtihdgeggfdjfgaaDoorShD
import Derived.Deep.RegionHeld3
namespace Go.Proofs.YtihdgeggfdjfgaaDoor.Sha
open Go.ChangeShapes Go.WideShapes Go.ChangeAt Go.RowKit Go.Proofs.YtihdgeggfdjfgaaDoor.Kit

/-- wpList_store_arr, said of a store alone: no other operation is tried. -/
theorem wpList_store_arrS {P : Program} {w : World} {ops : Array Oper} {rest : List Oper} {a : Act} {Q : Exit → Act → World → Prop} {ty tt : TypeId} {x y : Operand} {ps : String} {af : Array Edge}
    {g : Nat} {t : TypeId} {k : IntKind} {xs ys : List Int} (h : Arr w g t k xs) (hx : a.eval x = .pointer (some ⟨g, 0, none⟩)) (hy : a.eval y = arrV k ys) (hl : ys.length = xs.length) (hi : (P.info? ty).map (·.size) = some ys.length)
    (hK : ∀ w', Arr w' g t k ys → w.grownBy w' (some g) → wpList P ops Q rest (a.put none undef) w') : wpList P ops Q (⟨none, .store ty x y, tt, ps, af, none⟩ :: rest) a w :=
  wpList_store_arr rfl ty x y rfl h hx hy hl hi hK
theorem wpList_load_arrS {P : Program} {w : World} {ops : Array Oper} {rest : List Oper} {a : Act} {Q : Exit → Act → World → Prop} {ty tt : TypeId} {x : Operand} {dst : Option Tmp} {ps : String} {af : Array Edge}
    {g : Nat} {t : TypeId} {k : IntKind} {xs : List Int} (h : Arr w g t k xs) (hx : a.eval x = .pointer (some ⟨g, 0, none⟩)) {d : TypeDesc} (hu : P.underlying ty = some d) (hd : d.isRow = true) (hi : (P.info? ty).map (·.size) = some xs.length)
    (hK : wpList P ops Q rest (a.put dst (arrV k xs)) w) : wpList P ops Q (⟨dst, .load ty x, tt, ps, af, none⟩ :: rest) a w :=
  wpList_load_arr rfl ty x rfl h hx hu hd hi hK

theorem four64 (w : World) (o1 o2 o3 : Obj) : Arr ((((w.alloc o1).alloc o2).alloc o3).alloc (.cells Z64 74)) (w.heap.size + 1 + 1 + 1) 74 .u32 (List.replicate 64 0) := by
  have h := arr64 (((w.alloc o1).alloc o2).alloc o3)
  rwa [show (((w.alloc o1).alloc o2).alloc o3).heap.size = w.heap.size + 1 + 1 + 1 by simp] at h

/-- What the four blocks of 'one' have. -/
structure OneB (w wr : World) (s ks l : List Int) : Prop where
  st : Arr wr w.heap.size 67 .u32 s
  ks : Arr wr (w.heap.size + 1) 74 .u32 ks
  res : Arr wr (w.heap.size + 1 + 1) 67 .u32 (List.replicate 8 0)
  ws : Arr wr (w.heap.size + 1 + 1 + 1) 74 .u32 l
  below : Below w.heap.size w wr

theorem OneB.draws {w wr : World} {s ks l : List Int} (h : OneB w wr s ks l) (n : Nat) : OneB w (wr.drewN n) s ks l := ⟨h.st, h.ks, h.res, h.ws, below_draws h.below n⟩
theorem OneB.set_ {w wr : World} {s ks l : List Int} (h : OneB w wr s ks l) (i : Nat) (z : Int) : OneB w (wr.setCell ⟨w.heap.size + 1 + 1 + 1, i, none⟩ (.int .u32 z)) s ks (l.set i z) :=
  ⟨h.st.far (by simp <;> omega) _, h.ks.far (by simp <;> omega) _, h.res.far (by simp <;> omega) _, h.ws.set_ i z, h.below.setCell (by simp <;> omega) _⟩

theorem oneB_new {w w2 : World} {s ks l : List Int} {o4 : Obj} (g2 : ((((w.alloc (.cells (s.map (Value.int .u32)).toArray 67)).alloc (.cells (ks.map (Value.int .u32)).toArray 74)).alloc (.cells ((List.replicate 8 (0 : Int)).map (Value.int .u32)).toArray 67)).alloc o4).grownBy w2 (some (w.heap.size + 1 + 1 + 1)))
    (r2 : Arr w2 (w.heap.size + 1 + 1 + 1) 74 .u32 l) : OneB w w2 s ks l := by
  have a1 : Arr (w.alloc (.cells (s.map (Value.int .u32)).toArray 67)) w.heap.size 67 .u32 s := Arr.new w _ _ _
  have z1 : (w.alloc (.cells (s.map (Value.int .u32)).toArray 67)).heap.size = w.heap.size + 1 := by simp
  have b1 := (Below.refl w.heap.size w).alloc (Nat.le_refl _) (.cells (s.map (Value.int .u32)).toArray 67)
  generalize w.alloc (.cells (s.map (Value.int .u32)).toArray 67) = w1 at *
  have a2 : Arr (w1.alloc (.cells (ks.map (Value.int .u32)).toArray 74)) w1.heap.size 74 .u32 ks := Arr.new w1 _ _ _
  rw [z1] at a2
  have z2 : (w1.alloc (.cells (ks.map (Value.int .u32)).toArray 74)).heap.size = w.heap.size + 1 + 1 := by simp [z1]
  have a12 := a1.alloc (.cells (ks.map (Value.int .u32)).toArray 74)
  have b2 := b1.alloc (by omega) (.cells (ks.map (Value.int .u32)).toArray 74)
  generalize w1.alloc (.cells (ks.map (Value.int .u32)).toArray 74) = w1 at *
  have a3 : Arr (w1.alloc (.cells ((List.replicate 8 (0 : Int)).map (Value.int .u32)).toArray 67)) w1.heap.size 67 .u32 (List.replicate 8 0) := Arr.new w1 _ _ _
  rw [z2] at a3
  have z3 : (w1.alloc (.cells ((List.replicate 8 (0 : Int)).map (Value.int .u32)).toArray 67)).heap.size = w.heap.size + 1 + 1 + 1 := by simp [z2]
  have a13 := a12.alloc (.cells ((List.replicate 8 (0 : Int)).map (Value.int .u32)).toArray 67)
  have a23 := a2.alloc (.cells ((List.replicate 8 (0 : Int)).map (Value.int .u32)).toArray 67)
  have b3 := b2.alloc (by omega) (.cells ((List.replicate 8 (0 : Int)).map (Value.int .u32)).toArray 67)
  generalize w1.alloc (.cells ((List.replicate 8 (0 : Int)).map (Value.int .u32)).toArray 67) = w1 at *
  have b4 := b3.alloc (by omega) o4
  exact ⟨(a13.alloc o4).grown g2 (by intro e; injection e with e; omega), (a23.alloc o4).grown g2 (by intro e; injection e with e; omega), (a3.alloc o4).grown g2 (by intro e; injection e with e; omega), r2,
    b4.trans (below_of_grown g2 b4.size fun g hg => by injection hg with hg; omega)⟩

theorem oneB_later {w wr w4 : World} {s ks l : List Int} {o : Obj} (O : OneB w wr s ks l) (g : (wr.alloc o).grownBy w4 (some wr.heap.size)) : OneB w w4 s ks l :=
  ⟨(O.st.alloc o).grown g (by intro e; injection e with e; have := O.st.lt; omega), (O.ks.alloc o).grown g (by intro e; injection e with e; have := O.ks.lt; omega), (O.res.alloc o).grown g (by intro e; injection e with e; have := O.res.lt; omega), (O.ws.alloc o).grown g (by intro e; injection e with e; have := O.ws.lt; omega),
    (O.below.alloc O.below.size o).trans (below_of_grown g (by have := O.below.size; simp; omega) fun b hb => by injection hb with hb; have := O.below.size; omega)⟩

theorem oneB_grown {w wr w4 : World} {s ks l : List Int} {V : Nat} (O : OneB w wr s ks l) (g : wr.grownBy w4 (some V)) (hV : w.heap.size + 1 + 1 + 1 < V) : OneB w w4 s ks l :=
  ⟨O.st.grown g (by intro e; injection e with e; omega), O.ks.grown g (by intro e; injection e with e; omega), O.res.grown g (by intro e; injection e with e; omega), O.ws.grown g (by intro e; injection e with e; omega),
    O.below.trans (below_of_grown g O.below.size fun b hb => by injection hb with hb; omega)⟩

theorem oneB_cell {w wr : World} {s ks l : List Int} {V i : Nat} {u : Value} (O : OneB w wr s ks l) (hV : w.heap.size + 1 + 1 + 1 < V) : OneB w (wr.setCell ⟨V, i, none⟩ u) s ks l :=
  ⟨O.st.far (by simp <;> omega) _, O.ks.far (by simp <;> omega) _, O.res.far (by simp <;> omega) _, O.ws.far (by simp <;> omega) _, O.below.setCell (by simp <;> omega) _⟩
theorem mix_get {L R M : List Int} (h1 : L.length = 8) (h2 : R.length = 8) (hM : M = List.zipWith add32 L R) {j : Nat} (hj : j < 8) : M.getD j 0 = (R.getD j 0 + L.getD j 0) % 4294967296 := by
  subst hM
  rw [List.getD_eq_getElem?_getD, List.getElem?_zipWith, List.getD_eq_getElem?_getD, List.getD_eq_getElem?_getD, List.getElem?_eq_getElem (show j < L.length by omega), List.getElem?_eq_getElem (show j < R.length by omega)]
  simp only [Option.getD_some]
  rw [Int.add_comm]
  rfl
theorem splice_set {M R : List Int} (h1 : M.length = 8) (h2 : R.length = 8) {i : Nat} (hi : i < 8) : (M.take i ++ R.drop i).set i (M.getD i 0) = M.take (i + 1) ++ R.drop (i + 1) := by
  rw [take_snoc (by omega), List.drop_eq_getElem_cons (show i < R.length by omega), List.set_append, if_neg (by simp; omega), List.length_take, show i - min i M.length = 0 by omega, List.set_cons_zero, List.append_assoc]
  rfl
theorem splice_get {M R : List Int} (h1 : M.length = 8) {i : Nat} (hi : i < 8) : (M.take i ++ R.drop i)[i]?.getD 0 = R.getD i 0 := by
  rw [List.getElem?_append_right (by simp; omega), List.length_take, show i - min i M.length = 0 by omega, List.getElem?_drop, Nat.add_zero, List.getD_eq_getElem?_getD]

end Go.Proofs.YtihdgeggfdjfgaaDoor.Sha
