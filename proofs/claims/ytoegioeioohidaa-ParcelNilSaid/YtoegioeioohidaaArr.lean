/-
  Own words for arrays of integers: in a block of their own, by value, compared. No program. No conditions beyond what each theorem names.
-/
import Derived.Test.YtoegioeioohidaaMem
import Derived.Deep.MidRow
import Derived.ChangeKeysEq
import Derived.OpenShut
namespace Go.Proofs.Ytoegioeioohidaa.Kit
open Go.ChangeShapes Go.WideShapes Go.ChangeAt Go.RowKit

/-- The array's value. -/
def arrV (k : IntKind) (xs : List Int) : Value := .agg (xs.map (Value.int k)).toArray

/-- Block g is just the array xs, of elements of type t. -/
def Arr (w : World) (g : Nat) (t : TypeId) (k : IntKind) (xs : List Int) : Prop := Block w g t (xs.map (Value.int k)).toArray

section
variable {w w' : World} {B g : Nat} {t e : TypeId} {k : IntKind} {xs ys : List Int}

theorem Arr.new (w : World) (t : TypeId) (k : IntKind) (xs : List Int) : Arr (w.alloc (.cells (xs.map (Value.int k)).toArray t)) w.heap.size t k xs := Block.new w t _
theorem Arr.lt (h : Arr w g t k xs) : g < w.heap.size := Block.lt h
theorem Arr.cell (h : Arr w g t k xs) {i : Nat} (hi : i < xs.length) : w.cell? ⟨g, i, none⟩ = some (.int k (xs[i]?.getD 0)) := by
  rw [Block.cell h i]
  simp [List.getElem?_eq_getElem hi]
theorem Arr.frozen (h : Arr w g t k xs) (i : Nat) : w.frozen? ⟨g, i, none⟩ = false := Block.frozen h i
theorem Arr.below (h : Arr w g t k xs) (hb : Below B w w') (hg : g < B) : Arr w' g t k xs := Block.below h hb hg
theorem Arr.grown {row : Option Nat} (h : Arr w g t k xs) (hb : w.grownBy w' row) (hg : row ≠ some g) : Arr w' g t k xs := Block.grown h hb hg
theorem Arr.alloc (h : Arr w g t k xs) (o : Obj) : Arr (w.alloc o) g t k xs := Block.alloc h o
theorem Arr.drewN (h : Arr w g t k xs) (n : Nat) : Arr (w.drewN n) g t k xs := h
theorem Arr.set_ (h : Arr w g t k xs) (i : Nat) (z : Int) : Arr (w.setCell ⟨g, i, none⟩ (.int k z)) g t k (xs.set i z) := by
  have := Block.set_ h i (.int k z)
  unfold Arr
  rwa [List.setIfInBounds_toArray, ← List.map_set] at this
theorem Arr.far (h : Arr w g t k xs) {p : Addr} (hp : g ≠ p.block) (u : Value) : Arr (w.setCell p u) g t k xs := Block.far h hp u

/-- The array as a slice, from a on, n cells of it. -/
theorem Arr.holds (h : Arr w g t k xs) (a n : Nat) : Holds w w.heap.size k (some ⟨g, a, none⟩) ((xs.drop a).take n) := by
  intro hx
  refine ⟨g, a, rfl, h.lt, fun j hj => ?_⟩
  simp only [List.length_take, List.length_drop] at hj
  rw [h.cell (i := a + j) (by omega)]
  simp [List.getD, show j < n by omega]

theorem Arr.holds_all (h : Arr w g t k xs) : Holds w w.heap.size k (some ⟨g, 0, none⟩) xs := by
  have := h.holds 0 xs.length
  rwa [List.drop_zero, List.take_of_length_le (Nat.le_refl _)] at this

theorem Arr.range (h : Arr w g t k xs) : w.rangeAt g 0 (xs.map (Value.int k)) := by
  intro j v hj
  obtain ⟨hl, rfl⟩ := get_ints hj
  rw [Nat.zero_add, h.cell hl]
  simp [List.getD]

theorem Arr.there (h : Arr w g t k xs) {n : Nat} (hn : n ≤ xs.length) : w.there g 0 n := fun j hj => by
  rw [Nat.zero_add, h.cell (i := j) (by omega)]
  exact ⟨rfl, h.frozen j⟩

theorem setCells_grown (g : Nat) : ∀ (vs : List Value) (o : Nat) (w : World), w.grownBy (w.setCells g o vs) (some g)
  | [], o, w => World.grownBy.refl w _
  | v :: r, o, w => by
    have h1 : w.grownBy (w.setCell ⟨g, o, none⟩ v) (some g) := ⟨rfl, rfl, rfl, by simp, fun k _ hk => heap_setCell_other w ⟨g, o, none⟩ k v (fun e => hk (by rw [e]))⟩
    have h2 := setCells_grown g r (o + 1) (w.setCell ⟨g, o, none⟩ v)
    exact ⟨h2.os.trans h1.os, h2.tape.trans h1.tape, h2.output.trans h1.output, Nat.le_trans h1.size h2.size, fun j hj hne => (h2.block j (Nat.lt_of_lt_of_le hj h1.size) hne).trans (h1.block j hj hne)⟩

theorem setCells_block : ∀ (vs : List Value) (o : Nat) (w : World) (cs : Array Value), Block w g t cs → o + vs.length ≤ cs.size →
    Block (w.setCells g o vs) g t (cs.toList.take o ++ (vs ++ cs.toList.drop (o + vs.length))).toArray
  | [], o, w, cs, h, _ => by
    have e : (cs.toList.take o ++ ([] ++ cs.toList.drop (o + 0))).toArray = cs := by simp
    show Block w g t (cs.toList.take o ++ ([] ++ cs.toList.drop (o + 0))).toArray
    rw [e]; exact h
  | v :: r, o, w, cs, h, hl => by
    simp only [List.length_cons] at hl
    have h1 := setCells_block r (o + 1) (w.setCell ⟨g, o, none⟩ v) _ (h.set_ o v) (by simp; omega)
    have e : ((cs.setIfInBounds o v).toList.take (o + 1) ++ (r ++ (cs.setIfInBounds o v).toList.drop (o + 1 + r.length))) = cs.toList.take o ++ (v :: r ++ cs.toList.drop (o + (v :: r).length)) := by
      rw [Array.toList_setIfInBounds, List.take_add_one]
      have hd : (cs.toList.set o v).drop (o + 1 + r.length) = cs.toList.drop (o + (v :: r).length) := by
        rw [List.drop_set, if_pos (by omega), List.length_cons]; congr 1; omega
      rw [hd]
      have ht : (cs.toList.set o v).take o = cs.toList.take o := by
        apply List.ext_getElem?
        intro j
        rw [List.getElem?_take, List.getElem?_take]
        split
        · rw [List.getElem?_set_ne (by omega)]
        · rfl
      rw [ht]
      simp [List.getElem?_set, show o < cs.size by omega]
    rw [e] at h1
    exact h1
end

section
variable {P : Program} {w : World}

/-- A whole array is loaded. -/
theorem wpList_load_arr {ops : Array Oper} {rest : List Oper} {o : Oper} {a : Act} {Q : Exit → Act → World → Prop} (hgd : o.guard = none) (ty : TypeId) (x : Operand) (ho : o.op = .load ty x)
    {g : Nat} {t : TypeId} {k : IntKind} {xs : List Int} (h : Arr w g t k xs) (hx : a.eval x = .pointer (some ⟨g, 0, none⟩)) {d : TypeDesc} (hu : P.underlying ty = some d) (hd : d.isRow = true) (hi : (P.info? ty).map (·.size) = some xs.length)
    (hK : wpList P ops Q rest (a.put o.dst (arrV k xs)) w) : wpList P ops Q (o :: rest) a w :=
  wpList_load_mid hgd ty x ho g 0 hx (xs.map (Value.int k)) d h.range hu hd (by simpa using hi) hK

/-- A whole array is stored over another. -/
theorem wpList_store_arr {ops : Array Oper} {rest : List Oper} {o : Oper} {a : Act} {Q : Exit → Act → World → Prop} (hgd : o.guard = none) (ty : TypeId) (x y : Operand) (ho : o.op = .store ty x y)
    {g : Nat} {t : TypeId} {k : IntKind} {xs ys : List Int} (h : Arr w g t k xs) (hx : a.eval x = .pointer (some ⟨g, 0, none⟩)) (hy : a.eval y = arrV k ys) (hl : ys.length = xs.length) (hi : (P.info? ty).map (·.size) = some ys.length)
    (hK : ∀ w', Arr w' g t k ys → w.grownBy w' (some g) → wpList P ops Q rest (a.put o.dst undef) w') : wpList P ops Q (o :: rest) a w := by
  refine wpList_store_mid hgd ty x y ho g 0 (ys.map (Value.int k)).toArray hx hy (by simpa using h.there (by omega)) (by simpa using hi) (all_oneCell_toArray (ints_one k ys)) ?_
  refine hK _ ?_ (setCells_grown g _ 0 w)
  have := setCells_block (ys.map (Value.int k)) 0 w _ h (by simp; omega)
  unfold Arr
  have e : ((xs.map (Value.int k)).toArray.toList.take 0 ++ (ys.map (Value.int k) ++ (xs.map (Value.int k)).toArray.toList.drop (0 + (ys.map (Value.int k)).length))).toArray = (ys.map (Value.int k)).toArray := by
    simp [hl]
  rw [e] at this
  simpa using this

theorem run_eqItems_ints (d : Nat) {e : TypeId} {k k' : IntKind} (he : P.plainKey e = true) (hu : P.underlying e = some (.int k')) (hc : P.cellsOf e = 1) (xs ys : List Int) :
    ∀ is : List Nat, (∀ i ∈ is, i < xs.length ∧ i < ys.length) → (Op.eqItems (d + 1) e (P.cellsOf e) (xs.map (Value.int k)).toArray (ys.map (Value.int k)).toArray is).run P w = .ok (decide (∀ i ∈ is, xs[i]?.getD 0 = ys[i]?.getD 0)) w
  | [], _ => by simp [Op.eqItems]
  | i :: is, h => by
    obtain ⟨h1, h2⟩ := h i (by simp)
    have ih := run_eqItems_ints (k := k) d he hu hc xs ys is (fun j hj => h j (by simp [hj]))
    have p1 := run_part_plain (P := P) w he (xs := (xs.map (Value.int k)).toArray) (off := i * P.cellsOf e) (v := .int k (xs[i]?.getD 0)) (by rw [hc]; simp [h1])
    have p2 := run_part_plain (P := P) w he (xs := (ys.map (Value.int k)).toArray) (off := i * P.cellsOf e) (v := .int k (ys[i]?.getD 0)) (by rw [hc]; simp [h2])
    have p3 : (Op.equalIn (d + 1) e (.int k (xs[i]?.getD 0)) (.int k (ys[i]?.getD 0))).run P w = .ok (xs[i]?.getD 0 == ys[i]?.getD 0) w := by
      simp [Op.equalIn, run_underlying hu]
    simp only [Op.eqItems, Sem.run_bind, p1, p2, p3, Result.andThen_ok]
    by_cases hq : xs[i]?.getD 0 = ys[i]?.getD 0
    · simp only [hq, beq_self_eq_true, Bool.not_true, Bool.false_eq_true, if_false]
      rw [ih]
      congr 1
      simp [hq]
    · have hq' : (xs[i]?.getD 0 == ys[i]?.getD 0) = false := by simpa using hq
      simp only [hq', Bool.not_false, if_true, Sem.run_pure]
      congr 1
      simp [hq]

/-- == of two arrays of integers. -/
theorem run_eql_arr {t e : TypeId} {k k' : IntKind} {i : TypeInfo} (xs ys : List Int) (ht : P.underlying t = some (.array xs.length e)) (hi : P.info? e = some i) (he : P.plainKey e = true) (hu : P.underlying e = some (.int k')) (hc : P.cellsOf e = 1) (hl : xs.length = ys.length) :
    (binOp .eql t (arrV k xs) (arrV k ys)).run P w = .ok (.bool (decide (xs = ys))) w := by
  have h1 := run_equalIn_array (P := P) (w := w) 9999 (xs.map (Value.int k)).toArray (ys.map (Value.int k)).toArray ht hi
  have h2 := run_eqItems_ints (P := P) (w := w) 9998 (k := k) he hu hc xs ys (List.range xs.length) (fun j hj => by have := List.mem_range.1 hj; omega)
  have e1 : decide (∀ j ∈ List.range xs.length, xs[j]?.getD 0 = ys[j]?.getD 0) = decide (xs = ys) := by
    rw [decide_eq_decide]
    constructor
    · intro h
      apply List.ext_getElem hl
      intro j hj hj'
      have := h j (List.mem_range.2 hj)
      simpa [hj, hj'] using this
    · rintro rfl j _; rfl
  rw [e1] at h2
  rw [h2] at h1
  unfold arrV
  simp only [binOp]
  simp [Op.equal, Op.maxDepth, h1]
end

section
variable {H : Type} {enc : TypeId × Value → H} {P : Program} {w : World} {base b0 : Nat} {sp : Nat → Bool} {held : Bool}

/-- An array of integers that came in by value. -/
theorem open_array {r : Reach} {t e : TypeId} {n : Nat} {k : IntKind} (ht : P.underlying t = some (.array n e)) (he : P.underlying e = some (.int k)) (hc : P.cellsOf e = 1) (hct : P.cellsOf t = n)
    {v : Value} {d : DataW H} {ps : List MemPlace} (hv : Value.okWide P w r b0 t v) (h : DataW.Trod enc P w base sp held t v d ps) :
    ∃ xs : List Int, xs.length = n ∧ v = arrV k xs ∧ ∀ z ∈ xs, (Lit.int k z).wf = true := by
  simp only [Value.okWide, ht] at hv
  obtain ⟨cs, rfl, hsz, _⟩ := hv
  obtain ⟨fuel, hf⟩ := h
  obtain ⟨ys, m, _, _, hl, hyl, hg⟩ := DataW.trod_array ht hf
  simp only [Value.cells] at hl hg
  have each : ∀ i, i < n → ∃ q, cs.toList[i]? = some (.int k q) ∧ (Lit.int k q).wf = true := by
    intro i hi
    have h1 := hg i hi
    rw [hc, Nat.mul_one] at h1
    have hx : ys[i]? = some (ys[i]'(by omega)) := List.getElem?_eq_getElem (by omega)
    rw [hx] at h1
    obtain ⟨q, hq, _, hw⟩ := DataW.trod_int he h1
    refine ⟨q, ?_, hw⟩
    rw [List.drop_eq_getElem_cons (by rw [hl, hct]; exact hi)] at hq
    simp only [List.take_succ_cons, List.take_zero, List.cons.injEq, and_true] at hq
    rw [List.getElem?_eq_getElem (by rw [hl, hct]; exact hi), hq]
  have hlen : cs.toList.length = n := by rw [hl, hct]
  refine ⟨cs.toList.map (fun v => match v with | .int _ q => q | _ => 0), by rw [List.length_map, hlen], ?_, fun z hz => ?_⟩
  · unfold arrV
    congr 1
    apply Array.toList_inj.1
    apply List.ext_getElem?
    intro i
    by_cases hi : i < n
    · obtain ⟨q, hq, _⟩ := each i hi
      simp only [List.map_map, List.getElem?_map, hq]
      rfl
    · rw [List.getElem?_eq_none (by omega), List.getElem?_eq_none (by simp; have := hlen; simp at this; omega)]
  · obtain ⟨v, hv, rfl⟩ := List.mem_map.1 hz
    obtain ⟨i, hi, rfl⟩ := List.mem_iff_getElem.1 hv
    obtain ⟨q, hq, hw⟩ := each i (by omega)
    rw [List.getElem?_eq_getElem hi] at hq
    injection hq with hq
    rw [hq]
    exact hw
end
end Go.Proofs.Ytoegioeioohidaa.Kit
