/-
  Own words for struct parameters of integers, arrays of integers and slices of integers, in any order, and slices of such. No program. No conditions beyond what each theorem names.
-/
import Derived.Test.YtngeemfcmoahoaaRec3
import Derived.OpenShut
namespace Go.Proofs.Ytngeemfcmoahoaa.Kit
open Go.ChangeShapes Go.WideShapes Go.ChangeAt Go.RowKit

/-- What a field is: an integer, an array of so many, a slice of them. -/
inductive Fld where
  | i (k : IntKind)
  | a (k : IntKind) (n : Nat)
  | s (k : IntKind)
/-- What stands in it. -/
inductive FVal where
  | i (z : Int)
  | a (zs : List Int)
  | s (A : Option Addr) (cap : Nat) (zs : List Int)

def Fld.size : Fld → Nat
  | .i _ => 1
  | .a _ n => n
  | .s _ => 1
def fvCells : Fld → FVal → List Value
  | .i k, .i z => [.int k z]
  | .a k _, .a zs => zs.map (Value.int k)
  | .s _, .s A c zs => [.slice A zs.length c]
  | _, _ => []
def fvOk (w : World) (B : Nat) : Fld → FVal → Prop
  | .i k, .i z => (Lit.int k z).wf = true
  | .a k n, .a zs => zs.length = n ∧ ∀ z ∈ zs, (Lit.int k z).wf = true
  | .s k, .s A c zs => zs.length ≤ c ∧ c ≤ maxLen ∧ (∀ z ∈ zs, (Lit.int k z).wf = true) ∧ Holds w B k A zs
  | _, _ => False
def allCells : List Fld → List FVal → List Value
  | d :: ds, v :: vs => fvCells d v ++ allCells ds vs
  | _, _ => []
def allOk (w : World) (B : Nat) : List Fld → List FVal → Prop
  | [], [] => True
  | d :: ds, v :: vs => fvOk w B d v ∧ allOk w B ds vs
  | _, _ => False
def sizes : List Fld → Nat
  | [] => 0
  | d :: ds => d.size + sizes ds

def isK (P : Program) (t : TypeId) (k : IntKind) : Bool := P.cellsOf t == 1 && (match P.underlying t with | some (.int k') => decide (k' = k) | _ => false)
def fitB (P : Program) (f : Field) (o : Nat) (d : Fld) : Bool := f.offset == o && P.cellsOf f.type == d.size && (match d with
  | .i k => isK P f.type k
  | .a k n => (match P.underlying f.type with | some (.array n' e) => n' == n && isK P e k | _ => false)
  | .s k => (match P.underlying f.type with | some (.slice e) => isK P e k | _ => false))
def shapeB (P : Program) : List Field → Nat → List Fld → Bool
  | [], _, [] => true
  | f :: fs, o, d :: ds => fitB P f o d && shapeB P fs (o + d.size) ds
  | _, _, _ => false

theorem isK_of {P : Program} {t : TypeId} {k : IntKind} (h : isK P t k = true) : P.cellsOf t = 1 ∧ P.underlying t = some (.int k) := by
  unfold isK at h
  simp only [Bool.and_eq_true, beq_iff_eq] at h
  refine ⟨h.1, ?_⟩
  have h3 := h.2
  split at h3
  · rename_i k' hu
    rw [hu, of_decide_eq_true h3]
  · cases h3

section
variable {H : Type} {enc : TypeId × Value → H} {P : Program} {w : World} {b0 : Nat}

theorem ints_of {k : IntKind} {n : Nat} {t e : TypeId} {cs : List Value} {x : DataW H × List MemPlace} (ht : P.underlying t = some (.slice e)) (he : P.underlying e = some (.int k)) (hc : P.cellsOf e = 1)
    (h : DataW.trod enc P w 0 (fun _ => true) true n t cs = some x) (hlt : ∀ p ∈ x.2, p.block < w.heap.size) :
    ∃ (A : Option Addr) (cap : Nat) (zs : List Int), cs = [.slice A zs.length cap] ∧ zs.length ≤ cap ∧ cap ≤ maxLen ∧ (∀ z ∈ zs, (Lit.int k z).wf = true) ∧ Holds w w.heap.size k A zs := by
  rcases open_ints ht he hc h with ⟨hcs, hx⟩ | ⟨a, len, cap, zs, hcs, _, hl, hm, hz, hx, hcell, hwz⟩
  · exact ⟨none, 0, [], hcs, Nat.le_refl _, Nat.zero_le _, fun _ h => by simp at h, Holds.nil⟩
  · simp only [if_true] at hz
    have hlen : (zs.take len).length = len := by simp [hz, Nat.min_eq_left hl]
    refine ⟨some a, cap, zs.take len, by rw [hlen]; exact hcs, by rw [hlen]; exact hl, hm, fun n hn => hwz n (List.mem_of_mem_take hn), fun hp => ?_⟩
    rw [hlen] at hp
    obtain ⟨b, off, spot⟩ := a
    have hspot : spot = none := by simpa [Addr.add] using World.cell?_spot (hcell 0 (by omega))
    subst hspot
    refine ⟨b, off, rfl, hlt (.cell b (off + 0)) (by rw [hx]; exact MemPlace.mem_row.2 ⟨0, by omega, by simp⟩), fun j hj => ?_⟩
    rw [hlen] at hj
    rw [← add_plain, hcell j (by omega)]
    simp [List.getD, List.getElem?_take, show j < len by omega]

theorem array_of {k : IntKind} {n m : Nat} {t e : TypeId} {cs : List Value} {x : DataW H × List MemPlace} (ht : P.underlying t = some (.array n e)) (he : P.underlying e = some (.int k)) (hc : P.cellsOf e = 1) (hct : P.cellsOf t = n)
    (h : DataW.trod enc P w 0 (fun _ => true) true m t cs = some x) : ∃ zs : List Int, zs.length = n ∧ cs = zs.map (Value.int k) ∧ ∀ z ∈ zs, (Lit.int k z).wf = true := by
  obtain ⟨ys, m', _, _, hl, hyl, hg⟩ := DataW.trod_array ht h
  have each : ∀ i, i < n → ∃ q, cs[i]? = some (.int k q) ∧ (Lit.int k q).wf = true := by
    intro i hi
    have h1 := hg i hi
    rw [hc, Nat.mul_one] at h1
    have hx : ys[i]? = some (ys[i]'(by omega)) := List.getElem?_eq_getElem (by omega)
    rw [hx] at h1
    obtain ⟨q, hq, _, hw⟩ := DataW.trod_int he h1
    exact ⟨q, get_of_one hq, hw⟩
  have hlen : cs.length = n := by rw [hl, hct]
  refine ⟨cs.map (fun v => match v with | .int _ q => q | _ => 0), by rw [List.length_map, hlen], ?_, fun z hz => ?_⟩
  · apply List.ext_getElem?
    intro i
    by_cases hi : i < n
    · obtain ⟨q, hq, _⟩ := each i hi
      simp only [List.map_map, List.getElem?_map, hq]
      rfl
    · rw [List.getElem?_eq_none (by omega), List.getElem?_eq_none (by simp; omega)]
  · obtain ⟨v, hv, rfl⟩ := List.mem_map.1 hz
    obtain ⟨i, hi, rfl⟩ := List.mem_iff_getElem.1 hv
    obtain ⟨q, hq, hw⟩ := each i (by omega)
    rw [List.getElem?_eq_getElem hi] at hq
    injection hq with hq
    rw [hq]
    exact hw

theorem field_of {f : Field} {o m : Nat} {d : Fld} {cs : List Value} {x : DataW H × List MemPlace} (hf : fitB P f o d = true) (h : DataW.trod enc P w 0 (fun _ => true) true m f.type cs = some x) (hlt : ∀ p ∈ x.2, p.block < w.heap.size) :
    ∃ v, fvOk w w.heap.size d v ∧ cs = fvCells d v := by
  unfold fitB at hf
  simp only [Bool.and_eq_true, beq_iff_eq] at hf
  obtain ⟨⟨ho, hsz⟩, hk⟩ := hf
  cases d with
  | i k =>
    obtain ⟨_, u⟩ := isK_of hk
    obtain ⟨z, hz, _, wz⟩ := DataW.trod_int u h
    exact ⟨.i z, wz, hz⟩
  | a k n =>
    simp only at hk
    split at hk
    · rename_i n' e hu
      simp only [Bool.and_eq_true, beq_iff_eq] at hk
      obtain ⟨rfl, hk⟩ := hk
      obtain ⟨c1, u⟩ := isK_of hk
      obtain ⟨zs, h1, h2, h3⟩ := array_of hu u c1 hsz h
      exact ⟨.a zs, ⟨h1, h3⟩, h2⟩
    · cases hk
  | s k =>
    simp only at hk
    split at hk
    · rename_i e hu
      obtain ⟨c1, u⟩ := isK_of hk
      obtain ⟨A, cap, zs, h1, h2, h3, h4, h5⟩ := ints_of hu u c1 h hlt
      exact ⟨.s A cap zs, ⟨h2, h3, h4, h5⟩, h1⟩
    · cases hk

theorem fields_of {m : Nat} {cs : List Value} : ∀ (ds : List Fld) (fs : List Field) (o : Nat) (xs : List (DataW H × List MemPlace)), shapeB P fs o ds = true →
    (∀ (i : Nat) (f : Field), fs[i]? = some f → DataW.trod enc P w 0 (fun _ => true) true m f.type ((cs.drop f.offset).take (P.cellsOf f.type)) = xs[i]?) → xs.length = fs.length → (∀ x ∈ xs, ∀ p ∈ x.2, p.block < w.heap.size) → o + sizes ds = cs.length →
    ∃ vs : List FVal, allOk w w.heap.size ds vs ∧ cs.drop o = allCells ds vs
  | [], [], o, xs, _, _, _, _, hl => ⟨[], trivial, by unfold sizes at hl; unfold allCells; exact List.drop_eq_nil_of_le (by omega)⟩
  | [], _ :: _, _, _, hs, _, _, _, _ => by simp [shapeB] at hs
  | _ :: _, [], _, _, hs, _, _, _, _ => by simp [shapeB] at hs
  | d :: ds, f :: fs, o, [], _, _, hx, _, _ => by simp at hx
  | d :: ds, f :: fs, o, x :: xs, hs, hg, hx, hp, hl => by
    unfold shapeB at hs
    simp only [Bool.and_eq_true] at hs
    obtain ⟨h1, h2⟩ := hs
    have g0 := hg 0 f rfl
    have ho : f.offset = o ∧ P.cellsOf f.type = d.size := by
      unfold fitB at h1
      simp only [Bool.and_eq_true, beq_iff_eq] at h1
      exact h1.1
    rw [ho.1, ho.2] at g0
    obtain ⟨v, v1, v2⟩ := field_of h1 g0 (hp x (by simp))
    unfold sizes at hl
    obtain ⟨vs, w1, w2⟩ := fields_of ds fs (o + d.size) xs h2 (fun i f' hi => hg (i + 1) f' hi) (by simpa using hx) (fun y hy => hp y (by simp [hy])) (by omega)
    refine ⟨v :: vs, ⟨v1, w1⟩, ?_⟩
    unfold allCells
    rw [← v2, ← w2, ← List.drop_drop, List.take_append_drop]

theorem read_shape {t : TypeId} {fs : Array Field} {ds : List Fld} (ht : P.underlying t = some (.struct fs)) (hs : shapeB P fs.toList 0 ds = true) (hc : P.cellsOf t = sizes ds)
    {n : Nat} {cs : List Value} {y : DataW H × List MemPlace} (h : DataW.trod enc P w 0 (fun _ => true) true n t cs = some y) (hlt : ∀ x ∈ y.2, x.block < w.heap.size) :
    ∃ vs : List FVal, allOk w w.heap.size ds vs ∧ cs = allCells ds vs := by
  obtain ⟨xs, m, _, hx, hl, hxl, hg⟩ := DataW.trod_struct ht h
  have hps : y.2 = xs.flatMap (·.2) := congrArg Prod.snd hx
  obtain ⟨vs, h1, h2⟩ := fields_of (enc := enc) (w := w) (m := m) (cs := cs) ds fs.toList 0 xs hs (fun i f hi => hg i f (by simpa using hi)) (by simpa using hxl) (fun x hx' p hp => hlt p (by rw [hps]; exact List.mem_flatMap.2 ⟨x, hx', hp⟩)) (by omega)
  exact ⟨vs, h1, by simpa using h2⟩

/-- A struct of such a shape that came in. -/
theorem open_shape {t : TypeId} {fs : Array Field} (ds : List Fld) (ht : P.underlying t = some (.struct fs)) (hs : shapeB P fs.toList 0 ds = true) (hc : P.cellsOf t = sizes ds)
    {v : Value} {d : DataW H} {ps : List MemPlace} (hv : Value.okWide P w .any b0 t v) (h : DataW.Trod enc P w 0 (fun _ => true) true t v d ps) (hlt : ∀ x ∈ ps, x.block < w.heap.size) :
    ∃ vs : List FVal, v = .agg (allCells ds vs).toArray ∧ allOk w w.heap.size ds vs := by
  obtain ⟨cs, rfl, _⟩ := okWide_struct ht hv
  obtain ⟨fuel, hfu⟩ := h
  obtain ⟨vs, h1, h2⟩ := read_shape ht hs hc hfu hlt
  simp only [Value.cells] at h2
  exact ⟨vs, by rw [← h2], h1⟩

/-- A slice of such ones that came in. -/
theorem open_shapes {t e : TypeId} {fs : Array Field} (ds : List Fld) (ht : P.underlying t = some (.slice e)) (he : P.underlying e = some (.struct fs)) (hs : shapeB P fs.toList 0 ds = true) (hc : P.cellsOf e = sizes ds) (h0 : 0 < sizes ds)
    {v : Value} {d : DataW H} {ps : List MemPlace} (hval : Value.okWide P w .any b0 t v) (h : DataW.Trod enc P w 0 (fun _ => true) true t v d ps) (hlt : ∀ x ∈ ps, x.block < w.heap.size) :
    ∃ (A : Option Addr) (cap : Nat) (rs : List (List FVal)), v = .slice A rs.length cap ∧ rs.length ≤ cap ∧ cap ≤ maxLen ∧ HoldsE (fun vs cs => allOk w w.heap.size ds vs ∧ cs = allCells ds vs) (sizes ds) w w.heap.size A rs :=
  open_slice_of (fun vs cs => allOk w w.heap.size ds vs ∧ cs = allCells ds vs) (sizes ds) ht hc h0 (fun _ _ _ h hp => read_shape he hs hc h hp) hval h hlt
end
end Go.Proofs.Ytngeemfcmoahoaa.Kit
