/-
  Own words for structs of integers, by value and in slices that came in. No program. No conditions beyond what each theorem names.
-/
import Derived.Test.YtoegioeioohidaaKit
import Derived.DataReads
import Derived.ChangeArms
namespace Go.Proofs.Ytoegioeioohidaa.Kit
open Go.ChangeShapes Go.WideShapes Go.ChangeAt Go.RowKit

/-- The fields are integers of these kinds, a cell each, in their order. -/
def intFields (P : Program) (fs : Array Field) (ks : List IntKind) : Bool :=
  fs.size == ks.length && (List.range fs.size).all fun i => match fs[i]?, ks[i]? with
    | some f, some k => f.offset == i && P.cellsOf f.type == 1 && (match P.underlying f.type with | some (.int k') => decide (k' = k) | _ => false)
    | _, _ => false

theorem intFields_of {P : Program} {fs : Array Field} {ks : List IntKind} (h : intFields P fs ks = true) : fs.size = ks.length ∧
    ∀ i, i < ks.length → ∃ f k, fs[i]? = some f ∧ ks[i]? = some k ∧ f.offset = i ∧ P.cellsOf f.type = 1 ∧ P.underlying f.type = some (.int k) := by
  unfold intFields at h
  simp only [Bool.and_eq_true, beq_iff_eq, List.all_eq_true, List.mem_range] at h
  refine ⟨h.1, fun i hi => ?_⟩
  have h2 := h.2 i (by omega)
  cases hf : fs[i]? with
  | none => rw [hf] at h2; simp at h2
  | some f =>
    cases hk : ks[i]? with
    | none => rw [hf, hk] at h2; simp at h2
    | some k =>
      rw [hf, hk] at h2
      simp only [Bool.and_eq_true, beq_iff_eq] at h2
      refine ⟨f, k, rfl, rfl, h2.1.1, h2.1.2, ?_⟩
      have h3 := h2.2
      split at h3
      · rename_i k' hu
        rw [hu, of_decide_eq_true h3]
      · cases h3

def numOfV : Value → Int
  | .int _ n => n
  | _ => 0

section
variable {H : Type} {enc : TypeId × Value → H} {P : Program} {w : World} {base b0 : Nat} {sp : Nat → Bool} {held : Bool}

theorem struct_row {e : TypeId} {fs : Array Field} {ks : List IntKind} (he : P.underlying e = some (.struct fs)) (hf : intFields P fs ks = true) (hc : P.cellsOf e = ks.length)
    {n : Nat} {cs : List Value} {y : DataW H × List MemPlace} (h : DataW.trod enc P w base sp held n e cs = some y) :
    ∃ row : List Int, row.length = ks.length ∧ cs = List.zipWith Value.int ks row ∧ ∀ (j : Nat) (k : IntKind), ks[j]? = some k → (Lit.int k (row[j]?.getD 0)).wf = true := by
  obtain ⟨xs, m, _, _, hl, hxl, hg⟩ := DataW.trod_struct he h
  obtain ⟨hsz, hi⟩ := intFields_of hf
  have each : ∀ i (hi' : i < ks.length), ∃ q, cs[i]? = some (.int ks[i] q) ∧ (Lit.int ks[i] q).wf = true := by
    intro i hi'
    obtain ⟨f, k, h1, h2, h3, h4, h5⟩ := hi i hi'
    have hk : ks[i] = k := by rw [List.getElem?_eq_getElem hi'] at h2; exact Option.some.inj h2
    have h6 := hg i f h1
    rw [h3, h4] at h6
    have hx : xs[i]? = some (xs[i]'(by omega)) := List.getElem?_eq_getElem (by omega)
    rw [hx] at h6
    obtain ⟨q, hq, _, hw⟩ := DataW.trod_int h5 h6
    refine ⟨q, ?_, by rw [hk]; exact hw⟩
    rw [hk]
    rw [List.drop_eq_getElem_cons (by omega)] at hq
    simp only [List.take_succ_cons, List.take_zero, List.cons.injEq, and_true] at hq
    rw [List.getElem?_eq_getElem (by omega), hq]
  refine ⟨cs.map numOfV, by simp; omega, ?_, fun j k hk => ?_⟩
  · apply List.ext_getElem?
    intro i
    by_cases hi' : i < ks.length
    · obtain ⟨q, hq, _⟩ := each i hi'
      rw [List.getElem?_zipWith, List.getElem?_map, hq, List.getElem?_eq_getElem hi']
      rfl
    · rw [List.getElem?_eq_none (by omega), List.getElem?_zipWith, List.getElem?_eq_none (by omega : ks.length ≤ i)]
  · have hj : j < ks.length := by
      rcases Nat.lt_or_ge j ks.length with h' | h'
      · exact h'
      · rw [List.getElem?_eq_none h'] at hk; cases hk
    obtain ⟨q, hq, hw⟩ := each j hj
    rw [List.getElem?_eq_getElem hj] at hk
    injection hk with hk
    rw [List.getElem?_map, hq, ← hk]
    exact hw

/-- A struct of integers by value. -/
theorem open_struct {r : Reach} {t : TypeId} {fs : Array Field} {ks : List IntKind} (ht : P.underlying t = some (.struct fs)) (hf : intFields P fs ks = true) (hc : P.cellsOf t = ks.length)
    {v : Value} {d : DataW H} {ps : List MemPlace} (hv : Value.okWide P w r b0 t v) (h : DataW.Trod enc P w base sp held t v d ps) :
    ∃ row : List Int, row.length = ks.length ∧ v = .agg (List.zipWith Value.int ks row).toArray ∧ ∀ (j : Nat) (k : IntKind), ks[j]? = some k → (Lit.int k (row[j]?.getD 0)).wf = true := by
  obtain ⟨cs, rfl, hsz⟩ := okWide_struct ht hv
  obtain ⟨fuel, hfu⟩ := h
  obtain ⟨row, h1, h2, h3⟩ := struct_row ht hf hc hfu
  exact ⟨row, h1, by rw [← h2]; simp [Value.cells], h3⟩

/-- The slice at A holds rows of integers of these kinds; its memory lies below block B. -/
def HoldsR (w : World) (B : Nat) (ks : List IntKind) (A : Option Addr) (rows : List (List Int)) : Prop :=
  0 < rows.length → ∃ b off : Nat, A = some ⟨b, off, none⟩ ∧ b < B ∧ ∀ (i : Nat) (row : List Int), rows[i]? = some row → ∀ (j : Nat) (k : IntKind), ks[j]? = some k → w.cell? ⟨b, off + i * ks.length + j, none⟩ = some (.int k (row[j]?.getD 0))

/-- A slice of structs of integers that came in. -/
theorem open_rows {t e : TypeId} {fs : Array Field} {ks : List IntKind} (ht : P.underlying t = some (.slice e)) (he : P.underlying e = some (.struct fs)) (hf : intFields P fs ks = true) (hc : P.cellsOf e = ks.length) (hks : 0 < ks.length)
    {v : Value} {d : DataW H} {ps : List MemPlace} (hval : Value.okWide P w .any b0 t v) (h : DataW.Trod enc P w 0 (fun _ => true) true t v d ps) (hlt : ∀ x ∈ ps, x.block < w.heap.size) :
    ∃ (A : Option Addr) (cap : Nat) (rows : List (List Int)), v = .slice A rows.length cap ∧ rows.length ≤ cap ∧ cap ≤ maxLen ∧ HoldsR w w.heap.size ks A rows ∧
      ∀ (i : Nat) (row : List Int), rows[i]? = some row → row.length = ks.length ∧ ∀ (j : Nat) (k : IntKind), ks[j]? = some k → (Lit.int k (row[j]?.getD 0)).wf = true := by
  obtain ⟨a0, len, cap, rfl⟩ := okWide_slice ht hval
  obtain ⟨fuel, hfu⟩ := h
  rcases DataW.trod_slice ht hfu with ⟨hcs, _⟩ | ⟨a, len', cap', elems, rest, n, _, hcs, hx, _, hl, hm, hlen, hel, _, _⟩
  · simp [Value.cells] at hcs
    obtain ⟨rfl, rfl, rfl⟩ := hcs
    exact ⟨none, 0, [], rfl, Nat.le_refl _, Nat.zero_le _, fun h => absurd h (by simp), fun i row hi => by simp at hi⟩
  · simp [Value.cells] at hcs
    obtain ⟨rfl, rfl, rfl⟩ := hcs
    have each : ∀ i, i < len → ∃ row : List Int, row.length = ks.length ∧ (∀ (j : Nat) (k : IntKind), ks[j]? = some k → w.cell? (a.add (i * ks.length + j)) = some (.int k (row[j]?.getD 0)) ∧ (Lit.int k (row[j]?.getD 0)).wf = true) := by
      intro i hi
      have h1 := hel i hi
      have hx' : elems[i]? = some (elems[i]'(by omega)) := List.getElem?_eq_getElem (by omega)
      rw [hx'] at h1
      obtain ⟨cs, h2, h3⟩ := Option.bind_eq_some_iff.1 h1
      obtain ⟨_, h5, h6⟩ := World.cells?_some h2
      obtain ⟨row, r1, r2, r3⟩ := struct_row he hf hc h3
      refine ⟨row, r1, fun j k hk => ⟨?_, r3 j k hk⟩⟩
      have hj : j < ks.length := by
        rcases Nat.lt_or_ge j ks.length with h' | h'
        · exact h'
        · rw [List.getElem?_eq_none h'] at hk; cases hk
      have h7 := h6 j (by omega)
      rw [hc] at h7
      have hadd : (a.add (i * ks.length)).add j = a.add (i * ks.length + j) := by
        unfold Addr.add
        by_cases h1 : i * ks.length = 0 <;> by_cases h2 : j = 0 <;> simp [h1, h2, Nat.add_assoc]
      rw [hadd] at h7
      rw [h7, r2, List.getElem?_zipWith, hk, List.getElem?_eq_getElem (by omega : j < row.length)]
      rfl
    have all : ∃ rows : List (List Int), rows.length = len ∧ ∀ (i : Nat) (row : List Int), rows[i]? = some row → row.length = ks.length ∧ (∀ (j : Nat) (k : IntKind), ks[j]? = some k → w.cell? (a.add (i * ks.length + j)) = some (.int k (row[j]?.getD 0)) ∧ (Lit.int k (row[j]?.getD 0)).wf = true) := by
      have build : ∀ m, m ≤ len → ∃ rows : List (List Int), rows.length = m ∧ ∀ (i : Nat) (row : List Int), rows[i]? = some row → row.length = ks.length ∧ (∀ (j : Nat) (k : IntKind), ks[j]? = some k → w.cell? (a.add (i * ks.length + j)) = some (.int k (row[j]?.getD 0)) ∧ (Lit.int k (row[j]?.getD 0)).wf = true) := by
        intro m
        induction m with
        | zero => exact fun _ => ⟨[], rfl, fun i row hi => by simp at hi⟩
        | succ m ih =>
          intro hm'
          obtain ⟨rows, q1, q2⟩ := ih (by omega)
          obtain ⟨row, r1, r2⟩ := each m (by omega)
          refine ⟨rows ++ [row], by simp [q1], fun i row' hi => ?_⟩
          by_cases hi' : i < m
          · rw [List.getElem?_append_left (by omega)] at hi
            exact q2 i row' hi
          · have him : i = m := by
              rcases Nat.lt_or_ge i (rows ++ [row]).length with h' | h'
              · simp at h'; omega
              · rw [List.getElem?_eq_none h'] at hi; cases hi
            subst him
            rw [List.getElem?_append_right (by omega), q1] at hi
            simp at hi
            subst hi
            exact ⟨r1, r2⟩
      exact build len (Nat.le_refl _)
    obtain ⟨rows, q1, q2⟩ := all
    refine ⟨some a, cap, rows, by rw [q1], by omega, hm, fun hx0 => ?_, fun i row hi => ⟨(q2 i row hi).1, fun j k hk => ((q2 i row hi).2 j k hk).2⟩⟩
    obtain ⟨b, off, spot⟩ := a
    have hk0 : ks[0]? = some ks[0] := List.getElem?_eq_getElem hks
    have hr0 : rows[0]? = some (rows[0]'hx0) := List.getElem?_eq_getElem hx0
    have hspot : spot = none := by simpa [Addr.add] using World.cell?_spot ((q2 0 _ hr0).2 0 _ hk0).1
    subst hspot
    simp only [Prod.mk.injEq] at hx
    have hpos : 0 < (elems.length + rest.length) * P.cellsOf e := Nat.mul_pos (by omega) (by omega)
    refine ⟨b, off, rfl, hlt (.cell b (off + 0)) (by rw [hx.2]; exact List.mem_append_left _ (MemPlace.mem_row.2 ⟨0, hpos, by simp⟩)), fun i row hi j k hk => ?_⟩
    have := ((q2 i row hi).2 j k hk).1
    rw [add_plain] at this
    rw [Nat.add_assoc]
    exact this
end
end Go.Proofs.Ytoegioeioohidaa.Kit
