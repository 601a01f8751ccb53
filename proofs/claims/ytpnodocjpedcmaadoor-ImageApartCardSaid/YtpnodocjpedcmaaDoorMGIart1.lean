/-
  Own words for structs of integers, by value and in slices that came in. No program. No conditions beyond what each theorem names.
  Own words for a struct parameter of three integers and a slice of bytes. No program. No conditions beyond what each theorem names.
  Own words for slices of elements of any shape that came in. No program. No conditions beyond what each theorem names.
  Layer 7, part: contracts of the layouts' functions. Conditions: as each theorem names.
  Layer 7, part: whether a layout may be, and its map: contracts. Conditions: as each theorem names.
  Layer 7, part: the document's functions on layouts, and Layout: contracts. Conditions: as each theorem names.
  Layer 7, part: maps of layouts: contracts. Conditions: as each theorem names.
  Layer 7, part: a map is equal to itself; the document's example. Conditions: as each theorem names.
  Layer 7, part: what a nil part answers, and a part of a nil device. Conditions: none.
  Own words: whole arrays of integers stored and loaded, as steps of a region that draws its order. No program. No conditions beyond what each theorem names.
  Own words for slices of rows of bytes that came in, or that a call lays itself. No program. No conditions beyond what each theorem names.
  Own words: rows of bytes that a call lays itself in a new block. No program. No conditions beyond what each theorem names.
  Own words: rows that stay where something new is laid and filled; a row's first numbers; rows that grow in a world that only adds. No program. No conditions beyond what each theorem names.
  Layer 1, sha: bits moved round the end: both functions, one answer. Conditions: as each theorem names.
  Layer 1, sha: two ways to choose bits, one answer; the words of a block and the rounds, as plain functions. No program. No conditions beyond what each theorem names.
  Layer 1, sha: the words of a block, the rounds, the state behind bytes: plain words. No program. No conditions beyond what each theorem names.
  Layer 1, sha: the words of a block: contract. Conditions: as each theorem names.
  Layer 1, sha: a block mixed into a state: contract. Conditions: as each theorem names.
  Layer 1, sha: the state behind bytes, the sum: plain words; what a hash's block has. No program but its types. No conditions beyond what each theorem names.
  Layer 1, sha: a hash: new, its length, a copy: contracts. Conditions: as each theorem names.
  Own words for package-level arrays of integers that the program's own text lays. No program. No conditions beyond what each theorem names.
-/
import Derived.Test.YtpnodocjpedcmaaDoorMGIart0
import Derived.DataReads
import Derived.ChangeArms
import Derived.Test.YtpnodocjpedcmaaDoorRows
import Derived.Deep.RegionHeld3
import Derived.Deep.DeepCutAuto
import Derived.Deep.QuietTactic
import Derived.BigQuiet
import Derived.Lib.QuietBelow
import Derived.Laws.ResultCell
import Derived.Laws.StructEq
import Derived.ChangeKeysEq
import Derived.LoopTactic
import Derived.Laws.BitsAllLaws
import Derived.StillTailTactics
import Derived.Outline
import Derived.IntWalk
import Derived.Deep.RegionWith
import Derived.Laws.CopyOwn
import Derived.LaidMore
import Derived.MakeChecks
import Derived.Stop.Joined
import Derived.OpenShut
namespace Go.Proofs.YtpnodocjpedcmaaDoor.Kit
open Go.ChangeShapes Go.WideShapes Go.ChangeAt Go.RowKit

/-- The fields are integers of these kinds, a cell each, in their order. -/
def intFields (P : Program) (fs : Array Field) (ks : List IntKind) : Bool :=
  fs.size == ks.length && (List.range fs.size).all fun i => match fs[i]?, ks[i]? with
    | some f, some k => f.offset == i && P.cellsOf f.type == 1 && (match P.underlying f.type with | some (.int k') => decide (k' = k) | _ => false)
    | _, _ => false

theorem intFields_of {P : Program} {fs : Array Field} {ks : List IntKind} (h : intFields P fs ks = true) : fs.size = ks.length ∧
    ∀ i, i < ks.length → ∃ f k, fs[i]? = some f ∧ ks[i]? = some k ∧ f.offset = i ∧ P.cellsOf f.type = 1 ∧ P.underlying f.type = some (.int k) := by
  unfold intFields at h
  simp only [Bool.and_eq_true, beq_iff_eq, List.all_eq_true, List.mem_range] at h
  refine ⟨h.1, fun i hi => ?_⟩
  have h2 := h.2 i (by omega)
  cases hf : fs[i]? with
  | none => rw [hf] at h2; simp at h2
  | some f =>
    cases hk : ks[i]? with
    | none => rw [hf, hk] at h2; simp at h2
    | some k =>
      rw [hf, hk] at h2
      simp only [Bool.and_eq_true, beq_iff_eq] at h2
      refine ⟨f, k, rfl, rfl, h2.1.1, h2.1.2, ?_⟩
      have h3 := h2.2
      split at h3
      · rename_i k' hu
        rw [hu, of_decide_eq_true h3]
      · cases h3

def numOfV : Value → Int
  | .int _ n => n
  | _ => 0

section
variable {H : Type} {enc : TypeId × Value → H} {P : Program} {w : World} {base b0 : Nat} {sp : Nat → Bool} {held : Bool}

theorem struct_row {e : TypeId} {fs : Array Field} {ks : List IntKind} (he : P.underlying e = some (.struct fs)) (hf : intFields P fs ks = true) (hc : P.cellsOf e = ks.length)
    {n : Nat} {cs : List Value} {y : DataW H × List MemPlace} (h : DataW.trod enc P w base sp held n e cs = some y) :
    ∃ row : List Int, row.length = ks.length ∧ cs = List.zipWith Value.int ks row ∧ ∀ (j : Nat) (k : IntKind), ks[j]? = some k → (Lit.int k (row[j]?.getD 0)).wf = true := by
  obtain ⟨xs, m, _, _, hl, hxl, hg⟩ := DataW.trod_struct he h
  obtain ⟨hsz, hi⟩ := intFields_of hf
  have each : ∀ i (hi' : i < ks.length), ∃ q, cs[i]? = some (.int ks[i] q) ∧ (Lit.int ks[i] q).wf = true := by
    intro i hi'
    obtain ⟨f, k, h1, h2, h3, h4, h5⟩ := hi i hi'
    have hk : ks[i] = k := by rw [List.getElem?_eq_getElem hi'] at h2; exact Option.some.inj h2
    have h6 := hg i f h1
    rw [h3, h4] at h6
    have hx : xs[i]? = some (xs[i]'(by omega)) := List.getElem?_eq_getElem (by omega)
    rw [hx] at h6
    obtain ⟨q, hq, _, hw⟩ := DataW.trod_int h5 h6
    refine ⟨q, ?_, by rw [hk]; exact hw⟩
    rw [hk]
    rw [List.drop_eq_getElem_cons (by omega)] at hq
    simp only [List.take_succ_cons, List.take_zero, List.cons.injEq, and_true] at hq
    rw [List.getElem?_eq_getElem (by omega), hq]
  refine ⟨cs.map numOfV, by simp; omega, ?_, fun j k hk => ?_⟩
  · apply List.ext_getElem?
    intro i
    by_cases hi' : i < ks.length
    · obtain ⟨q, hq, _⟩ := each i hi'
      rw [List.getElem?_zipWith, List.getElem?_map, hq, List.getElem?_eq_getElem hi']
      rfl
    · rw [List.getElem?_eq_none (by omega), List.getElem?_zipWith, List.getElem?_eq_none (by omega : ks.length ≤ i)]
  · have hj : j < ks.length := by
      rcases Nat.lt_or_ge j ks.length with h' | h'
      · exact h'
      · rw [List.getElem?_eq_none h'] at hk; cases hk
    obtain ⟨q, hq, hw⟩ := each j hj
    rw [List.getElem?_eq_getElem hj] at hk
    injection hk with hk
    rw [List.getElem?_map, hq, ← hk]
    exact hw

/-- A struct of integers by value. -/
theorem open_struct {r : Reach} {t : TypeId} {fs : Array Field} {ks : List IntKind} (ht : P.underlying t = some (.struct fs)) (hf : intFields P fs ks = true) (hc : P.cellsOf t = ks.length)
    {v : Value} {d : DataW H} {ps : List MemPlace} (hv : Value.okWide P w r b0 t v) (h : DataW.Trod enc P w base sp held t v d ps) :
    ∃ row : List Int, row.length = ks.length ∧ v = .agg (List.zipWith Value.int ks row).toArray ∧ ∀ (j : Nat) (k : IntKind), ks[j]? = some k → (Lit.int k (row[j]?.getD 0)).wf = true := by
  obtain ⟨cs, rfl, hsz⟩ := okWide_struct ht hv
  obtain ⟨fuel, hfu⟩ := h
  obtain ⟨row, h1, h2, h3⟩ := struct_row ht hf hc hfu
  exact ⟨row, h1, by rw [← h2]; simp [Value.cells], h3⟩

/-- The slice at A holds rows of integers of these kinds; its memory lies below block B. -/
def HoldsR (w : World) (B : Nat) (ks : List IntKind) (A : Option Addr) (rows : List (List Int)) : Prop :=
  0 < rows.length → ∃ b off : Nat, A = some ⟨b, off, none⟩ ∧ b < B ∧ ∀ (i : Nat) (row : List Int), rows[i]? = some row → ∀ (j : Nat) (k : IntKind), ks[j]? = some k → w.cell? ⟨b, off + i * ks.length + j, none⟩ = some (.int k (row[j]?.getD 0))

/-- A slice of structs of integers that came in. -/
theorem open_rows {t e : TypeId} {fs : Array Field} {ks : List IntKind} (ht : P.underlying t = some (.slice e)) (he : P.underlying e = some (.struct fs)) (hf : intFields P fs ks = true) (hc : P.cellsOf e = ks.length) (hks : 0 < ks.length)
    {v : Value} {d : DataW H} {ps : List MemPlace} (hval : Value.okWide P w .any b0 t v) (h : DataW.Trod enc P w 0 (fun _ => true) true t v d ps) (hlt : ∀ x ∈ ps, x.block < w.heap.size) :
    ∃ (A : Option Addr) (cap : Nat) (rows : List (List Int)), v = .slice A rows.length cap ∧ rows.length ≤ cap ∧ cap ≤ maxLen ∧ HoldsR w w.heap.size ks A rows ∧
      ∀ (i : Nat) (row : List Int), rows[i]? = some row → row.length = ks.length ∧ ∀ (j : Nat) (k : IntKind), ks[j]? = some k → (Lit.int k (row[j]?.getD 0)).wf = true := by
  obtain ⟨a0, len, cap, rfl⟩ := okWide_slice ht hval
  obtain ⟨fuel, hfu⟩ := h
  rcases DataW.trod_slice ht hfu with ⟨hcs, _⟩ | ⟨a, len', cap', elems, rest, n, _, hcs, hx, _, hl, hm, hlen, hel, _, _⟩
  · simp [Value.cells] at hcs
    obtain ⟨rfl, rfl, rfl⟩ := hcs
    exact ⟨none, 0, [], rfl, Nat.le_refl _, Nat.zero_le _, fun h => absurd h (by simp), fun i row hi => by simp at hi⟩
  · simp [Value.cells] at hcs
    obtain ⟨rfl, rfl, rfl⟩ := hcs
    have each : ∀ i, i < len → ∃ row : List Int, row.length = ks.length ∧ (∀ (j : Nat) (k : IntKind), ks[j]? = some k → w.cell? (a.add (i * ks.length + j)) = some (.int k (row[j]?.getD 0)) ∧ (Lit.int k (row[j]?.getD 0)).wf = true) := by
      intro i hi
      have h1 := hel i hi
      have hx' : elems[i]? = some (elems[i]'(by omega)) := List.getElem?_eq_getElem (by omega)
      rw [hx'] at h1
      obtain ⟨cs, h2, h3⟩ := Option.bind_eq_some_iff.1 h1
      obtain ⟨_, h5, h6⟩ := World.cells?_some h2
      obtain ⟨row, r1, r2, r3⟩ := struct_row he hf hc h3
      refine ⟨row, r1, fun j k hk => ⟨?_, r3 j k hk⟩⟩
      have hj : j < ks.length := by
        rcases Nat.lt_or_ge j ks.length with h' | h'
        · exact h'
        · rw [List.getElem?_eq_none h'] at hk; cases hk
      have h7 := h6 j (by omega)
      rw [hc] at h7
      have hadd : (a.add (i * ks.length)).add j = a.add (i * ks.length + j) := by
        unfold Addr.add
        by_cases h1 : i * ks.length = 0 <;> by_cases h2 : j = 0 <;> simp [h1, h2, Nat.add_assoc]
      rw [hadd] at h7
      rw [h7, r2, List.getElem?_zipWith, hk, List.getElem?_eq_getElem (by omega : j < row.length)]
      rfl
    have all : ∃ rows : List (List Int), rows.length = len ∧ ∀ (i : Nat) (row : List Int), rows[i]? = some row → row.length = ks.length ∧ (∀ (j : Nat) (k : IntKind), ks[j]? = some k → w.cell? (a.add (i * ks.length + j)) = some (.int k (row[j]?.getD 0)) ∧ (Lit.int k (row[j]?.getD 0)).wf = true) := by
      have build : ∀ m, m ≤ len → ∃ rows : List (List Int), rows.length = m ∧ ∀ (i : Nat) (row : List Int), rows[i]? = some row → row.length = ks.length ∧ (∀ (j : Nat) (k : IntKind), ks[j]? = some k → w.cell? (a.add (i * ks.length + j)) = some (.int k (row[j]?.getD 0)) ∧ (Lit.int k (row[j]?.getD 0)).wf = true) := by
        intro m
        induction m with
        | zero => exact fun _ => ⟨[], rfl, fun i row hi => by simp at hi⟩
        | succ m ih =>
          intro hm'
          obtain ⟨rows, q1, q2⟩ := ih (by omega)
          obtain ⟨row, r1, r2⟩ := each m (by omega)
          refine ⟨rows ++ [row], by simp [q1], fun i row' hi => ?_⟩
          by_cases hi' : i < m
          · rw [List.getElem?_append_left (by omega)] at hi
            exact q2 i row' hi
          · have him : i = m := by
              rcases Nat.lt_or_ge i (rows ++ [row]).length with h' | h'
              · simp at h'; omega
              · rw [List.getElem?_eq_none h'] at hi; cases hi
            subst him
            rw [List.getElem?_append_right (by omega), q1] at hi
            simp at hi
            subst hi
            exact ⟨r1, r2⟩
      exact build len (Nat.le_refl _)
    obtain ⟨rows, q1, q2⟩ := all
    refine ⟨some a, cap, rows, by rw [q1], by omega, hm, fun hx0 => ?_, fun i row hi => ⟨(q2 i row hi).1, fun j k hk => ((q2 i row hi).2 j k hk).2⟩⟩
    obtain ⟨b, off, spot⟩ := a
    have hk0 : ks[0]? = some ks[0] := List.getElem?_eq_getElem hks
    have hr0 : rows[0]? = some (rows[0]'hx0) := List.getElem?_eq_getElem hx0
    have hspot : spot = none := by simpa [Addr.add] using World.cell?_spot ((q2 0 _ hr0).2 0 _ hk0).1
    subst hspot
    simp only [Prod.mk.injEq] at hx
    have hpos : 0 < (elems.length + rest.length) * P.cellsOf e := Nat.mul_pos (by omega) (by omega)
    refine ⟨b, off, rfl, hlt (.cell b (off + 0)) (by rw [hx.2]; exact List.mem_append_left _ (MemPlace.mem_row.2 ⟨0, hpos, by simp⟩)), fun i row hi j k hk => ?_⟩
    have := ((q2 i row hi).2 j k hk).1
    rw [add_plain] at this
    rw [Nat.add_assoc]
    exact this
end
end Go.Proofs.YtpnodocjpedcmaaDoor.Kit

namespace Go.Proofs.YtpnodocjpedcmaaDoor.Kit
open Go.ChangeShapes Go.WideShapes Go.ChangeAt Go.RowKit

/-- Field i is an integer of kind k in cell o. -/
def isInt (P : Program) (fs : Array Field) (i o : Nat) (k : IntKind) : Bool := match fs[i]? with
  | some f => f.offset == o && P.cellsOf f.type == 1 && (match P.underlying f.type with | some (.int k') => decide (k' = k) | _ => false)
  | none => false

/-- Field i is a slice of bytes in cell o. -/
def isBytes (P : Program) (fs : Array Field) (i o : Nat) : Bool := match fs[i]? with
  | some f => f.offset == o && P.cellsOf f.type == 1 && (match P.underlying f.type with
    | some (.slice e) => P.cellsOf e == 1 && (match P.underlying e with | some (.int k') => decide (k' = .u8) | _ => false)
    | _ => false)
  | none => false

theorem isInt_of {P : Program} {fs : Array Field} {i o : Nat} {k : IntKind} (h : isInt P fs i o k = true) : ∃ f, fs[i]? = some f ∧ f.offset = o ∧ P.cellsOf f.type = 1 ∧ P.underlying f.type = some (.int k) := by
  unfold isInt at h
  cases hf : fs[i]? with
  | none => rw [hf] at h; simp at h
  | some f =>
    rw [hf] at h
    simp only [Bool.and_eq_true, beq_iff_eq] at h
    refine ⟨f, rfl, h.1.1, h.1.2, ?_⟩
    have h3 := h.2
    split at h3
    · rename_i k' hu
      rw [hu, of_decide_eq_true h3]
    · cases h3

theorem isBytes_of {P : Program} {fs : Array Field} {i o : Nat} (h : isBytes P fs i o = true) : ∃ f e, fs[i]? = some f ∧ f.offset = o ∧ P.cellsOf f.type = 1 ∧ P.underlying f.type = some (.slice e) ∧ P.underlying e = some (.int .u8) ∧ P.cellsOf e = 1 := by
  unfold isBytes at h
  cases hf : fs[i]? with
  | none => rw [hf] at h; simp at h
  | some f =>
    rw [hf] at h
    simp only [Bool.and_eq_true, beq_iff_eq] at h
    have h3 := h.2
    split at h3
    · rename_i e hu
      simp only [Bool.and_eq_true, beq_iff_eq] at h3
      have h4 := h3.2
      split at h4
      · rename_i k' hk
        exact ⟨f, e, rfl, h.1.1, h.1.2, hu, by rw [hk, of_decide_eq_true h4], h3.1⟩
      · cases h4
    · cases h3

theorem get_of_one {cs : List Value} {o : Nat} {v : Value} (h : (cs.drop o).take 1 = [v]) : cs[o]? = some v := by
  have h1 : ((cs.drop o).take 1)[0]? = some v := by rw [h]; rfl
  simpa [List.getElem?_take, List.getElem?_drop] using h1

section
variable {H : Type} {enc : TypeId × Value → H} {P : Program} {w : World} {b0 : Nat}

theorem octets_of {n : Nat} {t e : TypeId} {cs : List Value} {x : DataW H × List MemPlace} (ht : P.underlying t = some (.slice e)) (he : P.underlying e = some (.int .u8)) (hc : P.cellsOf e = 1)
    (h : DataW.trod enc P w 0 (fun _ => true) true n t cs = some x) (hlt : ∀ p ∈ x.2, p.block < w.heap.size) :
    ∃ (A : Option Addr) (cap : Nat) (zs : List Int), cs = [.slice A zs.length cap] ∧ zs.length ≤ cap ∧ cap ≤ maxLen ∧ Octets zs ∧ Holds w w.heap.size .u8 A zs := by
  rcases open_ints ht he hc h with ⟨hcs, hx⟩ | ⟨a, len, cap, zs, hcs, _, hl, hm, hz, hx, hcell, hwz⟩
  · exact ⟨none, 0, [], hcs, Nat.le_refl _, Nat.zero_le _, fun _ h => by simp at h, Holds.nil⟩
  · simp only [if_true] at hz
    have hlen : (zs.take len).length = len := by simp [hz, Nat.min_eq_left hl]
    refine ⟨some a, cap, zs.take len, by rw [hlen]; exact hcs, by rw [hlen]; exact hl, hm, fun n hn => bounds_u8 (hwz n (List.mem_of_mem_take hn)), fun hp => ?_⟩
    rw [hlen] at hp
    obtain ⟨b, off, spot⟩ := a
    have hspot : spot = none := by simpa [Addr.add] using World.cell?_spot (hcell 0 (by omega))
    subst hspot
    refine ⟨b, off, rfl, hlt (.cell b (off + 0)) (by rw [hx]; exact MemPlace.mem_row.2 ⟨0, by omega, by simp⟩), fun j hj => ?_⟩
    rw [hlen] at hj
    rw [← add_plain, hcell j (by omega)]
    simp [List.getD, show j < len by omega]

theorem open_iiib {t : TypeId} {fs : Array Field} {k0 k1 k2 : IntKind} (ht : P.underlying t = some (.struct fs)) (h0 : isInt P fs 0 0 k0 = true) (h1 : isInt P fs 1 1 k1 = true) (h2 : isInt P fs 2 2 k2 = true) (h3 : isBytes P fs 3 3 = true)
    (hsz : fs.size = 4) (hc : P.cellsOf t = 4) {v : Value} {d : DataW H} {ps : List MemPlace} (hv : Value.okWide P w .any b0 t v) (h : DataW.Trod enc P w 0 (fun _ => true) true t v d ps) (hlt : ∀ x ∈ ps, x.block < w.heap.size) :
    ∃ (a b x : Int) (A : Option Addr) (cap : Nat) (zs : List Int), v = .agg #[.int k0 a, .int k1 b, .int k2 x, .slice A zs.length cap] ∧ (Lit.int k0 a).wf = true ∧ (Lit.int k1 b).wf = true ∧ (Lit.int k2 x).wf = true ∧
      zs.length ≤ cap ∧ cap ≤ maxLen ∧ Octets zs ∧ Holds w w.heap.size .u8 A zs := by
  obtain ⟨cs, rfl, hcs⟩ := okWide_struct ht hv
  obtain ⟨fuel, hfu⟩ := h
  obtain ⟨xs, m, _, hx, hl, hxl, hg⟩ := DataW.trod_struct ht hfu
  simp only [Value.cells] at hg
  obtain ⟨f0, e0, o0, s0, u0⟩ := isInt_of h0
  obtain ⟨f1, e1, o1, s1, u1⟩ := isInt_of h1
  obtain ⟨f2, e2, o2, s2, u2⟩ := isInt_of h2
  obtain ⟨f3, e, e3, o3, s3, u3, ue, ce⟩ := isBytes_of h3
  have x0 : xs[0]? = some (xs[0]'(by omega)) := List.getElem?_eq_getElem (by omega)
  have x1 : xs[1]? = some (xs[1]'(by omega)) := List.getElem?_eq_getElem (by omega)
  have x2 : xs[2]? = some (xs[2]'(by omega)) := List.getElem?_eq_getElem (by omega)
  have x3 : xs[3]? = some (xs[3]'(by omega)) := List.getElem?_eq_getElem (by omega)
  have g0 := hg 0 f0 e0
  have g1 := hg 1 f1 e1
  have g2 := hg 2 f2 e2
  have g3 := hg 3 f3 e3
  rw [o0, s0, x0] at g0
  rw [o1, s1, x1] at g1
  rw [o2, s2, x2] at g2
  rw [o3, s3, x3] at g3
  obtain ⟨a, ha, _, wa⟩ := DataW.trod_int u0 g0
  obtain ⟨b, hb, _, wb⟩ := DataW.trod_int u1 g1
  obtain ⟨x, hxx, _, wx⟩ := DataW.trod_int u2 g2
  obtain ⟨A, cap, zs, hs, r1, r2, r3, r4⟩ := octets_of u3 ue ce g3 (fun p hp => hlt p (by
    have hps : ps = xs.flatMap (·.2) := congrArg Prod.snd hx
    rw [hps]
    exact List.mem_flatMap.2 ⟨_, List.getElem_mem _, hp⟩))
  refine ⟨a, b, x, A, cap, zs, ?_, wa, wb, wx, r1, r2, r3, r4⟩
  have q0 := get_of_one ha
  have q1 := get_of_one hb
  have q2 := get_of_one hxx
  have q3 := get_of_one hs
  obtain ⟨l⟩ := cs
  have hl4 : l.length = 4 := by simpa [hc] using hcs
  match l, hl4, q0, q1, q2, q3 with
  | [y0, y1, y2, y3], _, q0, q1, q2, q3 =>
    simp at q0 q1 q2 q3
    subst q0 q1 q2 q3
    rfl
end
end Go.Proofs.YtpnodocjpedcmaaDoor.Kit

namespace Go.Proofs.YtpnodocjpedcmaaDoor.Kit
open Go.ChangeShapes Go.WideShapes Go.ChangeAt Go.RowKit

/-- The slice at A holds these elements, each of sz cells that E tells; its memory lies below block B. -/
def HoldsE {R : Type} (E : R → List Value → Prop) (sz : Nat) (w : World) (B : Nat) (A : Option Addr) (rs : List R) : Prop :=
  0 < rs.length → ∃ b off : Nat, A = some ⟨b, off, none⟩ ∧ b < B ∧ ∀ (i : Nat) (r : R), rs[i]? = some r → ∃ cs, E r cs ∧ cs.length = sz ∧ ∀ (j : Nat) (c : Value), cs[j]? = some c → w.cell? ⟨b, off + i * sz + j, none⟩ = some c

theorem HoldsE.keep {R : Type} {E E' : R → List Value → Prop} {sz : Nat} {w w' : World} {B : Nat} {A : Option Addr} {rs : List R} (h : HoldsE E sz w B A rs) (hk : ∀ p : Addr, p.block < B → w'.cell? p = w.cell? p) (hE : ∀ r cs, E r cs → E' r cs) : HoldsE E' sz w' B A rs := by
  intro hx
  obtain ⟨b, off, e, hb, hc⟩ := h hx
  refine ⟨b, off, e, hb, fun i r hi => ?_⟩
  obtain ⟨cs, h1, h2, h3⟩ := hc i r hi
  exact ⟨cs, hE r cs h1, h2, fun j c hj => (hk _ hb).trans (h3 j c hj)⟩

section
variable {H : Type} {enc : TypeId × Value → H} {P : Program} {w : World} {b0 : Nat}

theorem list_of {R : Type} {Q : Nat → R → Prop} : ∀ (n : Nat), (∀ i, i < n → ∃ r, Q i r) → ∃ rs : List R, rs.length = n ∧ ∀ (i : Nat) (r : R), rs[i]? = some r → Q i r
  | 0, _ => ⟨[], rfl, fun i r hi => by simp at hi⟩
  | n + 1, h => by
    obtain ⟨rs, q1, q2⟩ := list_of n fun i hi => h i (by omega)
    obtain ⟨r, hr⟩ := h n (by omega)
    refine ⟨rs ++ [r], by simp [q1], fun i r' hi => ?_⟩
    by_cases hi' : i < n
    · rw [List.getElem?_append_left (by omega)] at hi
      exact q2 i r' hi
    · have him : i = n := by
        rcases Nat.lt_or_ge i (rs ++ [r]).length with h' | h'
        · simp at h'; omega
        · rw [List.getElem?_eq_none h'] at hi; cases hi
      subst him
      rw [List.getElem?_append_right (by omega), q1] at hi
      simp at hi
      subst hi
      exact hr

theorem open_slice_of {R : Type} (E : R → List Value → Prop) {t e : TypeId} (sz : Nat) (ht : P.underlying t = some (.slice e)) (hc : P.cellsOf e = sz) (hsz : 0 < sz)
    (hE : ∀ (n : Nat) (cs : List Value) (y : DataW H × List MemPlace), DataW.trod enc P w 0 (fun _ => true) true n e cs = some y → (∀ x ∈ y.2, x.block < w.heap.size) → ∃ r, E r cs)
    {v : Value} {d : DataW H} {ps : List MemPlace} (hval : Value.okWide P w .any b0 t v) (h : DataW.Trod enc P w 0 (fun _ => true) true t v d ps) (hlt : ∀ x ∈ ps, x.block < w.heap.size) :
    ∃ (A : Option Addr) (cap : Nat) (rs : List R), v = .slice A rs.length cap ∧ rs.length ≤ cap ∧ cap ≤ maxLen ∧ HoldsE E sz w w.heap.size A rs := by
  obtain ⟨a0, len, cap, rfl⟩ := okWide_slice ht hval
  obtain ⟨fuel, hfu⟩ := h
  rcases DataW.trod_slice ht hfu with ⟨hcs, _⟩ | ⟨a, len', cap', elems, rest, n, _, hcs, hx, _, hl, hm, hlen, hel, _, _⟩
  · simp [Value.cells] at hcs
    obtain ⟨rfl, rfl, rfl⟩ := hcs
    exact ⟨none, 0, [], rfl, Nat.le_refl _, Nat.zero_le _, fun h => absurd h (by simp)⟩
  · simp [Value.cells] at hcs
    obtain ⟨rfl, rfl, rfl⟩ := hcs
    simp only [Prod.mk.injEq] at hx
    have each : ∀ i, i < len → ∃ r, ∃ cs, E r cs ∧ cs.length = sz ∧ ∀ (j : Nat) (c : Value), cs[j]? = some c → w.cell? (a.add (i * sz + j)) = some c := by
      intro i hi
      have h1 := hel i hi
      have hx' : elems[i]? = some (elems[i]'(by omega)) := List.getElem?_eq_getElem (by omega)
      rw [hx'] at h1
      obtain ⟨cs, h2, h3⟩ := Option.bind_eq_some_iff.1 h1
      obtain ⟨_, h5, h6⟩ := World.cells?_some h2
      obtain ⟨r, hr⟩ := hE _ _ _ h3 (fun x hxx => hlt x (by
        rw [hx.2]
        refine List.mem_append_right _ ?_
        refine List.mem_flatMap.2 ⟨elems[i]'(by omega), ?_, hxx⟩
        first | exact List.getElem_mem _ | exact List.mem_append_left _ (List.getElem_mem _)))
      refine ⟨r, cs, hr, by rw [h5, hc], fun j c hj => ?_⟩
      have hj' : j < cs.length := by
        rcases Nat.lt_or_ge j cs.length with h' | h'
        · exact h'
        · rw [List.getElem?_eq_none h'] at hj; cases hj
      have h7 := h6 j (by omega)
      rw [hc] at h7
      have hadd : (a.add (i * sz)).add j = a.add (i * sz + j) := by
        unfold Addr.add
        by_cases h1 : i * sz = 0 <;> by_cases h2 : j = 0 <;> simp [h1, h2, Nat.add_assoc]
      rw [hadd] at h7
      rw [h7, hj]
    obtain ⟨rs, q1, q2⟩ := list_of len each
    refine ⟨some a, cap, rs, by rw [q1], by omega, hm, fun hx0 => ?_⟩
    obtain ⟨b, off, spot⟩ := a
    have hr0 : rs[0]? = some (rs[0]'hx0) := List.getElem?_eq_getElem hx0
    obtain ⟨cs0, _, hl0, hc0⟩ := q2 0 _ hr0
    have hspot : spot = none := by simpa [Addr.add] using World.cell?_spot (hc0 0 _ (List.getElem?_eq_getElem (by omega)))
    subst hspot
    have hpos : 0 < (elems.length + rest.length) * P.cellsOf e := Nat.mul_pos (by omega) (by omega)
    refine ⟨b, off, rfl, hlt (.cell b (off + 0)) (by rw [hx.2]; exact List.mem_append_left _ (MemPlace.mem_row.2 ⟨0, hpos, by simp⟩)), fun i r hi => ?_⟩
    obtain ⟨cs, h1, h2, h3⟩ := q2 i r hi
    refine ⟨cs, h1, h2, fun j c hj => ?_⟩
    have := h3 j c hj
    rw [add_plain] at this
    rw [Nat.add_assoc]
    exact this

/-- Three integers and bytes. -/
structure Stp where
  a : Int
  b : Int
  x : Int
  A : Option Addr
  cap : Nat
  zs : List Int

/-- How such a one lies in memory. -/
def StpIn (k0 k1 k2 : IntKind) (w : World) (B : Nat) (s : Stp) (cs : List Value) : Prop :=
  cs = [.int k0 s.a, .int k1 s.b, .int k2 s.x, .slice s.A s.zs.length s.cap] ∧ (Lit.int k0 s.a).wf = true ∧ (Lit.int k1 s.b).wf = true ∧ (Lit.int k2 s.x).wf = true ∧
    s.zs.length ≤ s.cap ∧ s.cap ≤ maxLen ∧ Octets s.zs ∧ Holds w B .u8 s.A s.zs

theorem read_iiib {t : TypeId} {fs : Array Field} {k0 k1 k2 : IntKind} (ht : P.underlying t = some (.struct fs)) (h0 : isInt P fs 0 0 k0 = true) (h1 : isInt P fs 1 1 k1 = true) (h2 : isInt P fs 2 2 k2 = true) (h3 : isBytes P fs 3 3 = true)
    (hsz : fs.size = 4) (hc : P.cellsOf t = 4) {n : Nat} {cs : List Value} {y : DataW H × List MemPlace} (h : DataW.trod enc P w 0 (fun _ => true) true n t cs = some y) (hlt : ∀ x ∈ y.2, x.block < w.heap.size) :
    ∃ s : Stp, StpIn k0 k1 k2 w w.heap.size s cs := by
  obtain ⟨xs, m, _, hx, hl, hxl, hg⟩ := DataW.trod_struct ht h
  obtain ⟨f0, e0, o0, s0, u0⟩ := isInt_of h0
  obtain ⟨f1, e1, o1, s1, u1⟩ := isInt_of h1
  obtain ⟨f2, e2, o2, s2, u2⟩ := isInt_of h2
  obtain ⟨f3, e, e3, o3, s3, u3, ue, ce⟩ := isBytes_of h3
  have x0 : xs[0]? = some (xs[0]'(by omega)) := List.getElem?_eq_getElem (by omega)
  have x1 : xs[1]? = some (xs[1]'(by omega)) := List.getElem?_eq_getElem (by omega)
  have x2 : xs[2]? = some (xs[2]'(by omega)) := List.getElem?_eq_getElem (by omega)
  have x3 : xs[3]? = some (xs[3]'(by omega)) := List.getElem?_eq_getElem (by omega)
  have g0 := hg 0 f0 e0
  have g1 := hg 1 f1 e1
  have g2 := hg 2 f2 e2
  have g3 := hg 3 f3 e3
  rw [o0, s0, x0] at g0
  rw [o1, s1, x1] at g1
  rw [o2, s2, x2] at g2
  rw [o3, s3, x3] at g3
  obtain ⟨a, ha, _, wa⟩ := DataW.trod_int u0 g0
  obtain ⟨b, hb, _, wb⟩ := DataW.trod_int u1 g1
  obtain ⟨x, hxx, _, wx⟩ := DataW.trod_int u2 g2
  obtain ⟨A, cap, zs, hs, r1, r2, r3, r4⟩ := octets_of u3 ue ce g3 (fun p hp => hlt p (by
    have hps : y.2 = xs.flatMap (·.2) := congrArg Prod.snd hx
    rw [hps]
    exact List.mem_flatMap.2 ⟨_, List.getElem_mem _, hp⟩))
  refine ⟨⟨a, b, x, A, cap, zs⟩, ?_, wa, wb, wx, r1, r2, r3, r4⟩
  have q0 := get_of_one ha
  have q1 := get_of_one hb
  have q2 := get_of_one hxx
  have q3 := get_of_one hs
  have hl4 : cs.length = 4 := by omega
  match cs, hl4, q0, q1, q2, q3 with
  | [y0, y1, y2, y3], _, q0, q1, q2, q3 =>
    simp at q0 q1 q2 q3
    subst q0 q1 q2 q3
    rfl

/-- A slice of such ones that came in. -/
theorem open_steps {t e : TypeId} {fs : Array Field} {k0 k1 k2 : IntKind} (ht : P.underlying t = some (.slice e)) (he : P.underlying e = some (.struct fs)) (h0 : isInt P fs 0 0 k0 = true) (h1 : isInt P fs 1 1 k1 = true) (h2 : isInt P fs 2 2 k2 = true) (h3 : isBytes P fs 3 3 = true)
    (hsz : fs.size = 4) (hc : P.cellsOf e = 4) {v : Value} {d : DataW H} {ps : List MemPlace} (hval : Value.okWide P w .any b0 t v) (h : DataW.Trod enc P w 0 (fun _ => true) true t v d ps) (hlt : ∀ x ∈ ps, x.block < w.heap.size) :
    ∃ (A : Option Addr) (cap : Nat) (ss : List Stp), v = .slice A ss.length cap ∧ ss.length ≤ cap ∧ cap ≤ maxLen ∧ HoldsE (StpIn k0 k1 k2 w w.heap.size) 4 w w.heap.size A ss :=
  open_slice_of (StpIn k0 k1 k2 w w.heap.size) 4 ht hc (by omega) (fun _ _ _ h hp => read_iiib he h0 h1 h2 h3 hsz hc h hp) hval h hlt

/-- The steps at A, element by element. -/
theorem stepAt {k0 k1 k2 : IntKind} {w : World} {B : Nat} {A : Option Addr} {ss : List Stp} (h : HoldsE (StpIn k0 k1 k2 w B) 4 w B A ss) {i : Nat} (hi : i < ss.length) :
    ∃ b off : Nat, A = some ⟨b, off, none⟩ ∧ b < B ∧ w.cell? ⟨b, off + i * 4, none⟩ = some (.int k0 ss[i].a) ∧ w.cell? ⟨b, off + i * 4 + 1, none⟩ = some (.int k1 ss[i].b) ∧ w.cell? ⟨b, off + i * 4 + 2, none⟩ = some (.int k2 ss[i].x) ∧
      w.cell? ⟨b, off + i * 4 + 3, none⟩ = some (.slice ss[i].A ss[i].zs.length ss[i].cap) ∧ (Lit.int k0 ss[i].a).wf = true ∧ (Lit.int k1 ss[i].b).wf = true ∧ (Lit.int k2 ss[i].x).wf = true ∧
      ss[i].zs.length ≤ ss[i].cap ∧ ss[i].cap ≤ maxLen ∧ Octets ss[i].zs ∧ Holds w B .u8 ss[i].A ss[i].zs := by
  obtain ⟨b, off, rfl, hb, hc⟩ := h (by omega)
  obtain ⟨cs, ⟨rfl, r1, r2, r3, r4, r5, r6, r7⟩, _, hcs⟩ := hc i ss[i] (List.getElem?_eq_getElem hi)
  exact ⟨b, off, rfl, hb, by simpa using hcs 0 _ rfl, hcs 1 _ rfl, hcs 2 _ rfl, hcs 3 _ rfl, r1, r2, r3, r4, r5, r6, r7⟩

theorem steps_below {k0 k1 k2 : IntKind} {w w' : World} {B : Nat} {A : Option Addr} {ss : List Stp} (h : HoldsE (StpIn k0 k1 k2 w B) 4 w B A ss) (hb : Below B w w') : HoldsE (StpIn k0 k1 k2 w' B) 4 w' B A ss :=
  h.keep (fun _ hp => hb.cell hp) fun _ _ ⟨r0, r1, r2, r3, r4, r5, r6, r7⟩ => ⟨r0, r1, r2, r3, r4, r5, r6, r7.below hb⟩
end
end Go.Proofs.YtpnodocjpedcmaaDoor.Kit

namespace Go.Proofs.YtpnodocjpedcmaaDoor.Prt
open Go.ChangeShapes Go.WideShapes Go.ChangeAt Go.RowKit Go.Proofs.YtpnodocjpedcmaaDoor.Kit

theorem isin_any (x a b : Int) (w : World) : Calls Tryd.prog 96 #[.int .i64 x, .int .i64 a, .int .i64 b] w fun e w' => e = .returned (.bool (decide (a ≤ x ∧ x ≤ b))) ∧ w = w' := by
  by_cases h1 : a ≤ x
  · by_cases h2 : x ≤ b
    · rw [decide_eq_true (show a ≤ x ∧ x ≤ b from ⟨h1, h2⟩)]
      have q : decide (x ≤ b) = true := by simpa using h2
      go_enter Tryd.func96, Tryd.ntmps96
      go_wp2
      go_ret
      exact ⟨rfl, rfl⟩
    · rw [decide_eq_false (show ¬ (a ≤ x ∧ x ≤ b) from fun h => h2 h.2)]
      have q : decide (x ≤ b) = false := by simpa using h2
      go_enter Tryd.func96, Tryd.ntmps96
      go_wp2
      go_ret
      exact ⟨rfl, rfl⟩
  · rw [decide_eq_false (show ¬ (a ≤ x ∧ x ≤ b) from fun h => h1 h.1)]
    go_enter Tryd.func96, Tryd.ntmps96
    go_wp2
    go_ret
    exact ⟨rfl, rfl⟩

theorem grown_alloc {w w' : World} {row : Option Nat} (h : w.grownBy w' row) (o : Obj) : w.grownBy (w'.alloc o) row :=
  ⟨h.os, h.tape, h.output, Nat.le_trans h.size (by simp), fun k hk hne => (Below.heap_alloc w' o k (Nat.lt_of_lt_of_le hk h.size)).trans (h.block k hk hne)⟩
theorem grown_set {w w' : World} {g : Nat} (h : w.grownBy w' (some g)) (i : Nat) (u : Value) : w.grownBy (w'.setCell ⟨g, i, none⟩ u) (some g) :=
  ⟨h.os, h.tape, h.output, by simpa using h.size, fun k hk hne => (Below.heap_setCell w' _ u k (fun e => hne (by rw [e]))).trans (h.block k hk hne)⟩

theorem next_any (g : Nat) (v0 v1 v2 v3 v4 v5 v6 v7 v8 v9 : Value) (a n : Int) (w : World) (hb : Block w g 45 #[v0, v1, v2, v3, v4, v5, v6, v7, v8, v9, .int .i64 a])
    (ha : 0 ≤ a ∧ a ≤ 100000000) (hn : 0 ≤ n ∧ n ≤ 100000000) :
    Calls Tryd.prog 102 #[.int .i64 n, .pointer (some ⟨g, 0, none⟩)] w fun e w' => e = .returned (.agg #[.int .i64 a, .int .i64 n]) ∧ Block w' g 45 #[v0, v1, v2, v3, v4, v5, v6, v7, v8, v9, .int .i64 (a + n)] ∧ w.grownBy w' (some g) := by
  have c10 : w.cell? ⟨g, 10, none⟩ = some (.int .i64 a) := hb.cell 10
  have f10 := hb.frozen 10
  have hlt := hb.lt
  go_enter Tryd.func102, Tryd.ntmps102
  go_wp2
  refine bodyPost_ret (v := .agg #[.int .i64 a, .int .i64 n]) (by simp [results, Tryd.results102, go_sem]) rfl ⟨rfl, ?_, ?_⟩
  · have := ((hb.set_ 10 (.int .i64 (a + n))).alloc (.cells #[.int .i64 a, .int .i64 n] 42)).alloc (.cells #[.int .i64 a, .int .i64 n] 42)
    simpa using this
  · exact grown_alloc (grown_alloc (grown_set (World.grownBy.refl w _) 10 _) _) _

/-- The map of a layout: q sectors a block, s blocks a slot. -/
def mapV (q s : Int) : Value :=
  .agg #[.int .i64 0, .int .i64 1, .int .i64 1, .int .i64 1, .int .i64 2, .int .i64 q, .int .i64 (2 + q), .int .i64 (s * q), .int .i64 (2 + q + s * q), .int .i64 (s * q), .int .i64 (2 + q + s * q + s * q)]

def Gives (v : Value) (w : World) (e : Ending) (w' : World) : Prop := e = .returned v ∧ Below w.heap.size w w'

set_option maxHeartbeats 3200000 in
theorem lay_any (S B s q : Int) (w : World) (hS : 128 ≤ S ∧ S ≤ 4096) (hB : 128 ≤ B ∧ B ≤ 4096) (hs : 1 ≤ s ∧ s ≤ 4096) (hq : B / S = q) :
    Calls Tryd.prog 84 #[.agg #[.int .i64 S, .int .i64 B, .int .i64 s]] w (Gives (mapV q s) w) := by
  have hqb : 0 ≤ q ∧ q ≤ 32 := by
    have h0 : 0 ≤ q := by rw [← hq]; exact Int.ediv_nonneg (by omega) (by omega)
    have h1 : q * S ≤ B := by rw [← hq]; exact Int.ediv_mul_le B (by omega)
    have h2 : q * 128 ≤ q * S := Int.mul_le_mul_of_nonneg_left hS.1 h0
    omega
  have hsq : 0 ≤ s * q ∧ s * q ≤ 131072 := by
    have h1 : s * q ≤ s * 32 := Int.mul_le_mul_of_nonneg_left hqb.2 (by omega)
    exact ⟨Int.mul_nonneg (by omega) hqb.1, by omega⟩
  have hqi : B / S = q := hq
  have hwq : IntKind.i64.wrap (s * q) = s * q := IntWalk.i64_in _ (by omega)
  have bc := ((Block.new w 61 #[.int .i64 S, .int .i64 B, .int .i64 s]).alloc (.cells #[.int .i64 0, .int .i64 0, .int .i64 0, .int .i64 0, .int .i64 0, .int .i64 0, .int .i64 0, .int .i64 0, .int .i64 0, .int .i64 0, .int .i64 0] 45)).alloc (.cells #[.int .i64 0, .int .i64 0, .int .i64 0, .int .i64 0, .int .i64 0, .int .i64 0, .int .i64 0, .int .i64 0, .int .i64 0, .int .i64 0, .int .i64 0] 45)
  have br : Block (((w.alloc (.cells #[.int .i64 S, .int .i64 B, .int .i64 s] 61)).alloc (.cells #[.int .i64 0, .int .i64 0, .int .i64 0, .int .i64 0, .int .i64 0, .int .i64 0, .int .i64 0, .int .i64 0, .int .i64 0, .int .i64 0, .int .i64 0] 45)).alloc (.cells #[.int .i64 0, .int .i64 0, .int .i64 0, .int .i64 0, .int .i64 0, .int .i64 0, .int .i64 0, .int .i64 0, .int .i64 0, .int .i64 0, .int .i64 0] 45)) (w.heap.size + 1) 45 #[.int .i64 0, .int .i64 0, .int .i64 0, .int .i64 0, .int .i64 0, .int .i64 0, .int .i64 0, .int .i64 0, .int .i64 0, .int .i64 0, .int .i64 0] := by
    have := (Block.new (w.alloc (.cells #[.int .i64 S, .int .i64 B, .int .i64 s] 61)) 45 #[.int .i64 0, .int .i64 0, .int .i64 0, .int .i64 0, .int .i64 0, .int .i64 0, .int .i64 0, .int .i64 0, .int .i64 0, .int .i64 0, .int .i64 0]).alloc (.cells #[.int .i64 0, .int .i64 0, .int .i64 0, .int .i64 0, .int .i64 0, .int .i64 0, .int .i64 0, .int .i64 0, .int .i64 0, .int .i64 0, .int .i64 0] 45)
    simpa using this
  have bm : Block (((w.alloc (.cells #[.int .i64 S, .int .i64 B, .int .i64 s] 61)).alloc (.cells #[.int .i64 0, .int .i64 0, .int .i64 0, .int .i64 0, .int .i64 0, .int .i64 0, .int .i64 0, .int .i64 0, .int .i64 0, .int .i64 0, .int .i64 0] 45)).alloc (.cells #[.int .i64 0, .int .i64 0, .int .i64 0, .int .i64 0, .int .i64 0, .int .i64 0, .int .i64 0, .int .i64 0, .int .i64 0, .int .i64 0, .int .i64 0] 45)) (w.heap.size + 1 + 1) 45 #[.int .i64 0, .int .i64 0, .int .i64 0, .int .i64 0, .int .i64 0, .int .i64 0, .int .i64 0, .int .i64 0, .int .i64 0, .int .i64 0, .int .i64 0] := by
    have := Block.new ((w.alloc (.cells #[.int .i64 S, .int .i64 B, .int .i64 s] 61)).alloc (.cells #[.int .i64 0, .int .i64 0, .int .i64 0, .int .i64 0, .int .i64 0, .int .i64 0, .int .i64 0, .int .i64 0, .int .i64 0, .int .i64 0, .int .i64 0] 45)) 45 #[.int .i64 0, .int .i64 0, .int .i64 0, .int .i64 0, .int .i64 0, .int .i64 0, .int .i64 0, .int .i64 0, .int .i64 0, .int .i64 0, .int .i64 0]
    simpa using this
  have hb0 : Below w.heap.size w (((w.alloc (.cells #[.int .i64 S, .int .i64 B, .int .i64 s] 61)).alloc (.cells #[.int .i64 0, .int .i64 0, .int .i64 0, .int .i64 0, .int .i64 0, .int .i64 0, .int .i64 0, .int .i64 0, .int .i64 0, .int .i64 0, .int .i64 0] 45)).alloc (.cells #[.int .i64 0, .int .i64 0, .int .i64 0, .int .i64 0, .int .i64 0, .int .i64 0, .int .i64 0, .int .i64 0, .int .i64 0, .int .i64 0, .int .i64 0] 45)) := (((Below.refl _ _).alloc (Nat.le_refl _) _).alloc (by simp) _).alloc (by simp; omega) _
  have HQ := Lib.hid hq
  clear hq
  go_enter Tryd.func84, Tryd.ntmps84
  go_wp2_with fail
  generalize (((w.alloc (.cells #[.int .i64 S, .int .i64 B, .int .i64 s] 61)).alloc (.cells #[.int .i64 0, .int .i64 0, .int .i64 0, .int .i64 0, .int .i64 0, .int .i64 0, .int .i64 0, .int .i64 0, .int .i64 0, .int .i64 0, .int .i64 0] 45)).alloc (.cells #[.int .i64 0, .int .i64 0, .int .i64 0, .int .i64 0, .int .i64 0, .int .i64 0, .int .i64 0, .int .i64 0, .int .i64 0, .int .i64 0, .int .i64 0] 45)) = w0 at *
  refine (next_any _ _ _ _ _ _ _ _ _ _ _ 0 1 w0 bm (by omega) (by omega)).mono ?_
  rintro e w1 ⟨rfl, b1, g1⟩
  have bc1 := bc.grown g1 (by intro h; injection h with h; omega)
  have br1 := br.grown g1 (by intro h; injection h with h; omega)
  have hb1 := hb0.grown g1 hb0.size (fun k hk => by injection hk with hk; omega)
  clear bm bc br hb0 g1
  go_wp2_with fail
  refine (next_any _ _ _ _ _ _ _ _ _ _ _ (0 + 1) 1 w1 b1 (by omega) (by omega)).mono ?_
  rintro e w2 ⟨rfl, b2, g2⟩
  have bc2 := bc1.grown g2 (by intro h; injection h with h; omega)
  have br2 := br1.grown g2 (by intro h; injection h with h; omega)
  have hb2 := hb1.grown g2 hb1.size (fun k hk => by injection hk with hk; omega)
  clear b1 bc1 br1 hb1 g2
  have k0 : w2.cell? ⟨w.heap.size + 1 + 1, 0, none⟩ = some (.int .i64 0) := b2.cell 0
  have k1 : w2.cell? ⟨w.heap.size + 1 + 1, 1, none⟩ = some (.int .i64 0) := b2.cell 1
  have k2 : w2.cell? ⟨w.heap.size + 1 + 1, 2, none⟩ = some (.int .i64 0) := b2.cell 2
  have k3 : w2.cell? ⟨w.heap.size + 1 + 1, 3, none⟩ = some (.int .i64 0) := b2.cell 3
  have ff := fun i => b2.frozen i
  have q0 : w2.cell? ⟨w.heap.size, 0, none⟩ = some (.int .i64 S) := bc2.cell 0
  have q1 : w2.cell? ⟨w.heap.size, 1, none⟩ = some (.int .i64 B) := bc2.cell 1
  have q2 : w2.cell? ⟨w.heap.size, 2, none⟩ = some (.int .i64 s) := bc2.cell 2
  go_wp2_with fail
  have b3 := (((b2.set_ 0 (.int .i64 0)).set_ 1 (.int .i64 1)).set_ 2 (.int .i64 1)).set_ 3 (.int .i64 1)
  have bc3 := (((bc2.far (p := ⟨w.heap.size + 1 + 1, 0, none⟩) (by simp; omega) (.int .i64 0)).far (p := ⟨w.heap.size + 1 + 1, 1, none⟩) (by simp; omega) (.int .i64 1)).far (p := ⟨w.heap.size + 1 + 1, 2, none⟩) (by simp; omega) (.int .i64 1)).far (p := ⟨w.heap.size + 1 + 1, 3, none⟩) (by simp; omega) (.int .i64 1)
  have br3 := (((br2.far (p := ⟨w.heap.size + 1 + 1, 0, none⟩) (by simp) (.int .i64 0)).far (p := ⟨w.heap.size + 1 + 1, 1, none⟩) (by simp) (.int .i64 1)).far (p := ⟨w.heap.size + 1 + 1, 2, none⟩) (by simp) (.int .i64 1)).far (p := ⟨w.heap.size + 1 + 1, 3, none⟩) (by simp) (.int .i64 1)
  have hb3 := (((hb2.setCell (p := ⟨w.heap.size + 1 + 1, 0, none⟩) (by simp; omega) (.int .i64 0)).setCell (p := ⟨w.heap.size + 1 + 1, 1, none⟩) (by simp; omega) (.int .i64 1)).setCell (p := ⟨w.heap.size + 1 + 1, 2, none⟩) (by simp; omega) (.int .i64 1)).setCell (p := ⟨w.heap.size + 1 + 1, 3, none⟩) (by simp; omega) (.int .i64 1)
  generalize (((w2.setCell ⟨w.heap.size + 1 + 1, 0, none⟩ (.int .i64 0)).setCell ⟨w.heap.size + 1 + 1, 1, none⟩ (.int .i64 1)).setCell ⟨w.heap.size + 1 + 1, 2, none⟩ (.int .i64 1)).setCell ⟨w.heap.size + 1 + 1, 3, none⟩ (.int .i64 1) = w3 at *
  clear b2 bc2 br2 hb2 k0 k1 k2 k3 ff q0 q1 q2
  refine (next_any _ _ _ _ _ _ _ _ _ _ _ (0 + 1 + 1) q w3 b3 (by omega) (by omega)).mono ?_
  rintro e w4 ⟨rfl, b4, g4⟩
  have bc4 := bc3.grown g4 (by intro h; injection h with h; omega)
  have br4 := br3.grown g4 (by intro h; injection h with h; omega)
  have hb4 := hb3.grown g4 hb3.size (fun k hk => by injection hk with hk; omega)
  clear b3 bc3 br3 hb3 g4
  have k4 : w4.cell? ⟨w.heap.size + 1 + 1, 4, none⟩ = some (.int .i64 0) := b4.cell 4
  have k5 : w4.cell? ⟨w.heap.size + 1 + 1, 5, none⟩ = some (.int .i64 0) := b4.cell 5
  have ff := fun i => b4.frozen i
  go_wp2_with fail
  have b5 := (b4.set_ 4 (.int .i64 2)).set_ 5 (.int .i64 q)
  have bc5 := (bc4.far (p := ⟨w.heap.size + 1 + 1, 4, none⟩) (by simp; omega) (.int .i64 2)).far (p := ⟨w.heap.size + 1 + 1, 5, none⟩) (by simp; omega) (.int .i64 q)
  have br5 := (br4.far (p := ⟨w.heap.size + 1 + 1, 4, none⟩) (by simp) (.int .i64 2)).far (p := ⟨w.heap.size + 1 + 1, 5, none⟩) (by simp) (.int .i64 q)
  have hb5 := (hb4.setCell (p := ⟨w.heap.size + 1 + 1, 4, none⟩) (by simp; omega) (.int .i64 2)).setCell (p := ⟨w.heap.size + 1 + 1, 5, none⟩) (by simp; omega) (.int .i64 q)
  generalize (w4.setCell ⟨w.heap.size + 1 + 1, 4, none⟩ (.int .i64 2)).setCell ⟨w.heap.size + 1 + 1, 5, none⟩ (.int .i64 q) = w5 at *
  clear b4 bc4 br4 hb4 k4 k5 ff
  have q2 : w5.cell? ⟨w.heap.size, 2, none⟩ = some (.int .i64 s) := bc5.cell 2
  have b5' := b5.drewN 1
  have bc5' := bc5.drewN 1
  have br5' := br5.drewN 1
  have hb5' := below_draws hb5 1
  go_region_held3 (fun W' => W'.cell? ⟨w.heap.size, 2, none⟩ = some (.int .i64 s))
    (first | exact q2 | exact bc6.cell 2 | exact bc7.cell 2 | (rw [World.cell?_setCell_far _ _ _ _ (by simp; omega), World.cell?_setCell_far _ _ _ _ (by simp; omega), World.cell?_setCell_far _ _ _ _ (by simp; omega), World.cell?_setCell_far _ _ _ _ (by simp; omega)]; exact q7))
    (first
      | (go_at_call 102; have _t := b6; refine (next_any _ _ _ _ _ _ _ _ _ _ _ (0 + 1 + 1 + q + s * q) (s * q) w6 b6 (by omega) (by omega)).mono ?_; clear _t; rintro e w7 ⟨rfl, b7, g7⟩; have bc7 := bc6.grown g7 (by intro h; injection h with h; omega); have q7 : w7.cell? ⟨w.heap.size, 2, none⟩ = some (.int .i64 s) := bc7.cell 2; have k6 : w7.cell? ⟨w.heap.size + 1 + 1, 6, none⟩ = some (.int .i64 0) := b7.cell 6; have k7 : w7.cell? ⟨w.heap.size + 1 + 1, 7, none⟩ = some (.int .i64 0) := b7.cell 7; have k8 : w7.cell? ⟨w.heap.size + 1 + 1, 8, none⟩ = some (.int .i64 0) := b7.cell 8; have k9 : w7.cell? ⟨w.heap.size + 1 + 1, 9, none⟩ = some (.int .i64 0) := b7.cell 9; have ff7 := fun i => b7.frozen i)
      | (go_at_call 102; refine (next_any _ _ _ _ _ _ _ _ _ _ _ (0 + 1 + 1 + q) (s * q) w5.drew b5' (by omega) (by omega)).mono ?_; rintro e w6 ⟨rfl, b6, g6⟩; have bc6 := bc5'.grown g6 (by intro h; injection h with h; omega)))
  have br7 := (br5'.grown g6 (by intro h; injection h with h; omega)).grown g7 (by intro h; injection h with h; omega)
  have hb6 := hb5'.grown g6 hb5'.size (fun k hk => by injection hk with hk; omega)
  have hb7 := hb6.grown g7 hb6.size (fun k hk => by injection hk with hk; omega)
  have b8 := (((b7.set_ 6 (.int .i64 (2 + q))).set_ 7 (.int .i64 (s * q))).set_ 8 (.int .i64 (2 + q + s * q))).set_ 9 (.int .i64 (s * q))
  have br8 := (((br7.far (p := ⟨w.heap.size + 1 + 1, 6, none⟩) (by simp) (.int .i64 (2 + q))).far (p := ⟨w.heap.size + 1 + 1, 7, none⟩) (by simp) (.int .i64 (s * q))).far (p := ⟨w.heap.size + 1 + 1, 8, none⟩) (by simp) (.int .i64 (2 + q + s * q))).far (p := ⟨w.heap.size + 1 + 1, 9, none⟩) (by simp) (.int .i64 (s * q))
  have hb8 := (((hb7.setCell (p := ⟨w.heap.size + 1 + 1, 6, none⟩) (by simp; omega) (.int .i64 (2 + q))).setCell (p := ⟨w.heap.size + 1 + 1, 7, none⟩) (by simp; omega) (.int .i64 (s * q))).setCell (p := ⟨w.heap.size + 1 + 1, 8, none⟩) (by simp; omega) (.int .i64 (2 + q + s * q))).setCell (p := ⟨w.heap.size + 1 + 1, 9, none⟩) (by simp; omega) (.int .i64 (s * q))
  generalize (((w7.setCell ⟨w.heap.size + 1 + 1, 6, none⟩ (.int .i64 (2 + q))).setCell ⟨w.heap.size + 1 + 1, 7, none⟩ (.int .i64 (s * q))).setCell ⟨w.heap.size + 1 + 1, 8, none⟩ (.int .i64 (2 + q + s * q))).setCell ⟨w.heap.size + 1 + 1, 9, none⟩ (.int .i64 (s * q)) = w8 at *
  clear b5 bc5 br5 hb5 b5' bc5' br5' hb5' q2 b6 bc6 g6 b7 bc7 g7 q7 k6 k7 k8 k9 ff7 br7 hb6 hb7
  have m0 : w8.cell? ⟨w.heap.size + 1 + 1, 0, none⟩ = some (.int .i64 0) := b8.cell 0
  have m1 : w8.cell? ⟨w.heap.size + 1 + 1, 1, none⟩ = some (.int .i64 1) := b8.cell 1
  have m2 : w8.cell? ⟨w.heap.size + 1 + 1, 2, none⟩ = some (.int .i64 1) := b8.cell 2
  have m3 : w8.cell? ⟨w.heap.size + 1 + 1, 3, none⟩ = some (.int .i64 1) := b8.cell 3
  have m4 : w8.cell? ⟨w.heap.size + 1 + 1, 4, none⟩ = some (.int .i64 2) := b8.cell 4
  have m5 : w8.cell? ⟨w.heap.size + 1 + 1, 5, none⟩ = some (.int .i64 q) := b8.cell 5
  have m6 : w8.cell? ⟨w.heap.size + 1 + 1, 6, none⟩ = some (.int .i64 (2 + q)) := b8.cell 6
  have m7 : w8.cell? ⟨w.heap.size + 1 + 1, 7, none⟩ = some (.int .i64 (s * q)) := b8.cell 7
  have m8 : w8.cell? ⟨w.heap.size + 1 + 1, 8, none⟩ = some (.int .i64 (2 + q + s * q)) := b8.cell 8
  have m9 : w8.cell? ⟨w.heap.size + 1 + 1, 9, none⟩ = some (.int .i64 (s * q)) := b8.cell 9
  have m10 : w8.cell? ⟨w.heap.size + 1 + 1, 10, none⟩ = some (.int .i64 (2 + q + s * q + s * q)) := by have := b8.cell 10; simpa using this
  have r0 : w8.cell? ⟨w.heap.size + 1, 0, none⟩ = some (.int .i64 0) := br8.cell 0
  have r1 : w8.cell? ⟨w.heap.size + 1, 1, none⟩ = some (.int .i64 0) := br8.cell 1
  have r2 : w8.cell? ⟨w.heap.size + 1, 2, none⟩ = some (.int .i64 0) := br8.cell 2
  have r3 : w8.cell? ⟨w.heap.size + 1, 3, none⟩ = some (.int .i64 0) := br8.cell 3
  have r4 : w8.cell? ⟨w.heap.size + 1, 4, none⟩ = some (.int .i64 0) := br8.cell 4
  have r5 : w8.cell? ⟨w.heap.size + 1, 5, none⟩ = some (.int .i64 0) := br8.cell 5
  have r6 : w8.cell? ⟨w.heap.size + 1, 6, none⟩ = some (.int .i64 0) := br8.cell 6
  have r7 : w8.cell? ⟨w.heap.size + 1, 7, none⟩ = some (.int .i64 0) := br8.cell 7
  have r8 : w8.cell? ⟨w.heap.size + 1, 8, none⟩ = some (.int .i64 0) := br8.cell 8
  have r9 : w8.cell? ⟨w.heap.size + 1, 9, none⟩ = some (.int .i64 0) := br8.cell 9
  have r10 : w8.cell? ⟨w.heap.size + 1, 10, none⟩ = some (.int .i64 0) := br8.cell 10
  have fr := fun i => br8.frozen i
  clear b8
  go_wp2_with fail
  have b9 := (((((((((((br8.set_ 0 (.int .i64 0)).set_ 1 (.int .i64 1)).set_ 2 (.int .i64 1)).set_ 3 (.int .i64 1)).set_ 4 (.int .i64 2)).set_ 5 (.int .i64 q)).set_ 6 (.int .i64 (2 + q))).set_ 7 (.int .i64 (s * q))).set_ 8 (.int .i64 (2 + q + s * q))).set_ 9 (.int .i64 (s * q))).set_ 10 (.int .i64 (2 + q + s * q + s * q)))
  have hb9 := (((((((((((hb8.setCell (p := ⟨w.heap.size + 1, 0, none⟩) (by simp) (.int .i64 0)).setCell (p := ⟨w.heap.size + 1, 1, none⟩) (by simp) (.int .i64 1)).setCell (p := ⟨w.heap.size + 1, 2, none⟩) (by simp) (.int .i64 1)).setCell (p := ⟨w.heap.size + 1, 3, none⟩) (by simp) (.int .i64 1)).setCell (p := ⟨w.heap.size + 1, 4, none⟩) (by simp) (.int .i64 2)).setCell (p := ⟨w.heap.size + 1, 5, none⟩) (by simp) (.int .i64 q)).setCell (p := ⟨w.heap.size + 1, 6, none⟩) (by simp) (.int .i64 (2 + q))).setCell (p := ⟨w.heap.size + 1, 7, none⟩) (by simp) (.int .i64 (s * q))).setCell (p := ⟨w.heap.size + 1, 8, none⟩) (by simp) (.int .i64 (2 + q + s * q))).setCell (p := ⟨w.heap.size + 1, 9, none⟩) (by simp) (.int .i64 (s * q))).setCell (p := ⟨w.heap.size + 1, 10, none⟩) (by simp) (.int .i64 (2 + q + s * q + s * q)))
  generalize (((((((((((w8.setCell ⟨w.heap.size + 1, 0, none⟩ (.int .i64 0)).setCell ⟨w.heap.size + 1, 1, none⟩ (.int .i64 1)).setCell ⟨w.heap.size + 1, 2, none⟩ (.int .i64 1)).setCell ⟨w.heap.size + 1, 3, none⟩ (.int .i64 1)).setCell ⟨w.heap.size + 1, 4, none⟩ (.int .i64 2)).setCell ⟨w.heap.size + 1, 5, none⟩ (.int .i64 q)).setCell ⟨w.heap.size + 1, 6, none⟩ (.int .i64 (2 + q))).setCell ⟨w.heap.size + 1, 7, none⟩ (.int .i64 (s * q))).setCell ⟨w.heap.size + 1, 8, none⟩ (.int .i64 (2 + q + s * q))).setCell ⟨w.heap.size + 1, 9, none⟩ (.int .i64 (s * q))).setCell ⟨w.heap.size + 1, 10, none⟩ (.int .i64 (2 + q + s * q + s * q))) = w9 at *
  have e0 : w9.cell? ⟨w.heap.size + 1, 0, none⟩ = some (.int .i64 0) := b9.cell 0
  have e1 : w9.cell? ⟨w.heap.size + 1, 1, none⟩ = some (.int .i64 1) := b9.cell 1
  have e2 : w9.cell? ⟨w.heap.size + 1, 2, none⟩ = some (.int .i64 1) := b9.cell 2
  have e3 : w9.cell? ⟨w.heap.size + 1, 3, none⟩ = some (.int .i64 1) := b9.cell 3
  have e4 : w9.cell? ⟨w.heap.size + 1, 4, none⟩ = some (.int .i64 2) := b9.cell 4
  have e5 : w9.cell? ⟨w.heap.size + 1, 5, none⟩ = some (.int .i64 q) := b9.cell 5
  have e6 : w9.cell? ⟨w.heap.size + 1, 6, none⟩ = some (.int .i64 (2 + q)) := b9.cell 6
  have e7 : w9.cell? ⟨w.heap.size + 1, 7, none⟩ = some (.int .i64 (s * q)) := b9.cell 7
  have e8 : w9.cell? ⟨w.heap.size + 1, 8, none⟩ = some (.int .i64 (2 + q + s * q)) := b9.cell 8
  have e9 : w9.cell? ⟨w.heap.size + 1, 9, none⟩ = some (.int .i64 (s * q)) := b9.cell 9
  have e10 : w9.cell? ⟨w.heap.size + 1, 10, none⟩ = some (.int .i64 (2 + q + s * q + s * q)) := b9.cell 10
  refine bodyPost_ret (v := mapV q s) ?_ rfl ⟨rfl, hb9⟩
  unfold mapV
  simp [results, Tryd.results84, go_sem, e0, e1, e2, e3, e4, e5, e6, e7, e8, e9, e10]
end Go.Proofs.YtpnodocjpedcmaaDoor.Prt

namespace Go.Proofs.YtpnodocjpedcmaaDoor.Prt
open Go.ChangeShapes Go.WideShapes Go.ChangeAt Go.RowKit Go.Proofs.YtpnodocjpedcmaaDoor.Kit

theorem isin_yes (x a b : Int) (w : World) (h : a ≤ x ∧ x ≤ b) : Calls Tryd.prog 96 #[.int .i64 x, .int .i64 a, .int .i64 b] w fun e w' => e = .returned (.bool true) ∧ w = w' := by
  have := isin_any x a b w
  rwa [decide_eq_true h] at this
theorem isin_no (x a b : Int) (w : World) (h : ¬ (a ≤ x ∧ x ≤ b)) : Calls Tryd.prog 96 #[.int .i64 x, .int .i64 a, .int .i64 b] w fun e w' => e = .returned (.bool false) ∧ w = w' := by
  have := isin_any x a b w
  rwa [decide_eq_false h] at this

theorem field3 (v0 v1 v2 v3 v4 v5 v6 v7 v8 v9 v10 : Value) (w : World) : (Instr.field 45 (.agg #[v0, v1, v2, v3, v4, v5, v6, v7, v8, v9, v10]) 3).run Tryd.prog w = .ok v10 w := by kernel_rfl

def mayB (S B s : Int) : Bool := decide ((128 ≤ S ∧ S ≤ 4096) ∧ (128 ≤ B ∧ B ≤ 4096) ∧ B % S = 0 ∧ (1 ≤ s ∧ s ≤ 4096) ∧ 2 + B / S + s * (B / S) + s * (B / S) ≤ 1048576)

set_option maxRecDepth 100000 in
set_option maxHeartbeats 1600000 in
theorem may_any (S B s : Int) (w : World) : Calls Tryd.prog 83 #[.agg #[.int .i64 S, .int .i64 B, .int .i64 s]] w (Gives (.bool (mayB S B s)) w) := by
  have hb0 : Below w.heap.size w (w.alloc (.cells #[.int .i64 S, .int .i64 B, .int .i64 s] 61)) := (Below.refl _ _).alloc (Nat.le_refl _) _
  have out : ∀ P : Prop, (mayB S B s = true → P) → ¬ P → mayB S B s = false := fun P h hn => by
    cases hm : mayB S B s with
    | false => rfl
    | true => exact absurd (h hm) hn
  have hd : mayB S B s = true → (128 ≤ S ∧ S ≤ 4096) ∧ (128 ≤ B ∧ B ≤ 4096) ∧ B % S = 0 ∧ (1 ≤ s ∧ s ≤ 4096) ∧ 2 + B / S + s * (B / S) + s * (B / S) ≤ 1048576 := fun h => of_decide_eq_true h
  by_cases h1 : 128 ≤ S ∧ S ≤ 4096
  · by_cases h2 : 128 ≤ B ∧ B ≤ 4096
    · by_cases h3 : B % S = 0
      · have q3 : (B % S == 0) = true := by simpa using h3
        by_cases h4 : 1 ≤ s ∧ s ≤ 4096
        · obtain ⟨q, hq⟩ : ∃ q, B / S = q := ⟨_, rfl⟩
          have gl := fun W => lay_any S B s q W h1 h2 h4 hq
          unfold mapV at gl
          have hf3 := field3
          have GL := Lib.hid gl
          by_cases h5 : 2 + q + s * q + s * q ≤ 1048576
          · have hm : mayB S B s = true := decide_eq_true ⟨h1, h2, h3, h4, by rw [hq]; exact h5⟩
            rw [hm]
            clear hm out hd hq h3 gl
            go_enter Tryd.func83, Tryd.ntmps83
            go_wp2_with (first
              | (go_at_call 96; refine (isin_yes _ _ _ _ (by omega)).mono ?_; rintro e w' ⟨rfl, rfl⟩)
              | (go_at_call 84; refine (GL.out _).mono ?_; rintro e w2 ⟨rfl, hb2⟩))
            go_ret
            exact ⟨rfl, hb0.trans (hb2.mono (by simp))⟩
          · have hm : mayB S B s = false := out _ hd (fun h => h5 (by have := h.2.2.2.2; rwa [hq] at this))
            rw [hm]
            clear hm out hd hq h3 gl
            go_enter Tryd.func83, Tryd.ntmps83
            have q5 : decide (2 + q + s * q + s * q ≤ 1048576) = false := by simpa using h5
            go_wp2_with (first
              | (go_at_call 96; refine (isin_yes _ _ _ _ (by omega)).mono ?_; rintro e w' ⟨rfl, rfl⟩)
              | (go_at_call 84; refine (GL.out _).mono ?_; rintro e w2 ⟨rfl, hb2⟩))
            go_ret
            exact ⟨rfl, hb0.trans (hb2.mono (by simp))⟩
        · have hm : mayB S B s = false := out _ hd (fun h => h4 h.2.2.2.1)
          rw [hm]
          clear hm out hd h3
          have H4 := Lib.hid h4
          clear h4
          go_enter Tryd.func83, Tryd.ntmps83
          go_wp2_with (first
            | (go_at_call 96; refine (isin_yes _ _ _ _ (by omega)).mono ?_; rintro e w' ⟨rfl, rfl⟩)
            | (go_at_call 96; refine (isin_no _ _ _ _ H4.out).mono ?_; rintro e w' ⟨rfl, rfl⟩))
          go_ret
          exact ⟨rfl, hb0⟩
      · have hm : mayB S B s = false := out _ hd (fun h => h3 h.2.2.1)
        have q3 : (B % S == 0) = false := by simpa using h3
        rw [hm]
        clear hm out hd h3
        go_enter Tryd.func83, Tryd.ntmps83
        go_wp2_with (go_at_call 96; refine (isin_yes _ _ _ _ (by omega)).mono ?_; rintro e w' ⟨rfl, rfl⟩)
        go_ret
        exact ⟨rfl, hb0⟩
    · have hm : mayB S B s = false := out _ hd (fun h => h2 h.2.1)
      rw [hm]
      clear hm out hd
      have H2 := Lib.hid h2
      clear h2
      go_enter Tryd.func83, Tryd.ntmps83
      go_wp2_with (first
        | (go_at_call 96; refine (isin_yes _ _ _ _ (by omega)).mono ?_; rintro e w' ⟨rfl, rfl⟩)
        | (go_at_call 96; refine (isin_no _ _ _ _ H2.out).mono ?_; rintro e w' ⟨rfl, rfl⟩))
      go_ret
      exact ⟨rfl, hb0⟩
  · have hm : mayB S B s = false := out _ hd (fun h => h1 h.1)
    rw [hm]
    clear hm out hd
    have H1 := Lib.hid h1
    clear h1
    go_enter Tryd.func83, Tryd.ntmps83
    go_wp2_with (go_at_call 96; refine (isin_no _ _ _ _ H1.out).mono ?_; rintro e w' ⟨rfl, rfl⟩)
    go_ret
    exact ⟨rfl, hb0⟩
end Go.Proofs.YtpnodocjpedcmaaDoor.Prt

namespace Go.Proofs.YtpnodocjpedcmaaDoor.Prt
open Go.ChangeShapes Go.WideShapes Go.ChangeAt Go.RowKit Go.Proofs.YtpnodocjpedcmaaDoor.Kit

set_option maxRecDepth 100000 in
set_option maxHeartbeats 3200000 in
theorem rmay_any (S B s : Int) (w : World) : Calls Tryd.prog 39 #[.agg #[.int .i64 S, .int .i64 B, .int .i64 s]] w (Gives (.bool (mayB S B s)) w) := by
  have hb0 : Below w.heap.size w (w.alloc (.cells #[.int .i64 S, .int .i64 B, .int .i64 s] 61)) := (Below.refl _ _).alloc (Nat.le_refl _) _
  have blk := Block.new w 61 #[.int .i64 S, .int .i64 B, .int .i64 s]
  have out : ∀ P : Prop, (mayB S B s = true → P) → ¬ P → mayB S B s = false := fun P h hn => by
    cases hm : mayB S B s with
    | false => rfl
    | true => exact absurd (h hm) hn
  have hd : mayB S B s = true → (128 ≤ S ∧ S ≤ 4096) ∧ (128 ≤ B ∧ B ≤ 4096) ∧ B % S = 0 ∧ (1 ≤ s ∧ s ≤ 4096) ∧ 2 + B / S + s * (B / S) + s * (B / S) ≤ 1048576 := fun h => of_decide_eq_true h
  by_cases h0 : S < 128
  · rw [out _ hd (by omega)]
    clear out hd blk
    go_enter Tryd.func39, Tryd.ntmps39
    go_wp2
    go_ret
    exact ⟨rfl, hb0⟩
  by_cases h1 : 4096 < S
  · rw [out _ hd (by omega)]
    clear out hd blk
    go_enter Tryd.func39, Tryd.ntmps39
    go_wp2
    go_ret
    exact ⟨rfl, hb0⟩
  by_cases h2 : B < 128
  · rw [out _ hd (by omega)]
    clear out hd blk
    go_enter Tryd.func39, Tryd.ntmps39
    go_wp2
    go_ret
    exact ⟨rfl, hb0⟩
  by_cases h3 : 4096 < B
  · rw [out _ hd (by omega)]
    clear out hd blk
    go_enter Tryd.func39, Tryd.ntmps39
    go_wp2
    go_ret
    exact ⟨rfl, hb0⟩
  by_cases h4 : s < 1
  · rw [out _ hd (by omega)]
    clear out hd blk
    go_enter Tryd.func39, Tryd.ntmps39
    go_wp2
    go_ret
    exact ⟨rfl, hb0⟩
  by_cases h5 : 4096 < s
  · rw [out _ hd (by omega)]
    clear out hd blk
    go_enter Tryd.func39, Tryd.ntmps39
    go_wp2
    go_ret
    exact ⟨rfl, hb0⟩
  by_cases h6 : B % S = 0
  · have q6 : (B % S != 0) = false := by simpa using h6
    obtain ⟨q, hq⟩ : ∃ q, B / S = q := ⟨_, rfl⟩
    have hqb : 0 ≤ q ∧ q ≤ 32 := by
      have h0 : 0 ≤ q := by rw [← hq]; exact Int.ediv_nonneg (by omega) (by omega)
      have h1 : q * S ≤ B := by rw [← hq]; exact Int.ediv_mul_le B (by omega)
      have h2 : q * 128 ≤ q * S := Int.mul_le_mul_of_nonneg_left (by omega) h0
      omega
    have hsq : 0 ≤ s * q ∧ s * q ≤ 131072 := by
      have h1 : s * q ≤ s * 32 := Int.mul_le_mul_of_nonneg_left hqb.2 (by omega)
      exact ⟨Int.mul_nonneg (by omega) hqb.1, by omega⟩
    have h2sq : 2 * s * q = s * q + s * q := by rw [Int.mul_assoc, Int.two_mul]
    obtain ⟨p, hp⟩ : ∃ p, 2 * s * q = p := ⟨_, rfl⟩
    have hpb : 0 ≤ p ∧ p ≤ 262144 := by omega
    have hwp : IntKind.i64.wrap p = p := IntWalk.i64_in _ (by omega)
    have c0 : (w.alloc (.cells #[.int .i64 S, .int .i64 B, .int .i64 s] 61)).cell? ⟨w.heap.size, 0, none⟩ = some (.int .i64 S) := blk.cell 0
    have c1 : (w.alloc (.cells #[.int .i64 S, .int .i64 B, .int .i64 s] 61)).cell? ⟨w.heap.size, 1, none⟩ = some (.int .i64 B) := blk.cell 1
    have c2 : (w.alloc (.cells #[.int .i64 S, .int .i64 B, .int .i64 s] 61)).cell? ⟨w.heap.size, 2, none⟩ = some (.int .i64 s) := blk.cell 2
    have e : mayB S B s = decide (2 + q + p ≤ 1048576) := by
      unfold mayB
      rw [hq]
      by_cases h7 : 2 + q + p ≤ 1048576
      · rw [decide_eq_true h7, decide_eq_true (show _ from ⟨by omega, by omega, h6, by omega, by omega⟩)]
      · rw [decide_eq_false h7, decide_eq_false (fun h => h7 (by have := h.2.2.2.2; omega))]
    rw [e]
    clear out hd blk h6 h2sq hsq e
    go_enter Tryd.func39, Tryd.ntmps39
    go_wp2_with fail
    go_quiet (fail)
    go_wp2_with fail
    go_ret
    exact ⟨rfl, below_draws hb0 _⟩
  · have q6 : (B % S != 0) = true := by simpa using h6
    rw [out _ hd (by omega)]
    clear out hd blk h6
    go_enter Tryd.func39, Tryd.ntmps39
    go_wp2
    go_ret
    exact ⟨rfl, hb0⟩
end Go.Proofs.YtpnodocjpedcmaaDoor.Prt

namespace Go.Proofs.YtpnodocjpedcmaaDoor.Prt
open Go.ChangeShapes Go.WideShapes Go.ChangeAt Go.RowKit Go.Proofs.YtpnodocjpedcmaaDoor.Kit

theorem q_bd (S B s q : Int) (hS : 128 ≤ S ∧ S ≤ 4096) (hB : 128 ≤ B ∧ B ≤ 4096) (hs : 1 ≤ s ∧ s ≤ 4096) (hq : B / S = q) : (1 ≤ S → 0 ≤ q ∧ q ≤ 32) ∧ 0 ≤ s * q ∧ s * q ≤ 131072 := by
  have h0 : 0 ≤ q := by rw [← hq]; exact Int.ediv_nonneg (by omega) (by omega)
  have h1 : q * S ≤ B := by rw [← hq]; exact Int.ediv_mul_le B (by omega)
  have h2 : q * 128 ≤ q * S := Int.mul_le_mul_of_nonneg_left hS.1 h0
  have h3 : s * q ≤ s * 32 := Int.mul_le_mul_of_nonneg_left (show q ≤ 32 by omega) (by omega)
  exact ⟨fun _ => ⟨h0, by omega⟩, Int.mul_nonneg (by omega) h0, by omega⟩

set_option maxRecDepth 100000 in
set_option maxHeartbeats 1600000 in
theorem rlayout_any (S B s q : Int) (w : World) (hS : 128 ≤ S ∧ S ≤ 4096) (hB : 128 ≤ B ∧ B ≤ 4096) (hs : 1 ≤ s ∧ s ≤ 4096) (hq : B / S = q) :
    Calls Tryd.prog 27 #[.agg #[.int .i64 S, .int .i64 B, .int .i64 s]] w (Gives (mapV q s) w) := by
  obtain ⟨hqb, hsq⟩ := q_bd S B s q hS hB hs hq
  have hqb := hqb (by omega)
  obtain ⟨p, hp⟩ : ∃ p, s * q = p := ⟨_, rfl⟩
  unfold mapV
  rw [hp] at hsq ⊢
  have hp2 : q * s = p := by rw [Int.mul_comm]; exact hp
  have hwp : IntKind.i64.wrap p = p := IntWalk.i64_in _ (by omega)
  have hall : 2 + q + 2 * p = 2 + q + p + p := by omega
  clear hp
  go_enter Tryd.func27, Tryd.ntmps27
  go_wp2
  have blk := Block.new (w.alloc (.cells #[.int .i64 S, .int .i64 B, .int .i64 s] 61)) 45 #[.int .i64 0, .int .i64 1, .int .i64 1, .int .i64 1, .int .i64 2, .int .i64 q, .int .i64 (2 + q), .int .i64 p, .int .i64 (2 + q + p), .int .i64 p, .int .i64 (2 + q + p + p)]
  have hb : Below w.heap.size w ((w.alloc (.cells #[.int .i64 S, .int .i64 B, .int .i64 s] 61)).alloc (.cells #[.int .i64 0, .int .i64 1, .int .i64 1, .int .i64 1, .int .i64 2, .int .i64 q, .int .i64 (2 + q), .int .i64 p, .int .i64 (2 + q + p), .int .i64 p, .int .i64 (2 + q + p + p)] 45)) := ((Below.refl _ _).alloc (Nat.le_refl _) _).alloc (by simp) _
  generalize (w.alloc (.cells #[.int .i64 S, .int .i64 B, .int .i64 s] 61)).alloc (.cells #[.int .i64 0, .int .i64 1, .int .i64 1, .int .i64 1, .int .i64 2, .int .i64 q, .int .i64 (2 + q), .int .i64 p, .int .i64 (2 + q + p), .int .i64 p, .int .i64 (2 + q + p + p)] 45) = w9 at *
  have hsz : (w.alloc (.cells #[.int .i64 S, .int .i64 B, .int .i64 s] 61)).heap.size = w.heap.size + 1 := by simp
  rw [hsz] at blk
  have e0 : w9.cell? ⟨w.heap.size + 1, 0, none⟩ = some (.int .i64 0) := blk.cell 0
  have e1 : w9.cell? ⟨w.heap.size + 1, 1, none⟩ = some (.int .i64 1) := blk.cell 1
  have e2 : w9.cell? ⟨w.heap.size + 1, 2, none⟩ = some (.int .i64 1) := blk.cell 2
  have e3 : w9.cell? ⟨w.heap.size + 1, 3, none⟩ = some (.int .i64 1) := blk.cell 3
  have e4 : w9.cell? ⟨w.heap.size + 1, 4, none⟩ = some (.int .i64 2) := blk.cell 4
  have e5 : w9.cell? ⟨w.heap.size + 1, 5, none⟩ = some (.int .i64 q) := blk.cell 5
  have e6 : w9.cell? ⟨w.heap.size + 1, 6, none⟩ = some (.int .i64 (2 + q)) := blk.cell 6
  have e7 : w9.cell? ⟨w.heap.size + 1, 7, none⟩ = some (.int .i64 p) := blk.cell 7
  have e8 : w9.cell? ⟨w.heap.size + 1, 8, none⟩ = some (.int .i64 (2 + q + p)) := blk.cell 8
  have e9 : w9.cell? ⟨w.heap.size + 1, 9, none⟩ = some (.int .i64 p) := blk.cell 9
  have e10 : w9.cell? ⟨w.heap.size + 1, 10, none⟩ = some (.int .i64 (2 + q + p + p)) := blk.cell 10
  refine bodyPost_ret (v := .agg #[.int .i64 0, .int .i64 1, .int .i64 1, .int .i64 1, .int .i64 2, .int .i64 q, .int .i64 (2 + q), .int .i64 p, .int .i64 (2 + q + p), .int .i64 p, .int .i64 (2 + q + p + p)]) ?_ rfl ⟨rfl, hb⟩
  simp [results, Tryd.results27, go_sem, e0, e1, e2, e3, e4, e5, e6, e7, e8, e9, e10]

theorem may_facts {S B s : Int} (h : mayB S B s = true) : (128 ≤ S ∧ S ≤ 4096) ∧ (128 ≤ B ∧ B ≤ 4096) ∧ (1 ≤ s ∧ s ≤ 4096) := by
  have := of_decide_eq_true h
  exact ⟨this.1, this.2.1, this.2.2.2.1⟩

def zeroMap : Value := .agg #[.int .i64 0, .int .i64 0, .int .i64 0, .int .i64 0, .int .i64 0, .int .i64 0, .int .i64 0, .int .i64 0, .int .i64 0, .int .i64 0, .int .i64 0]

set_option maxRecDepth 100000 in
set_option maxHeartbeats 1600000 in
theorem layout_no (S B s : Int) (w : World) (h : mayB S B s = false) : Calls Tryd.prog 56 #[.agg #[.int .i64 S, .int .i64 B, .int .i64 s]] w (Gives (.tuple #[zeroMap, .int .i64 1]) w) := by
  have gm := fun W => may_any S B s W
  rw [h] at gm
  have GM := Lib.hid gm
  clear gm h
  unfold zeroMap
  have br : Block ((w.alloc (.cells #[.int .i64 S, .int .i64 B, .int .i64 s] 61)).alloc (.cells #[.int .i64 0, .int .i64 0, .int .i64 0, .int .i64 0, .int .i64 0, .int .i64 0, .int .i64 0, .int .i64 0, .int .i64 0, .int .i64 0, .int .i64 0] 45)) (w.heap.size + 1) 45 #[.int .i64 0, .int .i64 0, .int .i64 0, .int .i64 0, .int .i64 0, .int .i64 0, .int .i64 0, .int .i64 0, .int .i64 0, .int .i64 0, .int .i64 0] := by
    have := Block.new (w.alloc (.cells #[.int .i64 S, .int .i64 B, .int .i64 s] 61)) 45 #[.int .i64 0, .int .i64 0, .int .i64 0, .int .i64 0, .int .i64 0, .int .i64 0, .int .i64 0, .int .i64 0, .int .i64 0, .int .i64 0, .int .i64 0]
    simpa using this
  have bc := (Block.new w 61 #[.int .i64 S, .int .i64 B, .int .i64 s]).alloc (.cells #[.int .i64 0, .int .i64 0, .int .i64 0, .int .i64 0, .int .i64 0, .int .i64 0, .int .i64 0, .int .i64 0, .int .i64 0, .int .i64 0, .int .i64 0] 45)
  have hb : Below w.heap.size w ((w.alloc (.cells #[.int .i64 S, .int .i64 B, .int .i64 s] 61)).alloc (.cells #[.int .i64 0, .int .i64 0, .int .i64 0, .int .i64 0, .int .i64 0, .int .i64 0, .int .i64 0, .int .i64 0, .int .i64 0, .int .i64 0, .int .i64 0] 45)) := ((Below.refl _ _).alloc (Nat.le_refl _) _).alloc (by simp) _
  go_enter Tryd.func56, Tryd.ntmps56
  go_wp2_with fail
  have hsz : ((w.alloc (.cells #[.int .i64 S, .int .i64 B, .int .i64 s] 61)).alloc (.cells #[.int .i64 0, .int .i64 0, .int .i64 0, .int .i64 0, .int .i64 0, .int .i64 0, .int .i64 0, .int .i64 0, .int .i64 0, .int .i64 0, .int .i64 0] 45)).heap.size = w.heap.size + 2 := by simp
  generalize (w.alloc (.cells #[.int .i64 S, .int .i64 B, .int .i64 s] 61)).alloc (.cells #[.int .i64 0, .int .i64 0, .int .i64 0, .int .i64 0, .int .i64 0, .int .i64 0, .int .i64 0, .int .i64 0, .int .i64 0, .int .i64 0, .int .i64 0] 45) = w1 at *
  have Hsz := Lib.hid hsz
  clear hsz
  refine (GM.out _).mono ?_
  rintro e w2 ⟨rfl, hb2⟩
  have br2 := br.below hb2 (by rw [Hsz.out]; omega)
  have hb12 := hb.trans (hb2.mono hb.size)
  clear br bc hb hb2
  have z0 : w2.cell? ⟨w.heap.size + 1, 0, none⟩ = some (.int .i64 0) := br2.cell 0
  have z1 : w2.cell? ⟨w.heap.size + 1, 1, none⟩ = some (.int .i64 0) := br2.cell 1
  have z2 : w2.cell? ⟨w.heap.size + 1, 2, none⟩ = some (.int .i64 0) := br2.cell 2
  have z3 : w2.cell? ⟨w.heap.size + 1, 3, none⟩ = some (.int .i64 0) := br2.cell 3
  have z4 : w2.cell? ⟨w.heap.size + 1, 4, none⟩ = some (.int .i64 0) := br2.cell 4
  have z5 : w2.cell? ⟨w.heap.size + 1, 5, none⟩ = some (.int .i64 0) := br2.cell 5
  have z6 : w2.cell? ⟨w.heap.size + 1, 6, none⟩ = some (.int .i64 0) := br2.cell 6
  have z7 : w2.cell? ⟨w.heap.size + 1, 7, none⟩ = some (.int .i64 0) := br2.cell 7
  have z8 : w2.cell? ⟨w.heap.size + 1, 8, none⟩ = some (.int .i64 0) := br2.cell 8
  have z9 : w2.cell? ⟨w.heap.size + 1, 9, none⟩ = some (.int .i64 0) := br2.cell 9
  have z10 : w2.cell? ⟨w.heap.size + 1, 10, none⟩ = some (.int .i64 0) := br2.cell 10
  have ff := fun i => br2.frozen i
  go_wp2_with fail
  have b9 := (((((((((((br2.set_ 0 (.int .i64 0)).set_ 1 (.int .i64 0)).set_ 2 (.int .i64 0)).set_ 3 (.int .i64 0)).set_ 4 (.int .i64 0)).set_ 5 (.int .i64 0)).set_ 6 (.int .i64 0)).set_ 7 (.int .i64 0)).set_ 8 (.int .i64 0)).set_ 9 (.int .i64 0)).set_ 10 (.int .i64 0))
  have hb9 := (((((((((((hb12.setCell (p := ⟨w.heap.size + 1, 0, none⟩) (by simp) (.int .i64 0)).setCell (p := ⟨w.heap.size + 1, 1, none⟩) (by simp) (.int .i64 0)).setCell (p := ⟨w.heap.size + 1, 2, none⟩) (by simp) (.int .i64 0)).setCell (p := ⟨w.heap.size + 1, 3, none⟩) (by simp) (.int .i64 0)).setCell (p := ⟨w.heap.size + 1, 4, none⟩) (by simp) (.int .i64 0)).setCell (p := ⟨w.heap.size + 1, 5, none⟩) (by simp) (.int .i64 0)).setCell (p := ⟨w.heap.size + 1, 6, none⟩) (by simp) (.int .i64 0)).setCell (p := ⟨w.heap.size + 1, 7, none⟩) (by simp) (.int .i64 0)).setCell (p := ⟨w.heap.size + 1, 8, none⟩) (by simp) (.int .i64 0)).setCell (p := ⟨w.heap.size + 1, 9, none⟩) (by simp) (.int .i64 0)).setCell (p := ⟨w.heap.size + 1, 10, none⟩) (by simp) (.int .i64 0))
  generalize (((((((((((w2.setCell ⟨w.heap.size + 1, 0, none⟩ (.int .i64 0)).setCell ⟨w.heap.size + 1, 1, none⟩ (.int .i64 0)).setCell ⟨w.heap.size + 1, 2, none⟩ (.int .i64 0)).setCell ⟨w.heap.size + 1, 3, none⟩ (.int .i64 0)).setCell ⟨w.heap.size + 1, 4, none⟩ (.int .i64 0)).setCell ⟨w.heap.size + 1, 5, none⟩ (.int .i64 0)).setCell ⟨w.heap.size + 1, 6, none⟩ (.int .i64 0)).setCell ⟨w.heap.size + 1, 7, none⟩ (.int .i64 0)).setCell ⟨w.heap.size + 1, 8, none⟩ (.int .i64 0)).setCell ⟨w.heap.size + 1, 9, none⟩ (.int .i64 0)).setCell ⟨w.heap.size + 1, 10, none⟩ (.int .i64 0)) = w9 at *
  have e0 : w9.cell? ⟨w.heap.size + 1, 0, none⟩ = some (.int .i64 0) := b9.cell 0
  have e1 : w9.cell? ⟨w.heap.size + 1, 1, none⟩ = some (.int .i64 0) := b9.cell 1
  have e2 : w9.cell? ⟨w.heap.size + 1, 2, none⟩ = some (.int .i64 0) := b9.cell 2
  have e3 : w9.cell? ⟨w.heap.size + 1, 3, none⟩ = some (.int .i64 0) := b9.cell 3
  have e4 : w9.cell? ⟨w.heap.size + 1, 4, none⟩ = some (.int .i64 0) := b9.cell 4
  have e5 : w9.cell? ⟨w.heap.size + 1, 5, none⟩ = some (.int .i64 0) := b9.cell 5
  have e6 : w9.cell? ⟨w.heap.size + 1, 6, none⟩ = some (.int .i64 0) := b9.cell 6
  have e7 : w9.cell? ⟨w.heap.size + 1, 7, none⟩ = some (.int .i64 0) := b9.cell 7
  have e8 : w9.cell? ⟨w.heap.size + 1, 8, none⟩ = some (.int .i64 0) := b9.cell 8
  have e9 : w9.cell? ⟨w.heap.size + 1, 9, none⟩ = some (.int .i64 0) := b9.cell 9
  have e10 : w9.cell? ⟨w.heap.size + 1, 10, none⟩ = some (.int .i64 0) := b9.cell 10
  refine bodyPost_ret (v := .tuple #[.agg #[.int .i64 0, .int .i64 0, .int .i64 0, .int .i64 0, .int .i64 0, .int .i64 0, .int .i64 0, .int .i64 0, .int .i64 0, .int .i64 0, .int .i64 0], .int .i64 1]) ?_ rfl ⟨rfl, hb9⟩
  simp [results, Tryd.results56, go_sem, e0, e1, e2, e3, e4, e5, e6, e7, e8, e9, e10]

set_option maxRecDepth 100000 in
set_option maxHeartbeats 1600000 in
theorem layout_yes (S B s q : Int) (w : World) (h : mayB S B s = true) (hq : B / S = q) : Calls Tryd.prog 56 #[.agg #[.int .i64 S, .int .i64 B, .int .i64 s]] w (Gives (.tuple #[mapV q s, .int .i64 0]) w) := by
  have gm := fun W => may_any S B s W
  obtain ⟨hS, hB, hs⟩ := may_facts h
  rw [h] at gm
  have GM := Lib.hid gm
  have gl := fun W => lay_any S B s q W hS hB hs hq
  unfold mapV at gl ⊢
  have GL := Lib.hid gl
  clear gm h gl hq hS hB hs
  have br : Block ((w.alloc (.cells #[.int .i64 S, .int .i64 B, .int .i64 s] 61)).alloc (.cells #[.int .i64 0, .int .i64 0, .int .i64 0, .int .i64 0, .int .i64 0, .int .i64 0, .int .i64 0, .int .i64 0, .int .i64 0, .int .i64 0, .int .i64 0] 45)) (w.heap.size + 1) 45 #[.int .i64 0, .int .i64 0, .int .i64 0, .int .i64 0, .int .i64 0, .int .i64 0, .int .i64 0, .int .i64 0, .int .i64 0, .int .i64 0, .int .i64 0] := by
    have := Block.new (w.alloc (.cells #[.int .i64 S, .int .i64 B, .int .i64 s] 61)) 45 #[.int .i64 0, .int .i64 0, .int .i64 0, .int .i64 0, .int .i64 0, .int .i64 0, .int .i64 0, .int .i64 0, .int .i64 0, .int .i64 0, .int .i64 0]
    simpa using this
  have bc := (Block.new w 61 #[.int .i64 S, .int .i64 B, .int .i64 s]).alloc (.cells #[.int .i64 0, .int .i64 0, .int .i64 0, .int .i64 0, .int .i64 0, .int .i64 0, .int .i64 0, .int .i64 0, .int .i64 0, .int .i64 0, .int .i64 0] 45)
  have hb : Below w.heap.size w ((w.alloc (.cells #[.int .i64 S, .int .i64 B, .int .i64 s] 61)).alloc (.cells #[.int .i64 0, .int .i64 0, .int .i64 0, .int .i64 0, .int .i64 0, .int .i64 0, .int .i64 0, .int .i64 0, .int .i64 0, .int .i64 0, .int .i64 0] 45)) := ((Below.refl _ _).alloc (Nat.le_refl _) _).alloc (by simp) _
  go_enter Tryd.func56, Tryd.ntmps56
  go_wp2_with fail
  have hsz : ((w.alloc (.cells #[.int .i64 S, .int .i64 B, .int .i64 s] 61)).alloc (.cells #[.int .i64 0, .int .i64 0, .int .i64 0, .int .i64 0, .int .i64 0, .int .i64 0, .int .i64 0, .int .i64 0, .int .i64 0, .int .i64 0, .int .i64 0] 45)).heap.size = w.heap.size + 2 := by simp
  generalize (w.alloc (.cells #[.int .i64 S, .int .i64 B, .int .i64 s] 61)).alloc (.cells #[.int .i64 0, .int .i64 0, .int .i64 0, .int .i64 0, .int .i64 0, .int .i64 0, .int .i64 0, .int .i64 0, .int .i64 0, .int .i64 0, .int .i64 0] 45) = w1 at *
  have Hsz := Lib.hid hsz
  clear hsz
  refine (GM.out _).mono ?_
  rintro e w2 ⟨rfl, hb2⟩
  have br1 := br.below hb2 (by rw [Hsz.out]; omega)
  have bc1 := bc.below hb2 (by rw [Hsz.out]; omega)
  have hb11 := hb.trans (hb2.mono hb.size)
  have hs2 : w.heap.size + 2 ≤ w2.heap.size := by have := hb2.size; rw [Hsz.out] at this; exact this
  have c0 : w2.cell? ⟨w.heap.size, 0, none⟩ = some (.int .i64 S) := bc1.cell 0
  have c1 : w2.cell? ⟨w.heap.size, 1, none⟩ = some (.int .i64 B) := bc1.cell 1
  have c2 : w2.cell? ⟨w.heap.size, 2, none⟩ = some (.int .i64 s) := bc1.cell 2
  clear br bc hb hb2 bc1
  go_wp2_with fail
  refine (GL.out _).mono ?_
  rintro e w3 ⟨rfl, hb3⟩
  have br2 := br1.below hb3 (by omega)
  have hb12 := hb11.trans (hb3.mono hb11.size)
  clear br1 hb11 hb3 c0 c1 c2
  have z0 : w3.cell? ⟨w.heap.size + 1, 0, none⟩ = some (.int .i64 0) := br2.cell 0
  have z1 : w3.cell? ⟨w.heap.size + 1, 1, none⟩ = some (.int .i64 0) := br2.cell 1
  have z2 : w3.cell? ⟨w.heap.size + 1, 2, none⟩ = some (.int .i64 0) := br2.cell 2
  have z3 : w3.cell? ⟨w.heap.size + 1, 3, none⟩ = some (.int .i64 0) := br2.cell 3
  have z4 : w3.cell? ⟨w.heap.size + 1, 4, none⟩ = some (.int .i64 0) := br2.cell 4
  have z5 : w3.cell? ⟨w.heap.size + 1, 5, none⟩ = some (.int .i64 0) := br2.cell 5
  have z6 : w3.cell? ⟨w.heap.size + 1, 6, none⟩ = some (.int .i64 0) := br2.cell 6
  have z7 : w3.cell? ⟨w.heap.size + 1, 7, none⟩ = some (.int .i64 0) := br2.cell 7
  have z8 : w3.cell? ⟨w.heap.size + 1, 8, none⟩ = some (.int .i64 0) := br2.cell 8
  have z9 : w3.cell? ⟨w.heap.size + 1, 9, none⟩ = some (.int .i64 0) := br2.cell 9
  have z10 : w3.cell? ⟨w.heap.size + 1, 10, none⟩ = some (.int .i64 0) := br2.cell 10
  have ff := fun i => br2.frozen i
  go_wp2_with fail
  have b9 := (((((((((((br2.set_ 0 (.int .i64 0)).set_ 1 (.int .i64 1)).set_ 2 (.int .i64 1)).set_ 3 (.int .i64 1)).set_ 4 (.int .i64 2)).set_ 5 (.int .i64 q)).set_ 6 (.int .i64 (2 + q))).set_ 7 (.int .i64 (s * q))).set_ 8 (.int .i64 (2 + q + s * q))).set_ 9 (.int .i64 (s * q))).set_ 10 (.int .i64 (2 + q + s * q + s * q)))
  have hb9 := (((((((((((hb12.setCell (p := ⟨w.heap.size + 1, 0, none⟩) (by simp) (.int .i64 0)).setCell (p := ⟨w.heap.size + 1, 1, none⟩) (by simp) (.int .i64 1)).setCell (p := ⟨w.heap.size + 1, 2, none⟩) (by simp) (.int .i64 1)).setCell (p := ⟨w.heap.size + 1, 3, none⟩) (by simp) (.int .i64 1)).setCell (p := ⟨w.heap.size + 1, 4, none⟩) (by simp) (.int .i64 2)).setCell (p := ⟨w.heap.size + 1, 5, none⟩) (by simp) (.int .i64 q)).setCell (p := ⟨w.heap.size + 1, 6, none⟩) (by simp) (.int .i64 (2 + q))).setCell (p := ⟨w.heap.size + 1, 7, none⟩) (by simp) (.int .i64 (s * q))).setCell (p := ⟨w.heap.size + 1, 8, none⟩) (by simp) (.int .i64 (2 + q + s * q))).setCell (p := ⟨w.heap.size + 1, 9, none⟩) (by simp) (.int .i64 (s * q))).setCell (p := ⟨w.heap.size + 1, 10, none⟩) (by simp) (.int .i64 (2 + q + s * q + s * q)))
  generalize (((((((((((w3.setCell ⟨w.heap.size + 1, 0, none⟩ (.int .i64 0)).setCell ⟨w.heap.size + 1, 1, none⟩ (.int .i64 1)).setCell ⟨w.heap.size + 1, 2, none⟩ (.int .i64 1)).setCell ⟨w.heap.size + 1, 3, none⟩ (.int .i64 1)).setCell ⟨w.heap.size + 1, 4, none⟩ (.int .i64 2)).setCell ⟨w.heap.size + 1, 5, none⟩ (.int .i64 q)).setCell ⟨w.heap.size + 1, 6, none⟩ (.int .i64 (2 + q))).setCell ⟨w.heap.size + 1, 7, none⟩ (.int .i64 (s * q))).setCell ⟨w.heap.size + 1, 8, none⟩ (.int .i64 (2 + q + s * q))).setCell ⟨w.heap.size + 1, 9, none⟩ (.int .i64 (s * q))).setCell ⟨w.heap.size + 1, 10, none⟩ (.int .i64 (2 + q + s * q + s * q))) = w9 at *
  have e0 : w9.cell? ⟨w.heap.size + 1, 0, none⟩ = some (.int .i64 0) := b9.cell 0
  have e1 : w9.cell? ⟨w.heap.size + 1, 1, none⟩ = some (.int .i64 1) := b9.cell 1
  have e2 : w9.cell? ⟨w.heap.size + 1, 2, none⟩ = some (.int .i64 1) := b9.cell 2
  have e3 : w9.cell? ⟨w.heap.size + 1, 3, none⟩ = some (.int .i64 1) := b9.cell 3
  have e4 : w9.cell? ⟨w.heap.size + 1, 4, none⟩ = some (.int .i64 2) := b9.cell 4
  have e5 : w9.cell? ⟨w.heap.size + 1, 5, none⟩ = some (.int .i64 q) := b9.cell 5
  have e6 : w9.cell? ⟨w.heap.size + 1, 6, none⟩ = some (.int .i64 (2 + q)) := b9.cell 6
  have e7 : w9.cell? ⟨w.heap.size + 1, 7, none⟩ = some (.int .i64 (s * q)) := b9.cell 7
  have e8 : w9.cell? ⟨w.heap.size + 1, 8, none⟩ = some (.int .i64 (2 + q + s * q)) := b9.cell 8
  have e9 : w9.cell? ⟨w.heap.size + 1, 9, none⟩ = some (.int .i64 (s * q)) := b9.cell 9
  have e10 : w9.cell? ⟨w.heap.size + 1, 10, none⟩ = some (.int .i64 (2 + q + s * q + s * q)) := b9.cell 10
  refine bodyPost_ret (v := .tuple #[.agg #[.int .i64 0, .int .i64 1, .int .i64 1, .int .i64 1, .int .i64 2, .int .i64 q, .int .i64 (2 + q), .int .i64 (s * q), .int .i64 (2 + q + s * q), .int .i64 (s * q), .int .i64 (2 + q + s * q + s * q)], .int .i64 0]) ?_ rfl ⟨rfl, hb9⟩
  simp [results, Tryd.results56, go_sem, e0, e1, e2, e3, e4, e5, e6, e7, e8, e9, e10]
end Go.Proofs.YtpnodocjpedcmaaDoor.Prt

namespace Go.Proofs.YtpnodocjpedcmaaDoor.Prt
open Go.ChangeShapes Go.WideShapes Go.ChangeAt Go.RowKit Go.Proofs.YtpnodocjpedcmaaDoor.Kit

theorem eq_region (d : Nat) (a b : Int) (w : World) : (Op.equalIn (d + 2) 42 (.agg #[.int .i64 a, .int .i64 b]) (.agg #[.int .i64 a, .int .i64 b])).run Tryd.prog w = .ok true w := by
  have hf : (Tryd.prog.fieldsOf 42).toList.map (fun f => (f.name != "_", f.type, f.offset)) = [(true, 3, 0), (true, 3, 1)] := by kernel_rfl
  have p0 : (part 3 #[.int .i64 a, .int .i64 b] 0).run Tryd.prog w = .ok (.int .i64 a) w := by kernel_rfl
  have p1 : (part 3 #[.int .i64 a, .int .i64 b] 1).run Tryd.prog w = .ok (.int .i64 b) w := by kernel_rfl
  rw [run_equalIn_struct w (d + 1) _ _ _ (by kernel_rfl) (by kernel_rfl)]
  generalize (Tryd.prog.fieldsOf 42).toList = fs at *
  match fs, (show fs.length = 2 by simpa using congrArg List.length hf), hf with
  | [f0, f1], _, hf =>
    simp at hf
    obtain ⟨⟨n0, t0, o0⟩, ⟨n1, t1, o1⟩⟩ := hf
    have q0 := run_equalIn_int (P := Tryd.prog) w d 3 .i64 .i64 a a Tryd.underlying3
    have q1 := run_equalIn_int (P := Tryd.prog) w d 3 .i64 .i64 b b Tryd.underlying3
    simp [Op.eqFields, n0, n1, t0, t1, o0, o1, p0, p1, q0, q1]

theorem eq_two (d : Nat) (a b c e : Int) (w : World) : (Op.equalIn (d + 3) 43 (.agg #[.int .i64 a, .int .i64 b, .int .i64 c, .int .i64 e]) (.agg #[.int .i64 a, .int .i64 b, .int .i64 c, .int .i64 e])).run Tryd.prog w = .ok true w := by
  obtain ⟨i, hi⟩ : ∃ i, Tryd.prog.info? 42 = some i := Option.isSome_iff_exists.1 (by kernel_rfl)
  have hu : Tryd.prog.underlying 43 = some (.array 2 42) := by kernel_rfl
  have hc : Tryd.prog.cellsOf 42 = 2 := by kernel_rfl
  rw [run_equalIn_array (P := Tryd.prog) (w := w) (d + 2) _ _ hu hi, hc]
  have p0 : (part 42 #[.int .i64 a, .int .i64 b, .int .i64 c, .int .i64 e] (0 * 2)).run Tryd.prog w = .ok (.agg #[.int .i64 a, .int .i64 b]) w := by kernel_rfl
  have p1 : (part 42 #[.int .i64 a, .int .i64 b, .int .i64 c, .int .i64 e] (1 * 2)).run Tryd.prog w = .ok (.agg #[.int .i64 c, .int .i64 e]) w := by kernel_rfl
  have q0 := eq_region d a b w
  have q1 := eq_region d c e w
  rw [show List.range 2 = [0, 1] from rfl]
  simp only [Op.eqItems, Sem.run_bind, p0, p1, q0, q1, Result.andThen_ok, Bool.not_true, Bool.false_eq_true, if_false, Sem.run_pure]

theorem eq_map (v0 v1 v2 v3 v4 v5 v6 v7 v8 v9 v10 : Int) (w : World) :
    (binOp .eql 45 (.agg #[.int .i64 v0, .int .i64 v1, .int .i64 v2, .int .i64 v3, .int .i64 v4, .int .i64 v5, .int .i64 v6, .int .i64 v7, .int .i64 v8, .int .i64 v9, .int .i64 v10])
      (.agg #[.int .i64 v0, .int .i64 v1, .int .i64 v2, .int .i64 v3, .int .i64 v4, .int .i64 v5, .int .i64 v6, .int .i64 v7, .int .i64 v8, .int .i64 v9, .int .i64 v10])).run Tryd.prog w = .ok (.bool true) w := by
  have hf : (Tryd.prog.fieldsOf 45).toList.map (fun f => (f.name != "_", f.type, f.offset)) = [(true, 43, 0), (true, 42, 4), (true, 43, 6), (true, 3, 10)] := by kernel_rfl
  have p0 : (part 43 #[.int .i64 v0, .int .i64 v1, .int .i64 v2, .int .i64 v3, .int .i64 v4, .int .i64 v5, .int .i64 v6, .int .i64 v7, .int .i64 v8, .int .i64 v9, .int .i64 v10] 0).run Tryd.prog w = .ok (.agg #[.int .i64 v0, .int .i64 v1, .int .i64 v2, .int .i64 v3]) w := by kernel_rfl
  have p1 : (part 42 #[.int .i64 v0, .int .i64 v1, .int .i64 v2, .int .i64 v3, .int .i64 v4, .int .i64 v5, .int .i64 v6, .int .i64 v7, .int .i64 v8, .int .i64 v9, .int .i64 v10] 4).run Tryd.prog w = .ok (.agg #[.int .i64 v4, .int .i64 v5]) w := by kernel_rfl
  have p2 : (part 43 #[.int .i64 v0, .int .i64 v1, .int .i64 v2, .int .i64 v3, .int .i64 v4, .int .i64 v5, .int .i64 v6, .int .i64 v7, .int .i64 v8, .int .i64 v9, .int .i64 v10] 6).run Tryd.prog w = .ok (.agg #[.int .i64 v6, .int .i64 v7, .int .i64 v8, .int .i64 v9]) w := by kernel_rfl
  have p3 : (part 3 #[.int .i64 v0, .int .i64 v1, .int .i64 v2, .int .i64 v3, .int .i64 v4, .int .i64 v5, .int .i64 v6, .int .i64 v7, .int .i64 v8, .int .i64 v9, .int .i64 v10] 10).run Tryd.prog w = .ok (.int .i64 v10) w := by kernel_rfl
  rw [run_eql_struct, run_equalIn_struct w 9999 _ _ _ (by kernel_rfl) (by kernel_rfl)]
  generalize (Tryd.prog.fieldsOf 45).toList = fs at *
  match fs, (show fs.length = 4 by simpa using congrArg List.length hf), hf with
  | [f0, f1, f2, f3], _, hf =>
    simp at hf
    obtain ⟨⟨n0, t0, o0⟩, ⟨n1, t1, o1⟩, ⟨n2, t2, o2⟩, ⟨n3, t3, o3⟩⟩ := hf
    have q0 := eq_two 9996 v0 v1 v2 v3 w
    have q1 := eq_region 9997 v4 v5 w
    have q2 := eq_two 9996 v6 v7 v8 v9 w
    have q3 := run_equalIn_int (P := Tryd.prog) w 9998 3 .i64 .i64 v10 v10 Tryd.underlying3
    simp [Op.eqFields, n0, n1, n2, n3, t0, t1, t2, t3, o0, o1, o2, o3, p0, p1, p2, p3, q0, q1, q2, q3]

end Go.Proofs.YtpnodocjpedcmaaDoor.Prt

namespace Go.Proofs.YtpnodocjpedcmaaDoor.Prt
open Go.ChangeShapes Go.WideShapes Go.ChangeAt Go.RowKit Go.Proofs.YtpnodocjpedcmaaDoor.Kit

theorem count_nil (w : World) : Calls Tryd.prog 58 #[.pointer none] w fun e w' => e = .returned (.int .i64 0) ∧ w' = w := by
  go_enter Tryd.func58, Tryd.ntmps58
  go_wp2
  go_ret
  exact ⟨rfl, rfl⟩

theorem size_nil (w : World) : Calls Tryd.prog 97 #[.pointer none] w fun e w' => e = .returned (.int .i64 0) ∧ w' = w := by
  go_enter Tryd.func97, Tryd.ntmps97
  go_wp2
  go_ret
  exact ⟨rfl, rfl⟩

theorem read_nil (at_ n : Int) (w : World) : Calls Tryd.prog 49 #[.pointer none, .int .i64 at_, .int .i64 n] w fun e w' => e = .returned (.tuple #[.slice none 0 0, .int .i64 1]) ∧ w' = w := by
  go_enter Tryd.func49, Tryd.ntmps49
  go_wp2
  go_ret2
  exact ⟨rfl, rfl⟩

theorem write_nil (at_ : Int) (v : Value) (w : World) : Calls Tryd.prog 54 #[.pointer none, .int .i64 at_, v] w fun e w' => e = .returned (.int .i64 1) ∧ w' = w := by
  go_enter Tryd.func54, Tryd.ntmps54
  go_wp2
  go_ret
  exact ⟨rfl, rfl⟩

set_option maxRecDepth 100000 in
set_option maxHeartbeats 1600000 in
theorem open_nil (F N : Int) (w : World) : Calls Tryd.prog 48 #[.pointer none, .agg #[.int .i64 F, .int .i64 N]] w (Gives (.tuple #[.pointer none, .int .i64 1]) w) := by
  have hb0 : Below w.heap.size w (w.alloc (.cells #[.int .i64 F, .int .i64 N] 42)) := (Below.refl _ _).alloc (Nat.le_refl _) _
  have blk := Block.new w 42 #[.int .i64 F, .int .i64 N]
  have c0 : (w.alloc (.cells #[.int .i64 F, .int .i64 N] 42)).cell? ⟨w.heap.size, 0, none⟩ = some (.int .i64 F) := blk.cell 0
  have c1 : (w.alloc (.cells #[.int .i64 F, .int .i64 N] 42)).cell? ⟨w.heap.size, 1, none⟩ = some (.int .i64 N) := blk.cell 1
  clear blk
  by_cases h0 : F < 0
  · have h0 : decide (F < 0) = true := decide_eq_true h0
    go_enter Tryd.func48, Tryd.ntmps48
    go_wp2_with fail
    go_quiet (fail)
    go_wp2_with fail
    go_ret2
    exact ⟨rfl, below_draws hb0 _⟩
  by_cases h1 : N < 1
  · have h0 : decide (F < 0) = false := decide_eq_false h0
    have h1 : decide (N < 1) = true := decide_eq_true h1
    go_enter Tryd.func48, Tryd.ntmps48
    go_wp2_with fail
    go_quiet (fail)
    go_wp2_with fail
    go_ret2
    exact ⟨rfl, below_draws hb0 _⟩
  have h2 : decide (0 < N) = true := decide_eq_true (by omega)
  have h0 : decide (F < 0) = false := decide_eq_false h0
  have h1 : decide (N < 1) = false := decide_eq_false h1
  have G := Lib.hid count_nil
  go_enter Tryd.func48, Tryd.ntmps48
  go_wp2_with fail
  go_quiet ((go_at_call 58; exact Calls.quiet_of_same (G.out _)))
  go_wp2_with fail
  go_ret2
  exact ⟨rfl, below_draws hb0 _⟩
end Go.Proofs.YtpnodocjpedcmaaDoor.Prt

namespace Go.Proofs.YtpnodocjpedcmaaDoor.Kit
open Go.ChangeShapes Go.WideShapes Go.ChangeAt Go.RowKit

theorem step_store_arr {P : Program} {ops : Array Oper} {o : Oper} {a : Act} {w : World} {K : Act → World → Prop} {Q : Exit → Act → World → Prop} {E : Prop}
    (hgd : o.guard = none) (ty : TypeId) (x y : Operand) (ho : o.op = .store ty x y)
    {g : Nat} {t : TypeId} {k : IntKind} {xs ys : List Int} (h : Arr w g t k xs) (hx : a.eval x = .pointer (some ⟨g, 0, none⟩)) (hy : a.eval y = arrV k ys) (hl : ys.length = xs.length) (hi : (P.info? ty).map (·.size) = some ys.length)
    (hK : ∀ w', Arr w' g t k ys → w.grownBy w' (some g) → K (a.put o.dst undef) w') : if Region.wanted o (yielded ops a.tmps) = true then Oper.wp P o a w K Q else E := by
  have hw : Region.wanted o (yielded ops a.tmps) = true := by simp [Region.wanted, hgd]
  rw [if_pos hw]
  refine wp_store_mid ty x y ho g 0 (ys.map (Value.int k)).toArray hx hy (by simpa using h.there (by omega)) (by simpa using hi) (all_oneCell_toArray (ints_one k ys)) ?_
  refine hK _ ?_ (setCells_grown g _ 0 w)
  have := setCells_block (ys.map (Value.int k)) 0 w _ h (by simp; omega)
  unfold Arr
  have e : ((xs.map (Value.int k)).toArray.toList.take 0 ++ (ys.map (Value.int k) ++ (xs.map (Value.int k)).toArray.toList.drop (0 + (ys.map (Value.int k)).length))).toArray = (ys.map (Value.int k)).toArray := by
    simp [hl]
  rw [e] at this
  simpa using this

/-- A row that lies in memory is loaded as a whole. -/
theorem step_load_row {P : Program} {ops : Array Oper} {o : Oper} {a : Act} {w : World} {K : Act → World → Prop} {Q : Exit → Act → World → Prop} {E : Prop}
    (hw : Region.wanted o (yielded ops a.tmps) = true) (ty : TypeId) (x : Operand) (ho : o.op = .load ty x)
    (b f : Nat) (cs : List Value) (hx : a.eval x = .pointer (some ⟨b, f, none⟩)) (hc : w.rangeAt b f cs) {d : TypeDesc} (hu : P.underlying ty = some d) (hd : d.isRow = true) (hi : (P.info? ty).map (·.size) = some cs.length)
    (hK : K (a.put o.dst (.agg cs.toArray)) w) : if Region.wanted o (yielded ops a.tmps) = true then Oper.wp P o a w K Q else E := by
  rw [if_pos hw]
  exact wp_load_mid ty x ho b f hx cs d hc hu hd hi hK
end Go.Proofs.YtpnodocjpedcmaaDoor.Kit

namespace Go.Proofs.YtpnodocjpedcmaaDoor.Kit
open Go.ChangeShapes Go.WideShapes Go.ChangeAt Go.RowKit

/-- A row of bytes. -/
structure Rw where
  A : Option Addr
  cap : Nat
  zs : List Int

/-- How such a one lies in memory. -/
def RwIn (w : World) (B : Nat) (r : Rw) (cs : List Value) : Prop := cs = [.slice r.A r.zs.length r.cap] ∧ r.zs.length ≤ r.cap ∧ r.cap ≤ maxLen ∧ Octets r.zs ∧ Holds w B .u8 r.A r.zs

/-- The slice at A holds these rows of bytes, all below block B. -/
def HoldsW (w : World) (B : Nat) (A : Option Addr) (rs : List Rw) : Prop := HoldsE (RwIn w B) 1 w B A rs

section
variable {H : Type} {enc : TypeId × Value → H} {P : Program} {w w' : World} {b0 : Nat}
theorem open_rowsB {t u e : TypeId} (ht : P.underlying t = some (.slice u)) (hu : P.underlying u = some (.slice e)) (he : P.underlying e = some (.int .u8)) (hcu : P.cellsOf u = 1) (hce : P.cellsOf e = 1)
    {v : Value} {d : DataW H} {ps : List MemPlace} (hval : Value.okWide P w .any b0 t v) (h : DataW.Trod enc P w 0 (fun _ => true) true t v d ps) (hlt : ∀ x ∈ ps, x.block < w.heap.size) :
    ∃ (A : Option Addr) (cap : Nat) (rs : List Rw), v = .slice A rs.length cap ∧ rs.length ≤ cap ∧ cap ≤ maxLen ∧ HoldsW w w.heap.size A rs :=
  open_slice_of (RwIn w w.heap.size) 1 ht hcu (by omega) (fun _ _ _ h hp => by
    obtain ⟨A, cap, zs, rfl, r1, r2, r3, r4⟩ := octets_of hu he hce h hp
    exact ⟨⟨A, cap, zs⟩, rfl, r1, r2, r3, r4⟩) hval h hlt

theorem rwAt {B : Nat} {A : Option Addr} {rs : List Rw} (h : HoldsW w B A rs) {i : Nat} (hi : i < rs.length) :
    ∃ b off : Nat, A = some ⟨b, off, none⟩ ∧ b < B ∧ w.cell? ⟨b, off + i, none⟩ = some (.slice rs[i].A rs[i].zs.length rs[i].cap) ∧ rs[i].zs.length ≤ rs[i].cap ∧ rs[i].cap ≤ maxLen ∧ Octets rs[i].zs ∧ Holds w B .u8 rs[i].A rs[i].zs := by
  obtain ⟨b, off, rfl, hb, hc⟩ := h (by omega)
  obtain ⟨cs, ⟨rfl, r4, r5, r6, r7⟩, _, hcs⟩ := hc i rs[i] (List.getElem?_eq_getElem hi)
  exact ⟨b, off, rfl, hb, by simpa using hcs 0 _ rfl, r4, r5, r6, r7⟩

theorem HoldsW.below {B : Nat} {A : Option Addr} {rs : List Rw} (h : HoldsW w B A rs) (hb : Below B w w') : HoldsW w' B A rs :=
  h.keep (fun _ hp => hb.cell hp) fun _ _ ⟨r0, r4, r5, r6, r7⟩ => ⟨r0, r4, r5, r6, r7.below hb⟩

theorem HoldsW.more {B B' : Nat} {A : Option Addr} {rs : List Rw} (h : HoldsW w B A rs) (hB : B ≤ B') : HoldsW w B' A rs := by
  intro hx
  obtain ⟨b, off, e, hb, hc⟩ := h hx
  refine ⟨b, off, e, by omega, fun i r hi => ?_⟩
  obtain ⟨cs, ⟨r0, r4, r5, r6, r7⟩, h2, h3⟩ := hc i r hi
  exact ⟨cs, ⟨r0, r4, r5, r6, r7.more hB⟩, h2, h3⟩

/-- The first n rows. -/
theorem HoldsW.head {B : Nat} {A : Option Addr} {rs : List Rw} (h : HoldsW w B A rs) (n : Nat) : HoldsW w B A (rs.take n) := by
  intro hx
  simp only [List.length_take] at hx
  obtain ⟨b, off, e, hb, hc⟩ := h (by omega)
  refine ⟨b, off, e, hb, fun i r hi => hc i r ?_⟩
  rw [List.getElem?_take] at hi
  split at hi
  · exact hi
  · cases hi

/-- All rows' bytes. -/
def joinL (rs : List Rw) : List Int := rs.flatMap (·.zs)
theorem joinL_next {rs : List Rw} {i : Nat} (hi : i < rs.length) : joinL (rs.take (i + 1)) = joinL (rs.take i) ++ rs[i].zs := by
  unfold joinL
  rw [List.take_succ_eq_append_getElem hi, List.flatMap_append]
  simp
theorem joinL_le {rs : List Rw} {m : Nat} (h : ∀ r ∈ rs, r.zs.length ≤ m) : (joinL rs).length ≤ rs.length * m := by
  induction rs with
  | nil => simp [joinL]
  | cons r rs ih =>
    have h1 := ih (fun x hx => h x (by simp [hx]))
    have h2 := h r (by simp)
    unfold joinL at h1 ⊢
    rw [List.flatMap_cons, List.length_append, List.length_cons, Nat.succ_mul]
    omega
theorem joinL_octets {rs : List Rw} (h : ∀ r ∈ rs, Octets r.zs) : Octets (joinL rs) := by
  intro x hx
  obtain ⟨r, hr, hx⟩ := List.mem_flatMap.1 hx
  exact h r hr x hx
theorem HoldsW.octets {B : Nat} {A : Option Addr} {rs : List Rw} (h : HoldsW w B A rs) : ∀ r ∈ rs, Octets r.zs := by
  intro r hr
  obtain ⟨i, hi, rfl⟩ := List.mem_iff_getElem.1 hr
  obtain ⟨_, _, _, _, _, _, _, h6, _⟩ := rwAt h hi
  exact h6
end
end Go.Proofs.YtpnodocjpedcmaaDoor.Kit

namespace Go.Proofs.YtpnodocjpedcmaaDoor.Kit
open Go.ChangeShapes Go.WideShapes Go.ChangeAt Go.RowKit

/-- A row's slice. -/
def Rw.val (r : Rw) : Value := .slice r.A r.zs.length r.cap
/-- A row that may be. -/
def RwOk (w : World) (B : Nat) (r : Rw) : Prop := r.zs.length ≤ r.cap ∧ r.cap ≤ maxLen ∧ Octets r.zs ∧ Holds w B .u8 r.A r.zs

theorem RwOk.below {w w' : World} {B : Nat} {r : Rw} (h : RwOk w B r) (hb : Below B w w') : RwOk w' B r := ⟨h.1, h.2.1, h.2.2.1, h.2.2.2.below hb⟩
theorem RwOk.more {w : World} {B B' : Nat} {r : Rw} (h : RwOk w B r) (hb : B ≤ B') : RwOk w B' r := ⟨h.1, h.2.1, h.2.2.1, h.2.2.2.more hb⟩
theorem RwOk.on {w w' : World} {r : Rw} (h : RwOk w w.heap.size r) (hb : Below w.heap.size w w') : RwOk w' w'.heap.size r := (h.below hb).more hb.size
theorem RwOk.arr {w : World} {g : Nat} {t : TypeId} {xs : List Int} (h : Arr w g t .u8 xs) (ho : Octets xs) (hl : xs.length ≤ maxLen) : RwOk w w.heap.size ⟨some ⟨g, 0, none⟩, xs.length, xs⟩ :=
  ⟨Nat.le_refl _, hl, ho, h.holds_all⟩

theorem rows_laid {w : World} {t : TypeId} (rs : List Rw) (h : ∀ r ∈ rs, RwOk w w.heap.size r) :
    HoldsW (w.alloc (.cells (rs.map Rw.val).toArray t)) (w.alloc (.cells (rs.map Rw.val).toArray t)).heap.size (some ⟨w.heap.size, 0, none⟩) rs := by
  have bk := Block.new w t (rs.map Rw.val).toArray
  have hb := (Below.refl w.heap.size w).alloc (Nat.le_refl _) (.cells (rs.map Rw.val).toArray t)
  intro _
  refine ⟨w.heap.size, 0, rfl, by simp, fun i r hi => ?_⟩
  have hr := (h r (List.mem_of_getElem? hi)).on hb
  refine ⟨_, ⟨rfl, hr⟩, rfl, fun j v hj => ?_⟩
  have hj0 : j = 0 := by
    rcases j with _ | j
    · rfl
    · simp at hj
  subst hj0
  have hv : v = r.val := by simpa [Rw.val] using hj.symm
  subst hv
  rw [Nat.zero_add, Nat.mul_one, Nat.add_zero, bk.cell i]
  simp [hi]
end Go.Proofs.YtpnodocjpedcmaaDoor.Kit

namespace Go.Proofs.YtpnodocjpedcmaaDoor.Kit
open Go.ChangeShapes Go.WideShapes Go.ChangeAt Go.RowKit

theorem res_new (w : World) (t : TypeId) : Arr (w.alloc (.cells ((List.replicate 32 (0 : Int)).map (Value.int .u8)).toArray t)) w.heap.size t .u8 (List.replicate 32 0) := Arr.new w _ _ _
theorem arr_kept {w w' : World} {g : Nat} {t : TypeId} {k : IntKind} {xs : List Int} {o : Obj} (h : Arr w g t k xs) (g9 : (w.alloc o).grownBy w' (some w.heap.size)) : Arr w' g t k xs :=
  Arr.grown (h.alloc o) g9 (by intro e; injection e with e; have := Arr.lt h; omega)
theorem below_fill {B : Nat} {w0 w w' : World} {o : Obj} (h : Below B w0 w) (hB : B ≤ w.heap.size) (g9 : (w.alloc o).grownBy w' (some w.heap.size)) : Below B w0 w' :=
  (h.alloc hB o).trans (below_of_grown g9 (by simp; omega) fun b hb => by injection hb with hb; omega)
theorem Holds.prefix_ {w : World} {B : Nat} {k : IntKind} {A : Option Addr} {xs : List Int} (h : Holds w B k A xs) (n : Nat) : Holds w B k A (xs.take n) := by
  intro hx
  rw [List.length_take] at hx
  obtain ⟨b, off, e, hb, hc⟩ := h (by omega)
  refine ⟨b, off, e, hb, fun j hj => ?_⟩
  rw [List.length_take] at hj
  rw [hc j (by omega)]
  simp [List.getD, List.getElem?_take, show j < n by omega]
theorem Holds.on {w w' : World} {k : IntKind} {A : Option Addr} {xs : List Int} (h : Holds w w.heap.size k A xs) (hb : Below w.heap.size w w') : Holds w' w'.heap.size k A xs := (h.below hb).more hb.size
theorem Holds.fill {w w' : World} {k : IntKind} {A : Option Addr} {xs : List Int} {o : Obj} (h : Holds w w.heap.size k A xs) (g9 : (w.alloc o).grownBy w' (some w.heap.size)) : Holds w' w'.heap.size k A xs := h.on (below_fill (Below.refl _ _) (Nat.le_refl _) g9)

/-- Results: a whole array out of its block, and a plain value. -/
theorem results_row_tmp {P : Program} {fn : Func} {p q : Tmp} {ty : TypeId} (h : fn.results = #[.cell p ty, .tmp q]) (tmps : Array Value) (w : World) (g : Nat) (t : TypeId) (cs : Array Value) (fr : Nat × Nat) (d : TypeDesc)
    (hp : tmps.getD p undef = .pointer (some ⟨g, 0, none⟩)) (hg : w.heap[g]? = some (.cells cs t fr)) (v : Value) (hq : tmps.getD q undef = v)
    (hu : P.underlying ty = some d) (hd : (match d with | .struct _ | .array _ _ => true | _ => false) = true) (hi : (P.info? ty).map (·.size) = some cs.size) :
    (results fn tmps).run P w = .ok (.tuple #[.agg cs, v]) w := by
  have hp' : tmps[p]?.getD undef = .pointer (some ⟨g, 0, none⟩) := by simpa using hp
  have hq' : tmps[q]?.getD undef = v := by simpa using hq
  simp [results, h, hp', hq', asAddr, run_loadVar_row w g t ty cs fr d hg hu hd hi]
end Go.Proofs.YtpnodocjpedcmaaDoor.Kit

namespace Go.Proofs.YtpnodocjpedcmaaDoor.Sha
open Go.ChangeShapes Go.WideShapes Go.ChangeAt Go.RowKit Go.Proofs.YtpnodocjpedcmaaDoor.Kit

/-- x with its bits moved n places down, round the end. -/
def rot (x : Int) (n : Nat) : Int := bits BinOp.or .u32 (x * 2 ^ (32 - n) % 4294967296) (x / 2 ^ n)

theorem low_five : ∀ n : Nat, n < 32 → 1 ≤ n → bits BinOp.and .u64 (IntKind.u64.wrap (-(n : Int))) 31 = ((32 - n : Nat) : Int) := by decide +kernel

set_option maxHeartbeats 1600000 in
theorem rotate_any (x : Int) (n : Nat) (w : World) (hx : 0 ≤ x ∧ x ≤ 4294967295) (hn : 1 ≤ n ∧ n ≤ 31) :
    Calls Tryd.prog 117 #[.int .u32 x, .int .i64 (-(n : Int))] w fun e w' => e = .returned (.int .u32 (rot x n)) ∧ w = w' := by
  have k0 := low_five n (by omega) hn.1
  have hr : rot x n = bits BinOp.or .u32 (x * 2 ^ (32 - n) % 4294967296) (x / 2 ^ n) := rfl
  obtain ⟨m, hm⟩ : ∃ m, 32 - n = m := ⟨_, rfl⟩
  rw [hm] at k0 hr
  have hs : (32 : Int) - (m : Int) = (n : Int) := by omega
  have hm2 : m ≤ 31 := by omega
  go_enter Tryd.func117, Tryd.ntmps117
  go_wp2_with fail
  go_ret
  exact ⟨by rw [hr]; rfl, rfl⟩

set_option maxHeartbeats 1600000 in
theorem turned_any (x N : Int) (n : Nat) (w : World) (hN : N = n) (hx : 0 ≤ x ∧ x ≤ 4294967295) (hn : 1 ≤ n ∧ n ≤ 31) :
    Calls Tryd.prog 104 #[.int .u32 x, .int .i64 N] w fun e w' => e = .returned (.int .u32 (rot x n)) ∧ w = w' := by
  subst hN
  go_enter Tryd.func104, Tryd.ntmps104
  go_wp2_with (go_at_call 117; refine (rotate_any x n w hx hn).mono ?_; rintro e w' ⟨rfl, rfl⟩)
  go_ret
  exact ⟨rfl, rfl⟩

theorem or_comm32 (a b : Int) : bits BinOp.or .u32 a b = bits BinOp.or .u32 b a := by simp only [bits, BitVec.or_comm]

set_option maxHeartbeats 1600000 in
theorem turn_any (x N : Int) (n : Nat) (w : World) (hN : N = n) (hx : 0 ≤ x ∧ x ≤ 4294967295) (hn : 1 ≤ n ∧ n ≤ 31) :
    Calls Tryd.prog 116 #[.int .u32 x, .int .i64 N] w fun e w' => e = .returned (.int .u32 (rot x n)) ∧ ∃ m, w' = w.drewN m := by
  subst hN
  have hr : rot x n = bits BinOp.or .u32 (x / 2 ^ n) (x * 2 ^ (32 - n) % 4294967296) := or_comm32 _ _
  obtain ⟨m, hm⟩ : ∃ m, 32 - n = m := ⟨_, rfl⟩
  rw [hm] at hr
  have hs : (32 : Int) - (n : Int) = (m : Int) := by omega
  have hm2 : m ≤ 31 := by omega
  go_enter Tryd.func116, Tryd.ntmps116
  go_wp2_with fail
  go_quiet (fail)
  go_wp2_with fail
  go_ret
  exact ⟨by rw [hr]; rfl, _, rfl⟩

theorem or_bd (a b : Int) : 0 ≤ bits BinOp.or .u32 a b ∧ bits BinOp.or .u32 a b ≤ 4294967295 := by
  show 0 ≤ IntKind.u32.wrap _ ∧ IntKind.u32.wrap _ ≤ 4294967295
  rw [IntKind.wrap_u32]
  omega
theorem rot_bd (x : Int) (n : Nat) : 0 ≤ rot x n ∧ rot x n ≤ 4294967295 := or_bd _ _
theorem and_bd (a b : Int) : 0 ≤ bits BinOp.and .u32 a b ∧ bits BinOp.and .u32 a b ≤ 4294967295 := by
  show 0 ≤ IntKind.u32.wrap _ ∧ IntKind.u32.wrap _ ≤ 4294967295
  rw [IntKind.wrap_u32]
  omega
theorem xor_bd (a b : Int) : 0 ≤ bits BinOp.xor .u32 a b ∧ bits BinOp.xor .u32 a b ≤ 4294967295 := by
  show 0 ≤ IntKind.u32.wrap _ ∧ IntKind.u32.wrap _ ≤ 4294967295
  rw [IntKind.wrap_u32]
  omega
end Go.Proofs.YtpnodocjpedcmaaDoor.Sha

namespace Go.Proofs.YtpnodocjpedcmaaDoor.Sha
open Go.ChangeShapes Go.WideShapes Go.ChangeAt Go.RowKit Go.Proofs.YtpnodocjpedcmaaDoor.Kit

theorem pick_nat (e f g : Nat) (he : e < 4294967296) : ((e &&& f) ^^^ ((4294967295 ^^^ e) &&& g)) = ((e &&& f) ||| ((4294967295 ^^^ e) &&& g)) := by
  apply Nat.eq_of_testBit_eq
  intro i
  rw [Nat.testBit_xor, Nat.testBit_or, Nat.testBit_and, Nat.testBit_and, Nat.testBit_xor]
  have h1 : Nat.testBit 4294967295 i = decide (i < 32) := Nat.testBit_two_pow_sub_one 32 i
  rw [h1]
  by_cases hi : i < 32
  · rw [decide_eq_true hi]
    cases e.testBit i <;> cases f.testBit i <;> cases g.testBit i <;> rfl
  · have h2 : e.testBit i = false := Nat.testBit_lt_two_pow (Nat.lt_of_lt_of_le (show e < 2 ^ 32 by omega) (Nat.pow_le_pow_right (n := 2) (by decide) (by omega)))
    rw [h2, decide_eq_false hi]
    cases f.testBit i <;> cases g.testBit i <;> rfl

theorem most_nat (a b c : Nat) : (((a &&& b) ^^^ (a &&& c)) ^^^ (b &&& c)) = (((a &&& b) ||| (a &&& c)) ||| (b &&& c)) := by
  apply Nat.eq_of_testBit_eq
  intro i
  simp only [Nat.testBit_xor, Nat.testBit_or, Nat.testBit_and]
  cases a.testBit i <;> cases b.testBit i <;> cases c.testBit i <;> rfl

def W32 (x : Int) : Prop := 0 ≤ x ∧ x ≤ 4294967295

theorem W32.nat {x : Int} (h : W32 x) : ∃ n : Nat, x = n ∧ n < 4294967296 := by
  obtain ⟨n, rfl⟩ := Int.eq_ofNat_of_zero_le h.1
  exact ⟨n, rfl, by have := h.2; omega⟩

def picks (e f g : Int) : Int := bits BinOp.xor .u32 (bits BinOp.and .u32 e f) (bits BinOp.and .u32 (bits BinOp.xor .u32 IntKind.u32.max e) g)
def most (a b c : Int) : Int := bits BinOp.xor .u32 (bits BinOp.xor .u32 (bits BinOp.and .u32 a b) (bits BinOp.and .u32 a c)) (bits BinOp.and .u32 b c)

theorem and_lt {a : Nat} (b : Nat) (h : a < 4294967296) : a &&& b < 4294967296 := Nat.lt_of_le_of_lt Nat.and_le_left h
theorem xor_lt {a b : Nat} (h : a < 4294967296) (h2 : b < 4294967296) : a ^^^ b < 4294967296 := Nat.xor_lt_two_pow (n := 32) h h2
theorem or_lt {a b : Nat} (h : a < 4294967296) (h2 : b < 4294967296) : a ||| b < 4294967296 := Nat.or_lt_two_pow (n := 32) h h2

theorem picks_or {e f g : Int} (he : W32 e) (hf : W32 f) (hg : W32 g) : bits BinOp.or .u32 (bits BinOp.and .u32 e f) (bits BinOp.and .u32 (bits BinOp.xor .u32 IntKind.u32.max e) g) = picks e f g := by
  obtain ⟨e, rfl, ke⟩ := he.nat
  obtain ⟨f, rfl, kf⟩ := hf.nat
  obtain ⟨g, rfl, kg⟩ := hg.nat
  unfold picks
  rw [show IntKind.u32.max = ((4294967295 : Nat) : Int) by rfl, u32_xor_nat _ _ (by decide) ke, u32_and_nat e f ke kf, u32_and_nat _ g (xor_lt (by decide) ke) kg, u32_or_nat _ _ (and_lt f ke) (and_lt g (xor_lt (by decide) ke)), u32_xor_nat _ _ (and_lt f ke) (and_lt g (xor_lt (by decide) ke)), pick_nat e f g ke]

theorem most_or {a b c : Int} (ha : W32 a) (hb : W32 b) (hc : W32 c) : bits BinOp.or .u32 (bits BinOp.or .u32 (bits BinOp.and .u32 a b) (bits BinOp.and .u32 a c)) (bits BinOp.and .u32 b c) = most a b c := by
  obtain ⟨a, rfl, ka⟩ := ha.nat
  obtain ⟨b, rfl, kb⟩ := hb.nat
  obtain ⟨c, rfl, kc⟩ := hc.nat
  unfold most
  rw [u32_and_nat a b ka kb, u32_and_nat a c ka kc, u32_and_nat b c kb kc, u32_or_nat _ _ (and_lt b ka) (and_lt c ka), u32_xor_nat _ _ (and_lt b ka) (and_lt c ka), u32_or_nat _ _ (or_lt (and_lt b ka) (and_lt c ka)) (and_lt c kb), u32_xor_nat _ _ (xor_lt (and_lt b ka) (and_lt c ka)) (and_lt c kb), most_nat a b c]
end Go.Proofs.YtpnodocjpedcmaaDoor.Sha

namespace Go.Proofs.YtpnodocjpedcmaaDoor.Sha
open Go.ChangeShapes Go.WideShapes Go.ChangeAt Go.RowKit Go.Proofs.YtpnodocjpedcmaaDoor.Kit

/-- The sum of two words. -/
def add32 (a b : Int) : Int := (a + b) % 4294967296
theorem add32_bd (a b : Int) : W32 (add32 a b) := by unfold add32 W32; omega
theorem add32_wrap (a b : Int) : IntKind.u32.wrap (a + b) = add32 a b := by rw [IntKind.wrap_u32]; rfl
theorem add32_comm (a b : Int) : add32 a b = add32 b a := by unfold add32; rw [Int.add_comm]

theorem add32_4 (a b c d : Int) : add32 (add32 (add32 a b) c) d = (a + b + c + d) % 4294967296 := by unfold add32; omega
theorem add32_5 (a b c d e : Int) : add32 (add32 (add32 (add32 a b) c) d) e = (a + b + c + d + e) % 4294967296 := by unfold add32; omega

def sig0 (x : Int) : Int := bits BinOp.xor .u32 (bits BinOp.xor .u32 (rot x 7) (rot x 18)) (x / 8)
def sig1 (x : Int) : Int := bits BinOp.xor .u32 (bits BinOp.xor .u32 (rot x 17) (rot x 19)) (x / 1024)
def sum0 (x : Int) : Int := bits BinOp.xor .u32 (bits BinOp.xor .u32 (rot x 2) (rot x 13)) (rot x 22)
def sum1 (x : Int) : Int := bits BinOp.xor .u32 (bits BinOp.xor .u32 (rot x 6) (rot x 11)) (rot x 25)

/-- The i-th word of bytes. -/
def wordB (bs : List Int) (i : Nat) : Int :=
  bits BinOp.or .u32 (bits BinOp.or .u32 (bits BinOp.or .u32 (bs.getD (4 * i) 0 * 16777216) (bs.getD (4 * i + 1) 0 * 65536)) (bs.getD (4 * i + 2) 0 * 256)) (bs.getD (4 * i + 3) 0)
def mixW (l : List Int) (n : Nat) : Int := add32 (add32 (add32 (l.getD (n - 16) 0) (sig0 (l.getD (n - 15) 0))) (l.getD (n - 7) 0)) (sig1 (l.getD (n - 2) 0))
/-- The first n words of a block. -/
def sched (bs : List Int) : Nat → List Int
  | 0 => []
  | n + 1 => sched bs n ++ [if n < 16 then wordB bs n else mixW (sched bs n) n]

theorem sched_length (bs : List Int) : ∀ n, (sched bs n).length = n
  | 0 => rfl
  | n + 1 => by rw [sched, List.length_append, sched_length bs n]; rfl

theorem sched_bd (bs : List Int) : ∀ n, ∀ x ∈ sched bs n, W32 x
  | 0, x, h => by simp [sched] at h
  | n + 1, x, h => by
    rw [sched] at h
    rcases List.mem_append.1 h with h | h
    · exact sched_bd bs n x h
    · obtain rfl := List.mem_singleton.1 h
      split
      · exact or_bd _ _
      · exact add32_bd _ _

theorem sched_get (bs : List Int) (n i : Nat) : W32 ((sched bs n).getD i 0) := by
  rw [List.getD_eq_getElem?_getD]
  cases h : (sched bs n)[i]? with
  | none => unfold W32; simp
  | some x => exact sched_bd bs n x (List.mem_of_getElem? h)

/-- A list, with zeros up to 64. -/
def padZ (l : List Int) : List Int := l ++ List.replicate (64 - l.length) 0
theorem padZ_length {l : List Int} (h : l.length ≤ 64) : (padZ l).length = 64 := by unfold padZ; simp; omega
theorem padZ_nil : padZ [] = List.replicate 64 0 := rfl
theorem padZ_full {l : List Int} (h : l.length = 64) : padZ l = l := by unfold padZ; rw [h]; simp
theorem padZ_get {l : List Int} {i : Nat} (h : i < l.length) : (padZ l)[i]?.getD 0 = l.getD i 0 := by
  unfold padZ
  rw [List.getElem?_append_left h]
  rfl
theorem padZ_set {l : List Int} {x : Int} (h : l.length < 64) : (padZ l).set l.length x = padZ (l ++ [x]) := by
  unfold padZ
  obtain ⟨k, hk⟩ : ∃ k, 64 - l.length = k + 1 := ⟨63 - l.length, by omega⟩
  rw [hk, List.replicate_succ, List.set_append, if_neg (by omega), Nat.sub_self, List.set_cons_zero, List.length_append, List.length_singleton, show 64 - (l.length + 1) = k by omega, List.append_assoc]
  rfl

theorem sched_set (bs : List Int) (n : Nat) (h : n < 64) : (padZ (sched bs n)).set n (if n < 16 then wordB bs n else mixW (sched bs n) n) = padZ (sched bs (n + 1)) := by
  have := padZ_set (l := sched bs n) (x := if n < 16 then wordB bs n else mixW (sched bs n) n) (by rw [sched_length]; omega)
  rw [sched_length] at this
  rw [this, sched]

/-- l is the first n words. -/
structure IsSched (bs : List Int) (n : Nat) (l : List Int) : Prop where
  out : l = sched bs n
theorem IsSched.length {bs : List Int} {n : Nat} {l : List Int} (h : IsSched bs n l) : l.length = n := by rw [h.out, sched_length]
theorem IsSched.get {bs : List Int} {n : Nat} {l : List Int} (h : IsSched bs n l) (i : Nat) : W32 (l.getD i 0) := by rw [h.out]; exact sched_get bs n i
theorem IsSched.next {bs : List Int} {n : Nat} {l : List Int} (h : IsSched bs n l) (hn : n < 64) :
    ∃ l', IsSched bs (n + 1) l' ∧ (padZ l).set n (if n < 16 then wordB bs n else mixW l n) = padZ l' :=
  ⟨_, ⟨rfl⟩, by have := sched_set bs n hn; rw [← h.out] at this; exact this⟩

/-- One round over a state of eight words. -/
def roundS (s : List Int) (k x : Int) : List Int :=
  let t := add32 (add32 (add32 (add32 (s.getD 7 0) (sum1 (s.getD 4 0))) (picks (s.getD 4 0) (s.getD 5 0) (s.getD 6 0))) k) x
  let u := add32 (sum0 (s.getD 0 0)) (most (s.getD 0 0) (s.getD 1 0) (s.getD 2 0))
  [add32 t u, s.getD 0 0, s.getD 1 0, s.getD 2 0, add32 (s.getD 3 0) t, s.getD 4 0, s.getD 5 0, s.getD 6 0]

def cubesL : List Int := [0x428a2f98, 0x71374491, 0xb5c0fbcf, 0xe9b5dba5, 0x3956c25b, 0x59f111f1, 0x923f82a4, 0xab1c5ed5, 0xd807aa98, 0x12835b01, 0x243185be, 0x550c7dc3, 0x72be5d74, 0x80deb1fe, 0x9bdc06a7, 0xc19bf174, 0xe49b69c1, 0xefbe4786, 0x0fc19dc6, 0x240ca1cc, 0x2de92c6f, 0x4a7484aa, 0x5cb0a9dc, 0x76f988da, 0x983e5152, 0xa831c66d, 0xb00327c8, 0xbf597fc7, 0xc6e00bf3, 0xd5a79147, 0x06ca6351, 0x14292967, 0x27b70a85, 0x2e1b2138, 0x4d2c6dfc, 0x53380d13, 0x650a7354, 0x766a0abb, 0x81c2c92e, 0x92722c85, 0xa2bfe8a1, 0xa81a664b, 0xc24b8b70, 0xc76c51a3, 0xd192e819, 0xd6990624, 0xf40e3585, 0x106aa070, 0x19a4c116, 0x1e376c08, 0x2748774c, 0x34b0bcb5, 0x391c0cb3, 0x4ed8aa4a, 0x5b9cca4f, 0x682e6ff3, 0x748f82ee, 0x78a5636f, 0x84c87814, 0x8cc70208, 0x90befffa, 0xa4506ceb, 0xbef9a3f7, 0xc67178f2]

/-- The state behind n rounds. -/
def roundsS (ws : List Int) : Nat → List Int → List Int
  | 0, s => s
  | n + 1, s => roundS (roundsS ws n s) (cubesL.getD n 0) (ws.getD n 0)

/-- Eight words. -/
def St8 (s : List Int) : Prop := s.length = 8 ∧ ∀ x ∈ s, W32 x

theorem St8.open_ {s : List Int} (h : St8 s) : ∃ a b c d e f g i : Int, s = [a, b, c, d, e, f, g, i] ∧ W32 a ∧ W32 b ∧ W32 c ∧ W32 d ∧ W32 e ∧ W32 f ∧ W32 g ∧ W32 i := by
  obtain ⟨hl, hb⟩ := h
  match s, hl with
  | [a, b, c, d, e, f, g, i], _ => exact ⟨a, b, c, d, e, f, g, i, rfl, hb a (by simp), hb b (by simp), hb c (by simp), hb d (by simp), hb e (by simp), hb f (by simp), hb g (by simp), hb i (by simp)⟩

theorem roundS_st {s : List Int} (h : St8 s) (k x : Int) : St8 (roundS s k x) := by
  obtain ⟨a, b, c, d, e, f, g, i, rfl, h1, h2, h3, h4, h5, h6, h7, h8⟩ := h.open_
  refine ⟨rfl, fun y hy => ?_⟩
  simp only [roundS, List.mem_cons, List.not_mem_nil, or_false] at hy
  rcases hy with rfl | rfl | rfl | rfl | rfl | rfl | rfl | rfl
  · exact add32_bd _ _
  · exact h1
  · exact h2
  · exact h3
  · exact add32_bd _ _
  · exact h5
  · exact h6
  · exact h7

theorem roundsS_st (ws : List Int) {s : List Int} (h : St8 s) : ∀ n, St8 (roundsS ws n s)
  | 0 => h
  | n + 1 => roundS_st (roundsS_st ws h n) _ _

/-- A state, mixed with a block of 64 bytes. -/
def mixS (s bs : List Int) : List Int := List.zipWith add32 s (roundsS (sched bs 64) 64 s)

theorem mixS_st {s : List Int} (bs : List Int) (h : St8 s) : St8 (mixS s bs) := by
  obtain ⟨a, b, c, d, e, f, g, i, rfl, _⟩ := h.open_
  have h2 := roundsS_st (sched bs 64) h 64
  unfold mixS
  obtain ⟨a', b', c', d', e', f', g', i', hr, _⟩ := h2.open_
  rw [hr]
  refine ⟨rfl, fun y hy => ?_⟩
  simp only [List.zipWith_cons_cons, List.zipWith_nil_left, List.mem_cons, List.not_mem_nil, or_false] at hy
  rcases hy with rfl | rfl | rfl | rfl | rfl | rfl | rfl | rfl <;> exact add32_bd _ _

def ivL : List Int := [0x6a09e667, 0xbb67ae85, 0x3c6ef372, 0xa54ff53a, 0x510e527f, 0x9b05688c, 0x1f83d9ab, 0x5be0cd19]

/-- The state behind n blocks. -/
def foldN : Nat → List Int → List Int → List Int
  | 0, s, _ => s
  | n + 1, s, bs => foldN n (mixS s (bs.take 64)) (bs.drop 64)

theorem foldN_st : ∀ (n : Nat) {s : List Int} (bs : List Int), St8 s → St8 (foldN n s bs)
  | 0, _, _, h => h
  | n + 1, _, bs, h => foldN_st n (bs.drop 64) (mixS_st _ h)

theorem foldN_add : ∀ (m n : Nat) (s bs : List Int), foldN (m + n) s bs = foldN n (foldN m s bs) (bs.drop (64 * m))
  | 0, n, s, bs => by simp [foldN]
  | m + 1, n, s, bs => by
    rw [show m + 1 + n = (m + n) + 1 by omega, foldN, foldN_add m n, foldN, List.drop_drop, show 64 + 64 * m = 64 * (m + 1) by omega]

theorem foldN_next (n : Nat) (s bs : List Int) : foldN (n + 1) s bs = mixS (foldN n s bs) ((bs.drop (64 * n)).take 64) := foldN_add n 1 s bs

/-- What stands behind the blocks doesn't count. -/
theorem foldN_app : ∀ (n : Nat) (s x y : List Int), 64 * n ≤ x.length → foldN n s (x ++ y) = foldN n s x
  | 0, _, _, _, _ => rfl
  | n + 1, s, x, y, h => by
    rw [foldN, foldN, List.take_append_of_le_length (by omega), List.drop_append_of_le_length (by omega), foldN_app n _ _ _ (by simp; omega)]
end Go.Proofs.YtpnodocjpedcmaaDoor.Sha

namespace Go.Proofs.YtpnodocjpedcmaaDoor.Sha
open Go.ChangeShapes Go.WideShapes Go.ChangeAt Go.RowKit Go.Proofs.YtpnodocjpedcmaaDoor.Kit

def Z64 : Array Value := #[.int .u32 0, .int .u32 0, .int .u32 0, .int .u32 0, .int .u32 0, .int .u32 0, .int .u32 0, .int .u32 0, .int .u32 0, .int .u32 0, .int .u32 0, .int .u32 0, .int .u32 0, .int .u32 0, .int .u32 0, .int .u32 0, .int .u32 0, .int .u32 0, .int .u32 0, .int .u32 0, .int .u32 0, .int .u32 0, .int .u32 0, .int .u32 0, .int .u32 0, .int .u32 0, .int .u32 0, .int .u32 0, .int .u32 0, .int .u32 0, .int .u32 0, .int .u32 0, .int .u32 0, .int .u32 0, .int .u32 0, .int .u32 0, .int .u32 0, .int .u32 0, .int .u32 0, .int .u32 0, .int .u32 0, .int .u32 0, .int .u32 0, .int .u32 0, .int .u32 0, .int .u32 0, .int .u32 0, .int .u32 0, .int .u32 0, .int .u32 0, .int .u32 0, .int .u32 0, .int .u32 0, .int .u32 0, .int .u32 0, .int .u32 0, .int .u32 0, .int .u32 0, .int .u32 0, .int .u32 0, .int .u32 0, .int .u32 0, .int .u32 0, .int .u32 0]
theorem z64_eq : ((List.replicate 64 (0 : Int)).map (Value.int .u32)).toArray = Z64 := rfl

theorem getD_octet {xs : List Int} (h : Octets xs) (j : Nat) : 0 ≤ xs.getD j 0 ∧ xs.getD j 0 ≤ 255 := by
  rw [List.getD_eq_getElem?_getD]
  exact h.at_ j

theorem arr64 (W : World) : Arr (W.alloc (.cells Z64 166)) W.heap.size 166 .u32 (List.replicate 64 0) := by
  have := Arr.new W 166 .u32 (List.replicate 64 0)
  rw [z64_eq] at this
  exact this

set_option maxRecDepth 100000 in
set_option maxHeartbeats 3200000 in
theorem words_any (A : Option Addr) (bs : List Int) (c : Nat) (w : World) (hl : bs.length = 64) (hc : 64 ≤ c) (hm : c ≤ maxLen) (ho : Octets bs) (hr : Holds w w.heap.size .u8 A bs) :
    Calls Tryd.prog 103 #[.slice A 64 c] w fun e w' => e = .returned (arrV .u32 (sched bs 64)) ∧ Below w.heap.size w w' := by
  have hb0 : Below w.heap.size w ((w.alloc (.cells Z64 166)).alloc (.cells Z64 166)) := ((Below.refl _ _).alloc (Nat.le_refl _) _).alloc (by simp) _
  have a2 : Arr ((w.alloc (.cells Z64 166)).alloc (.cells Z64 166)) w.heap.size 166 .u32 (List.replicate 64 0) := (arr64 w).alloc _
  have a3 : Arr ((w.alloc (.cells Z64 166)).alloc (.cells Z64 166)) (w.heap.size + 1) 166 .u32 (padZ (sched bs 0)) := by
    have := arr64 (w.alloc (.cells Z64 166))
    rw [show (w.alloc (.cells Z64 166)).heap.size = w.heap.size + 1 by simp] at this
    exact this
  obtain ⟨b, off, rfl, hb, hcs⟩ := hr (by omega)
  unfold maxLen at hm
  go_enter Tryd.func103, Tryd.ntmps103
  go_wp2_with fail
  change Code.wp _ _ _ _ ((w.alloc (.cells Z64 166)).alloc (.cells Z64 166))
  generalize (w.alloc (.cells Z64 166)).alloc (.cells Z64 166) = w0 at *
  go_loopw [11] (fun s wx => ∃ i : Nat, i ≤ 16 ∧ s = .int .i64 i ∧ Arr wx (w.heap.size + 1) 166 .u32 (padZ (sched bs i)) ∧ Arr wx w.heap.size 166 .u32 (List.replicate 64 0) ∧ Below w.heap.size w wx) (fun s _ => 16 - (intOf s).toNat)
  case atStart => exact ⟨0, by omega, rfl, a3, a2, hb0⟩
  case round =>
    obtain ⟨i, hi, rfl, k3, k2, hbx⟩ := hrel
    by_cases hlt : i < 16
    · have d := fun j (hj : 4 * i + j < bs.length) => (hbx.cell (p := ⟨b, off + (4 * i + j), none⟩) hb).trans (hcs (4 * i + j) hj)
      have d0 := d 0 (by omega)
      have d1 := d 1 (by omega)
      have d2 := d 2 (by omega)
      have d3 := d 3 (by omega)
      rw [← Nat.add_assoc] at d0 d1 d2 d3
      rw [Nat.add_zero, Nat.add_zero] at d0
      have hsl : 4 * i + 4 - 4 * i = 4 := by omega
      have hix : (i : Int) < 64 := by omega
      have hi0 : (0 : Int) ≤ (i : Int) := by omega
      have k3d : Arr wr.drew (w.heap.size + 1) 166 .u32 (padZ (sched bs i)) := k3
      have k2d : Arr wr.drew w.heap.size 166 .u32 (List.replicate 64 0) := k2
      have hbd : Below w.heap.size w wr.drew := below_draws hbx 1
      have e3 := k3d.cell (i := i) (by rw [padZ_length (by rw [sched_length]; omega)]; omega)
      have z3 := k3d.frozen i
      have y0 := getD_octet ho (4 * i)
      have y1 := getD_octet ho (4 * i + 1)
      have y2 := getD_octet ho (4 * i + 2)
      have y3 := getD_octet ho (4 * i + 3)
      have hset : (padZ (sched bs i)).set i (wordB bs i) = padZ (sched bs (i + 1)) := by
        have := padZ_set (l := sched bs i) (x := wordB bs i) (by rw [sched_length]; omega)
        rw [sched_length] at this
        rw [this, sched, if_pos hlt]
      unfold wordB at hset
      generalize bs.getD (4 * i) 0 = x0 at *
      generalize bs.getD (4 * i + 1) 0 = x1 at *
      generalize bs.getD (4 * i + 2) 0 = x2 at *
      generalize bs.getD (4 * i + 3) 0 = x3 at *
      have HS := Lib.hid hset
      clear d hset
      go_wp2_with fail
      go_still_tail 24, (by kernel_rfl)
      change wpList _ _ _ _ _ wr.drew
      clear k2 k3 hbx
      generalize wr.drew = w2 at *
      go_wp2_with fail
      have k9 := k3d.set_ i (bits BinOp.or .u32 (bits BinOp.or .u32 (bits BinOp.or .u32 (x0 * 16777216) (x1 * 65536)) (x2 * 256)) x3)
      rw [HS.out] at k9
      go_roundw
      case rel => exact ⟨i + 1, by omega, by go_num, k9, k2d.far (by simp) _, hbd.setCell (by simp) _⟩
      case measure => simp [intOf] <;> omega
    · obtain rfl : i = 16 := by omega
      go_wp2_with fail
      rw [show ((16 : Nat) : Int) = 16 from rfl]
      clear a3 a2 hb0
      go_loopw [46] (fun s wx => ∃ (i : Nat) (l : List Int), i ≤ 48 ∧ s = .int .i64 i ∧ IsSched bs (i + 16) l ∧ Arr wx (w.heap.size + 1) 166 .u32 (padZ l) ∧ Arr wx w.heap.size 166 .u32 (List.replicate 64 0) ∧ Below w.heap.size w wx) (fun s _ => 48 - (intOf s).toNat)
      case atStart => exact ⟨0, _, by omega, rfl, ⟨rfl⟩, k3, k2, hbx⟩
      case round =>
        clear k3 k2 hbx
        obtain ⟨i, l, hi, rfl, hl, k3, k2, hbx⟩ := hrel
        by_cases hlt : i < 48
        · have hlen : (padZ l).length = 64 := padZ_length (by rw [hl.length]; omega)
          have hg := fun j (hj : j < i + 16) => padZ_get (l := l) (i := j) (by rw [hl.length]; exact hj)
          have hx := hl.get (i + 1)
          have hy := hl.get (i + 14)
          obtain ⟨l', hl', hset⟩ := hl.next (by omega)
          rw [if_neg (by omega)] at hset
          unfold mixW at hset
          rw [show i + 16 - 16 = i by omega, show i + 16 - 15 = i + 1 by omega, show i + 16 - 7 = i + 9 by omega, show i + 16 - 2 = i + 14 by omega] at hset
          have e0 := k3.cell (i := i) (by omega)
          have e1 := k3.cell (i := i + 1) (by omega)
          have e9 := k3.cell (i := i + 9) (by omega)
          have e14 := k3.cell (i := i + 14) (by omega)
          have e16 := k3.cell (i := i + 16) (by omega)
          have z16 := k3.frozen (i + 16)
          rw [hg _ (by omega)] at e0 e1 e9 e14
          generalize l.getD i 0 = a0 at *
          generalize l.getD (i + 1) 0 = x at *
          generalize l.getD (i + 9) 0 = a9 at *
          generalize l.getD (i + 14) 0 = y at *
          generalize (padZ l)[i + 16]?.getD 0 = a16 at *
          have HS := Lib.hid hset
          clear hset hg hlen
          go_wp2_with fail
          have f1 : IntKind.i64.wrap (↑i + 1) = ↑i + 1 := IntWalk.i64_in _ (by omega)
          have f14 : IntKind.i64.wrap (↑i + 14) = ↑i + 14 := IntWalk.i64_in _ (by omega)
          have p0 : (0 : Int) ≤ (i : Int) := by omega
          have p1 : (0 : Int) ≤ (i : Int) + 1 := by omega
          have p14 : (0 : Int) ≤ (i : Int) + 14 := by omega
          have l1 : (i : Int) + 1 < 64 := by omega
          have l14 : (i : Int) + 14 < 64 := by omega
          have t1 : ((i : Int) + 1).toNat = i + 1 := by omega
          have t14 : ((i : Int) + 14).toNat = i + 14 := by omega
          go_quiet (fail)
          clear f1 f14 p0 p1 p14 l1 l14 t1 t14
          go_wp2_with fail
          refine (turned_any _ 7 7 _ rfl hx (by decide)).mono ?_
          rintro e w' ⟨rfl, rfl⟩
          go_wp2_with fail
          refine (turned_any _ 18 18 _ rfl hx (by decide)).mono ?_
          rintro e w' ⟨rfl, rfl⟩
          go_wp2_with fail
          refine (turned_any _ 17 17 _ rfl hy (by decide)).mono ?_
          rintro e w' ⟨rfl, rfl⟩
          go_wp2_with fail
          refine (turned_any _ 19 19 _ rfl hy (by decide)).mono ?_
          rintro e w' ⟨rfl, rfl⟩
          go_wp2_with fail
          have f9 : IntKind.i64.wrap (↑i + 9) = ↑i + 9 := IntWalk.i64_in _ (by omega)
          have f16 : IntKind.i64.wrap (↑i + 16) = ↑i + 16 := IntWalk.i64_in _ (by omega)
          have p0 : (0 : Int) ≤ (i : Int) := by omega
          have p9 : (0 : Int) ≤ (i : Int) + 9 := by omega
          have p16 : (0 : Int) ≤ (i : Int) + 16 := by omega
          have l0 : (i : Int) < 64 := by omega
          have l9 : (i : Int) + 9 < 64 := by omega
          have l16 : (i : Int) + 16 < 64 := by omega
          have t9 : ((i : Int) + 9).toNat = i + 9 := by omega
          have t16 : ((i : Int) + 16).toNat = i + 16 := by omega
          have k3q : Arr (wr.drewN nq) (w.heap.size + 1) 166 .u32 (padZ l) := k3
          have k2q : Arr (wr.drewN nq) w.heap.size 166 .u32 (List.replicate 64 0) := k2
          have hbq : Below w.heap.size w (wr.drewN nq) := below_draws hbx nq
          have e0q : (wr.drewN nq).cell? ⟨w.heap.size + 1, i, none⟩ = some (.int .u32 a0) := e0
          have e9q : (wr.drewN nq).cell? ⟨w.heap.size + 1, i + 9, none⟩ = some (.int .u32 a9) := e9
          have e16q : (wr.drewN nq).cell? ⟨w.heap.size + 1, i + 16, none⟩ = some (.int .u32 a16) := e16
          have z16q : (wr.drewN nq).frozen? ⟨w.heap.size + 1, i + 16, none⟩ = false := z16
          clear e0 e1 e9 e14 e16 z16 k3 k2 hbx
          generalize wr.drewN nq = wq at *
          have k3d : Arr wq.drew (w.heap.size + 1) 166 .u32 (padZ l) := k3q
          have k2d : Arr wq.drew w.heap.size 166 .u32 (List.replicate 64 0) := k2q
          have hbd : Below w.heap.size w wq.drew := below_draws hbq 1
          go_still_tail 15, (by kernel_rfl)
          change wpList _ _ _ _ _ wq.drew
          have e16d := k3d.cell (i := i + 16) (by rw [padZ_length (by rw [hl.length]; omega)]; omega)
          have z16d := k3d.frozen (i + 16)
          clear f9 f16 p0 p9 p16 l0 l9 l16 t9 t16 k3q k2q hbq e0q e9q e16q z16q
          generalize wq.drew = w2 at *
          go_wp2_with fail
          have k9 := k3d.set_ (i + 16) (add32 (add32 (add32 a0 (sig0 x)) a9) (sig1 y))
          rw [HS.out, add32_4] at k9
          unfold sig0 sig1 at k9
          go_roundw
          case rel => exact ⟨i + 1, l', by omega, by go_num, hl', k9, k2d.far (by simp) _, hbd.setCell (by simp) _⟩
          case measure => simp [intOf] <;> omega
        · obtain rfl : i = 48 := by omega
          have arr64t : Tryd.prog.underlying 166 = some (.array 64 150) := Tryd.underlying166
          rw [padZ_full hl.length, hl.out] at k3
          have hsl := Lib.hid (sched_length bs 64)
          go_wp2_with (first
            | (refine wpList_load_arr rfl _ _ rfl k3 rfl arr64t rfl (by rw [hsl.out]; kernel_rfl) ?_)
            | (refine wpList_store_arr rfl _ _ _ rfl k2 rfl rfl (by rw [hsl.out]; rfl) (by rw [hsl.out]; kernel_rfl) ?_; intro w4 r4 g4))
          refine bodyPost_ret (v := arrV .u32 (sched bs 64)) (results_cell_row rfl _ _ w.heap.size 166 _ (0, 0) _ rfl r4 arr64t rfl (by rw [show ((sched bs 64).map (Value.int .u32)).toArray.size = 64 by simp [sched_length]]; kernel_rfl)) rfl ⟨rfl, ?_⟩
          exact hbx.trans (below_of_grown g4 hbx.size fun g hg => by injection hg with hg; omega)
end Go.Proofs.YtpnodocjpedcmaaDoor.Sha

namespace Go.Proofs.YtpnodocjpedcmaaDoor.Sha
open Go.ChangeShapes Go.WideShapes Go.ChangeAt Go.RowKit Go.Proofs.YtpnodocjpedcmaaDoor.Kit

/-- What the program's own table reads as. -/
def Laid (g : Nat) (l : List Int) (w : World) : Prop := ∀ k, k < l.length → w.cell? ⟨g, k, none⟩ = some (.int .u32 (l.getD k 0))
theorem Laid.lt {g : Nat} {l : List Int} {w : World} (h : Laid g l w) (hl : 0 < l.length) : g < w.heap.size := World.block_lt_of_cell? _ _ (h 0 hl)
theorem Laid.below {g : Nat} {l : List Int} {w w' : World} (h : Laid g l w) (hl : 0 < l.length) (hb : Below w.heap.size w w') : Laid g l w' := fun k hk => (hb.cell (p := ⟨g, k, none⟩) (h.lt hl)).trans (h k hk)

def LaidS (w : World) : Prop := Laid 0 cubesL w
theorem cubes_length : cubesL.length = 64 := rfl
theorem LaidS.below {w w' : World} (h : LaidS w) (hb : Below w.heap.size w w') : LaidS w' := Laid.below h (by rw [cubes_length]; omega) hb
theorem LaidS.at_ {w : World} (h : LaidS w) {i : Nat} (hi : i < 64) : w.cell? ⟨0, i, none⟩ = some (.int .u32 (cubesL.getD i 0)) := h i (by rw [cubes_length]; exact hi)

/-- A quiet call whose contract has the caller's world on the left. -/
theorem quiet_left {P : Program} {f : FuncId} {args : Array Value} {w : World} {n : Nat} {v : Value}
    (h : Calls P f args (w.drewN n) fun e w' => e = .returned v ∧ w.drewN n = w') : Calls P f args (w.drewN n) fun e w'' => e = .returned v ∧ ∃ m, w'' = w.drewN m :=
  h.mono fun _ _ ⟨he, hm⟩ => ⟨he, n, hm.symm⟩

/-- l is the state behind n rounds. -/
structure IsRnd (ws : List Int) (n : Nat) (s l : List Int) : Prop where
  out : l = roundsS ws n s

def t1 (e f g h k x : Int) : Int := add32 (add32 (add32 (add32 h (sum1 e)) (picks e f g)) k) x
def t2 (a b c : Int) : Int := add32 (sum0 a) (most a b c)
theorem IsRnd.next {ws : List Int} {n : Nat} {s : List Int} {a b c d e f g h : Int} (r : IsRnd ws n s [a, b, c, d, e, f, g, h]) {k x : Int} (hk : cubesL.getD n 0 = k) (hx : ws.getD n 0 = x) :
    IsRnd ws (n + 1) s [add32 (t1 e f g h k x) (t2 a b c), a, b, c, add32 d (t1 e f g h k x), e, f, g] := by
  subst hk; subst hx
  exact ⟨by rw [roundsS, ← r.out]; rfl⟩

theorem IsRnd.bd {ws : List Int} {n : Nat} {s l : List Int} (r : IsRnd ws n s l) (hs : St8 s) : St8 l := by rw [r.out]; exact roundsS_st ws hs n

theorem cubes_bd (i : Nat) : W32 (cubesL.getD i 0) := by
  have h : ∀ i, i < 64 → 0 ≤ cubesL.getD i 0 ∧ cubesL.getD i 0 ≤ 4294967295 := by decide +kernel
  by_cases hi : i < 64
  · exact h i hi
  · rw [List.getD_eq_getElem?_getD, List.getElem?_eq_none (by rw [cubes_length]; omega)]
    unfold W32; simp

theorem arr_of_words (W : World) (ws : List Int) (k : IntKind) (t : TypeId) : Arr (W.alloc (.cells (ws.map (Value.int k)).toArray t)) W.heap.size t k ws := Arr.new W t k ws

theorem IsRnd.mix {bs ws : List Int} (hw : IsSched bs 64 ws) {a0 b0 c0 d0 e0 f0 g0 h0 a b c d e f g h : Int} (r : IsRnd ws 64 [a0, b0, c0, d0, e0, f0, g0, h0] [a, b, c, d, e, f, g, h]) :
    mixS [a0, b0, c0, d0, e0, f0, g0, h0] bs = [add32 a0 a, add32 b0 b, add32 c0 c, add32 d0 d, add32 e0 e, add32 f0 f, add32 g0 g, add32 h0 h] := by
  unfold mixS
  rw [← hw.out, ← r.out]
  rfl

set_option maxRecDepth 100000 in
set_option maxHeartbeats 3200000 in
theorem mix_any (s : List Int) (hs : St8 s) (A : Option Addr) (bs : List Int) (c : Nat) (w : World) (hl : bs.length = 64) (hc : 64 ≤ c) (hm : c ≤ maxLen) (ho : Octets bs) (hr : Holds w w.heap.size .u8 A bs) (hL : LaidS w) :
    Calls Tryd.prog 88 #[arrV .u32 s, .slice A 64 c] w fun e w' => e = .returned (arrV .u32 (mixS s bs)) ∧ Below w.heap.size w w' := by
  obtain ⟨a0, b0, c0, d0, e0, f0, g0, h0, rfl, wa, wb, wc, wd, we, wf, wg, wh⟩ := hs.open_
  have GW := fun W hb => words_any A bs c W hl hc hm ho ((hr.below hb).more hb.size)
  obtain ⟨ws, hws⟩ : ∃ ws, IsSched bs 64 ws := ⟨_, ⟨rfl⟩⟩
  rw [← hws.out] at GW
  have GW := Lib.hid GW
  unfold arrV
  go_enter Tryd.func88, Tryd.ntmps88
  go_wp2_with fail
  refine (GW.out _ (((Below.refl _ _).alloc (Nat.le_refl _) _).alloc (by simp) _)).mono ?_
  rintro e w1 ⟨rfl, hb1⟩
  have sa : Arr w1 w.heap.size 151 .u32 [a0, b0, c0, d0, e0, f0, g0, h0] := ((arr_of_words w _ _ _).alloc _).below hb1 (by simp <;> omega)
  have sr : Arr w1 (w.heap.size + 1) 151 .u32 [0, 0, 0, 0, 0, 0, 0, 0] := by
    have := (arr_of_words (w.alloc (.cells ([a0, b0, c0, d0, e0, f0, g0, h0].map (Value.int .u32)).toArray 151)) [0, 0, 0, 0, 0, 0, 0, 0] .u32 151).below hb1 (by simp)
    rwa [show (w.alloc (.cells ([a0, b0, c0, d0, e0, f0, g0, h0].map (Value.int .u32)).toArray 151)).heap.size = w.heap.size + 1 by simp] at this
  have hz1 : w.heap.size + 1 < w1.heap.size := sr.lt
  have hbw : Below w.heap.size w w1 := (((Below.refl _ _).alloc (Nat.le_refl _) _).alloc (by simp) _).trans (hb1.mono (by simp; omega))
  clear GW hb1
  go_wp2_with (refine wpList_store_arr rfl _ _ _ rfl (arr64 w1) rfl rfl (by rw [hws.length]; rfl) (by rw [hws.length]; kernel_rfl) ?_; intro w2 r2 g2)
  have hb2 : Below w.heap.size w w2 := (hbw.trans ((Below.refl _ w1).alloc (by omega) _)).trans (below_of_grown g2 (by simp; omega) (fun g hg => by injection hg with hg; omega))
  have s2 : Arr w2 w.heap.size 151 .u32 [a0, b0, c0, d0, e0, f0, g0, h0] := (sa.alloc _).grown g2 (by intro h; injection h with h; omega)
  have o2 : Arr w2 (w.heap.size + 1) 151 .u32 [0, 0, 0, 0, 0, 0, 0, 0] := (sr.alloc _).grown g2 (by intro h; injection h with h; omega)
  clear g2 sa sr hbw
  have q0 : w2.cell? ⟨w.heap.size, 0, none⟩ = some (.int .u32 a0) := s2.cell (i := 0) (by simp)
  have q1 : w2.cell? ⟨w.heap.size, 1, none⟩ = some (.int .u32 b0) := s2.cell (i := 1) (by simp)
  have q2 : w2.cell? ⟨w.heap.size, 2, none⟩ = some (.int .u32 c0) := s2.cell (i := 2) (by simp)
  have q3 : w2.cell? ⟨w.heap.size, 3, none⟩ = some (.int .u32 d0) := s2.cell (i := 3) (by simp)
  have q4 : w2.cell? ⟨w.heap.size, 4, none⟩ = some (.int .u32 e0) := s2.cell (i := 4) (by simp)
  have q5 : w2.cell? ⟨w.heap.size, 5, none⟩ = some (.int .u32 f0) := s2.cell (i := 5) (by simp)
  have q6 : w2.cell? ⟨w.heap.size, 6, none⟩ = some (.int .u32 g0) := s2.cell (i := 6) (by simp)
  have q7 : w2.cell? ⟨w.heap.size, 7, none⟩ = some (.int .u32 h0) := s2.cell (i := 7) (by simp)
  go_wp2_with fail
  go_quiet (fail)
  go_wp2_with fail
  go_quiet (fail)
  go_wp2_with fail
  clear q0 q1 q2 q3 q4 q5 q6 q7
  generalize w1.heap.size = B1 at *
  go_loopw [6, 7, 8, 9, 10, 11, 12, 13, 35] (fun sa sb sc sd se sf sg sh s wx => ∃ (i : Nat) (a b c d e f g h : Int), i ≤ 64 ∧ s = .int .i64 i ∧ sa = .int .u32 a ∧ sb = .int .u32 b ∧ sc = .int .u32 c ∧ sd = .int .u32 d ∧ se = .int .u32 e ∧ sf = .int .u32 f ∧ sg = .int .u32 g ∧ sh = .int .u32 h ∧
      IsRnd ws i [a0, b0, c0, d0, e0, f0, g0, h0] [a, b, c, d, e, f, g, h] ∧ Arr wx B1 166 .u32 ws ∧ Arr wx w.heap.size 151 .u32 [a0, b0, c0, d0, e0, f0, g0, h0] ∧ Arr wx (w.heap.size + 1) 151 .u32 [0, 0, 0, 0, 0, 0, 0, 0] ∧ Below w.heap.size w wx)
      (fun _ _ _ _ _ _ _ _ s _ => 64 - (intOf s).toNat)
  case atStart => exact ⟨0, a0, b0, c0, d0, e0, f0, g0, h0, by omega, rfl, rfl, rfl, rfl, rfl, rfl, rfl, rfl, rfl, ⟨rfl⟩, r2, s2, o2, below_draws (below_draws hb2 _) _⟩
  case round =>
    clear r2 s2 o2 hb2
    obtain ⟨i, a, b, c, d, e, f, g, h, hi, rfl, rfl, rfl, rfl, rfl, rfl, rfl, rfl, rfl, hR, r2, s2, o2, hb⟩ := hrel
    by_cases hlt : i < 64
    · have hst := hR.bd ⟨rfl, fun x hx => by
        simp only [List.mem_cons, List.not_mem_nil, or_false] at hx
        rcases hx with rfl | rfl | rfl | rfl | rfl | rfl | rfl | rfl <;> assumption⟩
      have xa := hst.2 a (by simp)
      have xb := hst.2 b (by simp)
      have xc := hst.2 c (by simp)
      have xd := hst.2 d (by simp)
      have xe := hst.2 e (by simp)
      have xf := hst.2 f (by simp)
      have xg := hst.2 g (by simp)
      have xh := hst.2 h (by simp)
      have kc := (hb.cell (p := ⟨0, i, none⟩) (hL.lt (by rw [cubes_length]; omega))).trans (hL.at_ hlt)
      have kw := r2.cell (i := i) (by rw [hws.length]; omega)
      have xw := hws.get i
      have xk := cubes_bd i
      have hN := hR.next (k := cubesL.getD i 0) (x := ws[i]?.getD 0) rfl rfl
      rw [List.getD_eq_getElem?_getD] at xw
      generalize cubesL.getD i 0 = K at *
      generalize ws[i]?.getD 0 = X at *
      have HN := Lib.hid hN
      clear hst hR hN hr hs wa wb wc wd we wf wg wh
      go_wp2_with fail
      refine wp_region_quiet_lit (by kernel_rfl) (by kernel_rfl) ?_
      repeat (quiet_step (fail))
      quiet_step (exact quiet_left (turned_any e 6 6 _ rfl xe (by decide)))
      repeat (quiet_step (fail))
      quiet_step (exact quiet_left (turned_any e 11 11 _ rfl xe (by decide)))
      repeat (quiet_step (fail))
      quiet_step (exact quiet_left (turned_any e 25 25 _ rfl xe (by decide)))
      repeat (quiet_step (fail))
      refine wpQuiet_nil ?_
      intro _ hw'
      obtain ⟨nq, hw''⟩ := hw'
      subst hw''
      go_wp2_with fail
      refine (turned_any a 2 2 _ rfl xa (by decide)).mono ?_
      rintro _ _ ⟨rfl, rfl⟩
      go_wp2_with fail
      refine (turned_any a 13 13 _ rfl xa (by decide)).mono ?_
      rintro _ _ ⟨rfl, rfl⟩
      go_wp2_with fail
      refine (turned_any a 22 22 _ rfl xa (by decide)).mono ?_
      rintro _ _ ⟨rfl, rfl⟩
      go_wp2_with fail
      go_roundw
      case rel => exact ⟨i + 1, _, _, _, _, _, _, _, _, by omega, by go_num, rfl, rfl, rfl, rfl, rfl, rfl, rfl, rfl, HN.out, r2, s2, o2, below_draws hb nq⟩
      case measure => simp [intOf] <;> omega
    · obtain rfl : i = 64 := by omega
      have hM := hR.mix hws
      unfold add32 at hM
      have HM := Lib.hid hM
      have q0 : wr.cell? ⟨w.heap.size, 0, none⟩ = some (.int .u32 a0) := s2.cell (i := 0) (by simp)
      have q1 : wr.cell? ⟨w.heap.size, 1, none⟩ = some (.int .u32 b0) := s2.cell (i := 1) (by simp)
      have q2 : wr.cell? ⟨w.heap.size, 2, none⟩ = some (.int .u32 c0) := s2.cell (i := 2) (by simp)
      have q3 : wr.cell? ⟨w.heap.size, 3, none⟩ = some (.int .u32 d0) := s2.cell (i := 3) (by simp)
      have q4 : wr.cell? ⟨w.heap.size, 4, none⟩ = some (.int .u32 e0) := s2.cell (i := 4) (by simp)
      have q5 : wr.cell? ⟨w.heap.size, 5, none⟩ = some (.int .u32 f0) := s2.cell (i := 5) (by simp)
      have q6 : wr.cell? ⟨w.heap.size, 6, none⟩ = some (.int .u32 g0) := s2.cell (i := 6) (by simp)
      have q7 : wr.cell? ⟨w.heap.size, 7, none⟩ = some (.int .u32 h0) := s2.cell (i := 7) (by simp)
      clear hM hR hr hs wa wb wc wd we wf wg wh
      have arr8 : Tryd.prog.underlying 151 = some (.array 8 150) := Tryd.underlying151
      go_wp2_with (refine wpList_store_arr (ys := [(a0 + a) % 4294967296, (b0 + b) % 4294967296, (c0 + c) % 4294967296, (d0 + d) % 4294967296, (e0 + e) % 4294967296, (f0 + f) % 4294967296, (g0 + g) % 4294967296, (h0 + h) % 4294967296]) rfl _ _ _ rfl o2 rfl rfl rfl (by kernel_rfl) ?_; intro w4 r4 g4)
      rw [HM.out]
      refine bodyPost_ret (v := arrV .u32 _) (results_cell_row rfl _ _ (w.heap.size + 1) 151 _ (0, 0) _ rfl r4 arr8 rfl (by kernel_rfl)) rfl ⟨rfl, ?_⟩
      exact hb.trans (below_of_grown g4 hb.size fun g hg => by injection hg with hg; omega)
end Go.Proofs.YtpnodocjpedcmaaDoor.Sha

namespace Go.Proofs.YtpnodocjpedcmaaDoor.Sha
open Go.ChangeShapes Go.WideShapes Go.ChangeAt Go.RowKit Go.Proofs.YtpnodocjpedcmaaDoor.Kit

theorem iv_st : St8 ivL := ⟨rfl, (by decide : ∀ x ∈ ivL, 0 ≤ x ∧ x ≤ 4294967295)⟩
/-- The state behind the whole blocks of bytes. -/
def stateL (xs : List Int) : List Int := foldN (xs.length / 64) ivL xs
theorem stateL_st (xs : List Int) : St8 (stateL xs) := foldN_st _ _ iv_st
theorem stateL_nil : stateL [] = ivL := rfl
theorem stateL_part {ys zs : List Int} (h : ys.length % 64 = 0) (hz : zs.length < 64) : stateL (ys ++ zs) = stateL ys := by
  unfold stateL
  rw [List.length_append, show (ys.length + zs.length) / 64 = ys.length / 64 by omega, foldN_app _ _ _ _ (by omega)]
theorem stateL_block {ys zs : List Int} (h : ys.length % 64 = 0) (hz : zs.length = 64) : stateL (ys ++ zs) = mixS (stateL ys) zs := by
  unfold stateL
  rw [List.length_append, show (ys.length + zs.length) / 64 = ys.length / 64 + 1 by omega, foldN_next, foldN_app _ _ _ _ (by omega)]
  congr 1
  rw [show 64 * (ys.length / 64) = ys.length by omega, List.drop_append_of_le_length (Nat.le_refl _), List.drop_length, List.nil_append, List.take_of_length_le (by omega)]

theorem stateL_whole (xs : List Int) : stateL (xs.take (64 * (xs.length / 64))) = stateL xs := by
  have h := stateL_part (ys := xs.take (64 * (xs.length / 64))) (zs := xs.drop (64 * (xs.length / 64))) (by simp; omega) (by simp; omega)
  rw [List.take_append_drop] at h
  exact h.symm
theorem state_same {xs bs : List Int} (h : xs.length % 64 + bs.length < 64) : stateL (xs ++ bs) = stateL xs := by
  have h1 := stateL_part (ys := xs.take (64 * (xs.length / 64))) (zs := xs.drop (64 * (xs.length / 64)) ++ bs) (by simp; omega) (by simp; omega)
  rw [← List.append_assoc, List.take_append_drop, stateL_whole] at h1
  exact h1
theorem state_full {xs zs : List Int} (h : xs.length % 64 + zs.length = 64) : stateL (xs ++ zs) = mixS (stateL xs) (xs.drop (64 * (xs.length / 64)) ++ zs) := by
  have h1 := stateL_block (ys := xs.take (64 * (xs.length / 64))) (zs := xs.drop (64 * (xs.length / 64)) ++ zs) (by simp; omega) (by simp; omega)
  rw [← List.append_assoc, List.take_append_drop, stateL_whole] at h1
  exact h1
theorem rest_next {xs bs r : List Int} (h2 : r.length = 64) (h3 : r.take (xs.length % 64) = xs.drop (64 * (xs.length / 64))) (hs : xs.length % 64 + bs.length < 64) :
    (r.take (xs.length % 64) ++ (bs ++ r.drop (xs.length % 64 + bs.length))).take ((xs ++ bs).length % 64) = (xs ++ bs).drop (64 * ((xs ++ bs).length / 64)) := by
  rw [h3, List.length_append, show (xs.length + bs.length) % 64 = xs.length % 64 + bs.length by omega, show 64 * ((xs.length + bs.length) / 64) = 64 * (xs.length / 64) by omega,
    ← List.append_assoc, List.take_append_of_le_length (by simp; omega), List.take_of_length_le (by simp; omega), List.drop_append_of_le_length (by omega)]
theorem rest_full {xs zs r : List Int} (h3 : r.take (xs.length % 64) = xs.drop (64 * (xs.length / 64))) (h2 : r.length = 64) (hs : xs.length % 64 + zs.length = 64) :
    r.take (xs.length % 64) ++ (zs ++ r.drop (xs.length % 64 + zs.length)) = xs.drop (64 * (xs.length / 64)) ++ zs := by
  rw [h3, hs, List.drop_of_length_le (l := r) (by omega), List.append_nil]
/-- What is copied into an empty rest. -/
theorem rest_last {ys zs r : List Int} (h : ys.length % 64 = 0) (hz : zs.length < 64) : (zs ++ r).take ((ys ++ zs).length % 64) = (ys ++ zs).drop (64 * ((ys ++ zs).length / 64)) := by
  rw [List.length_append, show (ys.length + zs.length) % 64 = zs.length by omega, show 64 * ((ys.length + zs.length) / 64) = ys.length by omega, List.take_left, List.drop_left]

def tailZ (n : Nat) : Nat := (119 - n % 64) % 64
theorem tailZ_lt (n : Nat) : tailZ n < 64 := by unfold tailZ; omega
theorem tailZ_mod (n : Nat) : (n + (9 + tailZ n)) % 64 = 0 := by unfold tailZ; omega
def lenB (n : Nat) : List Int := (List.range 8).map fun i => ((8 * n / 2 ^ (56 - 8 * i) % 256 : Nat) : Int)
theorem lenB_length (n : Nat) : (lenB n).length = 8 := by simp [lenB]
/-- What stands behind n bytes. -/
def endB (n : Nat) : List Int := 128 :: (List.replicate (tailZ n) 0 ++ lenB n)
theorem endB_length (n : Nat) : (endB n).length = 9 + tailZ n := by simp [endB, lenB_length]; omega
theorem lenB_octets (n : Nat) : Octets (lenB n) := by
  intro x hx
  obtain ⟨i, _, rfl⟩ := List.mem_map.1 hx
  omega
theorem endB_octets (n : Nat) : Octets (endB n) := by
  intro x hx
  rcases List.mem_cons.1 hx with rfl | hx
  · omega
  · rcases List.mem_append.1 hx with hx | hx
    · obtain ⟨_, rfl⟩ := List.mem_replicate.1 hx; omega
    · exact lenB_octets n x hx
def padL (xs : List Int) : List Int := xs ++ endB xs.length
theorem padL_mod (xs : List Int) : (padL xs).length % 64 = 0 := by
  unfold padL
  rw [List.length_append, endB_length]
  exact tailZ_mod _
/-- The bytes of a state. -/
def digL (s : List Int) : List Int := (List.range 32).map fun i => s.getD (i / 4) 0 / 2 ^ (24 - 8 * (i % 4)) % 256
theorem digL_length (s : List Int) : (digL s).length = 32 := by simp [digL]
theorem digL_octets (s : List Int) : Octets (digL s) := by
  intro x hx
  obtain ⟨i, _, rfl⟩ := List.mem_map.1 hx
  omega
/-- The sum of bytes. -/
def sumL (xs : List Int) : List Int := digL (stateL (padL xs))
theorem sumL_length (xs : List Int) : (sumL xs).length = 32 := digL_length _
theorem sumL_octets (xs : List Int) : Octets (sumL xs) := digL_octets _

/-! ### What a hash's block has -/

def hcells (st rest : List Int) (n : Int) : List Value := st.map (.int .u32) ++ (rest.map (.int .u8) ++ [.int .u64 n])
theorem hcells_length {st rest : List Int} (n : Int) (hs : st.length = 8) (hr : rest.length = 64) : (hcells st rest n).length = 73 := by simp [hcells, hs, hr]

/-- Block g is a hash of this state, these bytes that wait, so many taken. -/
def HB (w : World) (g : Nat) (st rest : List Int) (n : Int) : Prop := Block w g 154 (hcells st rest n).toArray

section
variable {w w' : World} {g : Nat} {st rest : List Int} {n : Int}
theorem HB.lt (h : HB w g st rest n) : g < w.heap.size := Block.lt h
theorem HB.frozen (h : HB w g st rest n) (i : Nat) : w.frozen? ⟨g, i, none⟩ = false := Block.frozen h i
theorem HB.out {S : Nat → Prop} (h : HB w g st rest n) (ho : TurnsIn S w w') (hg : ¬ S g) : HB w' g st rest n := Block.out h ho hg
theorem HB.below {B : Nat} (h : HB w g st rest n) (hb : Below B w w') (hg : g < B) : HB w' g st rest n := Block.below h hb hg
theorem HB.stCell (h : HB w g st rest n) (hs : st.length = 8) {i : Nat} (hi : i < 8) : w.cell? ⟨g, i, none⟩ = some (.int .u32 (st[i]?.getD 0)) := by
  rw [Block.cell h i]
  simp only [List.getElem?_toArray, hcells]
  rw [List.getElem?_append_left (by simp; omega)]
  simp [List.getElem?_eq_getElem (show i < st.length by omega)]
theorem HB.restCell (h : HB w g st rest n) (hs : st.length = 8) (hr : rest.length = 64) {i : Nat} (hi : i < 64) : w.cell? ⟨g, 8 + i, none⟩ = some (.int .u8 (rest[i]?.getD 0)) := by
  rw [Block.cell h (8 + i)]
  simp only [List.getElem?_toArray, hcells]
  rw [List.getElem?_append_right (by simp; omega), List.getElem?_append_left (by simp; omega)]
  simp [hs, List.getElem?_eq_getElem (show i < rest.length by omega)]
theorem HB.taken (h : HB w g st rest n) (hs : st.length = 8) (hr : rest.length = 64) : w.cell? ⟨g, 72, none⟩ = some (.int .u64 n) := by
  rw [Block.cell h 72]
  simp only [List.getElem?_toArray, hcells]
  rw [List.getElem?_append_right (by simp; omega), List.getElem?_append_right (by simp; omega)]
  simp [hs, hr]
theorem HB.setTaken (h : HB w g st rest n) (hs : st.length = 8) (hr : rest.length = 64) (m : Int) : HB (w.setCell ⟨g, 72, none⟩ (.int .u64 m)) g st rest m := by
  have := Block.set_ h 72 (.int .u64 m)
  unfold HB
  rw [List.setIfInBounds_toArray] at this
  have e : (hcells st rest n).set 72 (.int .u64 m) = hcells st rest m := by
    unfold hcells
    rw [List.set_append, if_neg (by simp; omega), List.set_append, if_neg (by simp; omega)]
    simp [hs, hr]
  rwa [e] at this
theorem HB.range (h : HB w g st rest n) : w.rangeAt g 0 (hcells st rest n) := by
  have := World.rangeAt_of_block h 0 (hcells st rest n).length
  simpa using this
theorem hcells_one (st rest : List Int) (n : Int) : ∀ v ∈ hcells st rest n, v.oneCell' = true := by
  intro v hv
  simp only [hcells, List.mem_append, List.mem_map, List.mem_singleton] at hv
  rcases hv with ⟨x, _, rfl⟩ | ⟨x, _, rfl⟩ | rfl <;> rfl
theorem HB.restHolds (h : HB w g st rest n) (hs : st.length = 8) (hr : rest.length = 64) : Holds w w.heap.size .u8 (some ⟨g, 8, none⟩) rest := by
  intro _
  exact ⟨g, 8, rfl, h.lt, fun j hj => by rw [h.restCell hs hr (by omega)]; simp [List.getD]⟩
theorem hcells_splice {zs : List Int} {q : Nat} (hs : st.length = 8) (hr : rest.length = 64) (hq : q + zs.length ≤ 64) :
    (hcells st rest n).take (8 + q) ++ (zs.map (Value.int .u8) ++ (hcells st rest n).drop (8 + q + zs.length)) = hcells st (rest.take q ++ (zs ++ rest.drop (q + zs.length))) n := by
  unfold hcells
  rw [List.take_append, List.take_of_length_le (by simp; omega), List.take_append_of_le_length (by simp; omega), List.drop_append, List.drop_of_length_le (by simp; omega), List.nil_append, List.drop_append_of_le_length (by simp; omega)]
  simp only [List.length_map, hs, show 8 + q - 8 = q by omega, show 8 + q + zs.length - 8 = q + zs.length by omega, List.map_append, List.map_take, List.map_drop, List.append_assoc]
theorem HB.there (h : HB w g st rest n) (m : Nat) (hm : m ≤ (hcells st rest n).length) : w.there g 0 m := fun j hj => by
  rw [Nat.zero_add, Block.cell h j]
  exact ⟨by simp; omega, h.frozen j⟩
theorem HB.setAll (h : HB w g st rest n) (hs : st.length = 8) (hr : rest.length = 64) {st2 rest2 : List Int} (n2 : Int) (h2 : st2.length = 8) (h3 : rest2.length = 64) : HB (w.setCells g 0 (hcells st2 rest2 n2)) g st2 rest2 n2 := by
  have := setCells_block (hcells st2 rest2 n2) 0 w _ h (by simp [hcells, h2, h3]; omega)
  unfold HB
  have e : (hcells st rest n).take 0 ++ (hcells st2 rest2 n2 ++ (hcells st rest n).drop (0 + (hcells st2 rest2 n2).length)) = hcells st2 rest2 n2 := by
    rw [List.drop_of_length_le (by rw [hcells_length _ hs hr, hcells_length _ h2 h3]; omega)]
    simp
  simp only [] at this
  rwa [e] at this
/-- A whole hash is stored over another. -/
theorem wpList_store_hash {P : Program} {ops : Array Oper} {more : List Oper} {o : Oper} {a : Act} {Q : Exit → Act → World → Prop} (hgd : o.guard = none) (ty : TypeId) (x y : Operand) (ho : o.op = .store ty x y)
    (h : HB w g st rest n) (hs : st.length = 8) (hr : rest.length = 64) {st2 rest2 : List Int} {n2 : Int} (h2 : st2.length = 8) (h3 : rest2.length = 64) (hx : a.eval x = .pointer (some ⟨g, 0, none⟩)) (hy : a.eval y = .agg (hcells st2 rest2 n2).toArray)
    (hi : (P.info? ty).map (·.size) = some 73) (hK : ∀ w', HB w' g st2 rest2 n2 → w.grownBy w' (some g) → wpList P ops Q more (a.put o.dst undef) w') : wpList P ops Q (o :: more) a w := by
  refine wpList_store_mid hgd ty x y ho g 0 (hcells st2 rest2 n2).toArray hx hy (h.there _ (by simp [hcells, h2, h3, hs, hr])) (by rw [hi]; simp [hcells, h2, h3]) (all_oneCell_toArray (hcells_one st2 rest2 n2)) ?_
  exact hK _ (h.setAll hs hr n2 h2 h3) (setCells_grown g _ 0 w)
theorem HB.setState (h : HB w g st rest n) (hs : st.length = 8) {s2 : List Int} (h2 : s2.length = 8) : HB (w.setCells g 0 (s2.map (.int .u32))) g s2 rest n := by
  have := setCells_block (s2.map (Value.int .u32)) 0 w _ h (by simp [hcells]; omega)
  unfold HB
  have e : (hcells st rest n).take 0 ++ (s2.map (Value.int .u32) ++ (hcells st rest n).drop (0 + (s2.map (Value.int .u32)).length)) = hcells s2 rest n := by
    unfold hcells
    simp [h2, hs]
  simp only [] at this
  rwa [e] at this
end
end Go.Proofs.YtpnodocjpedcmaaDoor.Sha

namespace Go.Proofs.YtpnodocjpedcmaaDoor.Sha
open Go.ChangeShapes Go.WideShapes Go.ChangeAt Go.RowKit Go.Proofs.YtpnodocjpedcmaaDoor.Kit

/-- Block g is a hash that has taken these bytes. -/
structure HashIs (w : World) (g : Nat) (xs : List Int) : Prop where
  ex : ∃ rest, HB w g (stateL xs) rest xs.length ∧ rest.length = 64 ∧ rest.take (xs.length % 64) = xs.drop (64 * (xs.length / 64))

theorem HashIs.lt {w : World} {g : Nat} {xs : List Int} (h : HashIs w g xs) : g < w.heap.size := by
  obtain ⟨r, h1, _⟩ := h.ex
  exact h1.lt
theorem HashIs.out {w w' : World} {g : Nat} {xs : List Int} {S : Nat → Prop} (h : HashIs w g xs) (ho : TurnsIn S w w') (hg : ¬ S g) : HashIs w' g xs := by
  obtain ⟨r, h1, h2, h3⟩ := h.ex
  exact ⟨r, h1.out ho hg, h2, h3⟩
theorem HashIs.below {w w' : World} {g B : Nat} {xs : List Int} (h : HashIs w g xs) (hb : Below B w w') (hg : g < B) : HashIs w' g xs := by
  obtain ⟨r, h1, h2, h3⟩ := h.ex
  exact ⟨r, h1.below hb hg, h2, h3⟩

theorem zero_hash (W : World) : (zeroValue 154).run Tryd.prog W = .ok (.agg #[.int .u32 0, .int .u32 0, .int .u32 0, .int .u32 0, .int .u32 0, .int .u32 0, .int .u32 0, .int .u32 0, .int .u8 0, .int .u8 0, .int .u8 0, .int .u8 0, .int .u8 0, .int .u8 0, .int .u8 0, .int .u8 0, .int .u8 0, .int .u8 0, .int .u8 0, .int .u8 0, .int .u8 0, .int .u8 0, .int .u8 0, .int .u8 0, .int .u8 0, .int .u8 0, .int .u8 0, .int .u8 0, .int .u8 0, .int .u8 0, .int .u8 0, .int .u8 0, .int .u8 0, .int .u8 0, .int .u8 0, .int .u8 0, .int .u8 0, .int .u8 0, .int .u8 0, .int .u8 0, .int .u8 0, .int .u8 0, .int .u8 0, .int .u8 0, .int .u8 0, .int .u8 0, .int .u8 0, .int .u8 0, .int .u8 0, .int .u8 0, .int .u8 0, .int .u8 0, .int .u8 0, .int .u8 0, .int .u8 0, .int .u8 0, .int .u8 0, .int .u8 0, .int .u8 0, .int .u8 0, .int .u8 0, .int .u8 0, .int .u8 0, .int .u8 0, .int .u8 0, .int .u8 0, .int .u8 0, .int .u8 0, .int .u8 0, .int .u8 0, .int .u8 0, .int .u8 0, .int .u64 0]) W := by kernel_rfl

theorem zero_block (W : World) : HB (W.alloc (.cells #[.int .u32 0, .int .u32 0, .int .u32 0, .int .u32 0, .int .u32 0, .int .u32 0, .int .u32 0, .int .u32 0, .int .u8 0, .int .u8 0, .int .u8 0, .int .u8 0, .int .u8 0, .int .u8 0, .int .u8 0, .int .u8 0, .int .u8 0, .int .u8 0, .int .u8 0, .int .u8 0, .int .u8 0, .int .u8 0, .int .u8 0, .int .u8 0, .int .u8 0, .int .u8 0, .int .u8 0, .int .u8 0, .int .u8 0, .int .u8 0, .int .u8 0, .int .u8 0, .int .u8 0, .int .u8 0, .int .u8 0, .int .u8 0, .int .u8 0, .int .u8 0, .int .u8 0, .int .u8 0, .int .u8 0, .int .u8 0, .int .u8 0, .int .u8 0, .int .u8 0, .int .u8 0, .int .u8 0, .int .u8 0, .int .u8 0, .int .u8 0, .int .u8 0, .int .u8 0, .int .u8 0, .int .u8 0, .int .u8 0, .int .u8 0, .int .u8 0, .int .u8 0, .int .u8 0, .int .u8 0, .int .u8 0, .int .u8 0, .int .u8 0, .int .u8 0, .int .u8 0, .int .u8 0, .int .u8 0, .int .u8 0, .int .u8 0, .int .u8 0, .int .u8 0, .int .u8 0, .int .u64 0] 154)) W.heap.size (List.replicate 8 0) (List.replicate 64 0) 0 := Block.new W _ _

set_option maxRecDepth 100000 in
set_option maxHeartbeats 1600000 in
theorem new_any (w : World) :
    Calls Tryd.prog 65 #[] w fun e w' => e = .returned (.pointer (some ⟨w.heap.size, 0, none⟩)) ∧ HashIs w' w.heap.size [] ∧ Below w.heap.size w w' := by
  have hz := zero_hash
  go_enter Tryd.func65, Tryd.ntmps65
  go_wp2_with fail
  go_ret
  exact ⟨rfl, ⟨List.replicate 64 0, Block.new w _ _, rfl, rfl⟩, (Below.refl _ _).alloc (Nat.le_refl _) _⟩

end Go.Proofs.YtpnodocjpedcmaaDoor.Sha

namespace Go.Proofs.YtpnodocjpedcmaaDoor.Kit
open Go.ChangeShapes Go.WideShapes Go.ChangeAt Go.RowKit

/-- The head of the list is an array of integers: its cells; and the rest. -/
theorem laid_ints {P : Program} {w : World} {nm : String} {d : DataW Unit} {r : List (String × DataW Unit)} {ps : List MemPlace} (h : DataW.LaidVars P w ((nm, d) :: r) ps)
    {k : IntKind} (xs : List Int) (hd : d = .agg (xs.map fun z => .lit (.int k z))) {g : Nat} {t e : TypeId} (hg : P.globalNamed nm = some g) (ht : (P.globals[g]?).map (·.type) = some t)
    (hu : P.underlying t = some (.array xs.length e)) (he : P.underlying e = some (.int k)) (hc : P.cellsOf e = 1) :
    (∀ i, i < xs.length → w.cell? ⟨g, i, none⟩ = some (.int k (xs.getD i 0))) ∧ ∃ q, DataW.LaidVars P w r q := by
  obtain ⟨g', t', cs, fuel, p, q, hg', ht', hv, htr, hrest, _⟩ := h
  obtain rfl := Option.some.inj (hg.symm.trans hg')
  obtain rfl := Option.some.inj (ht.symm.trans ht')
  refine ⟨fun i hi => ?_, q, hrest⟩
  obtain ⟨ys, m, _, hy, hl, hn, hel⟩ := DataW.trod_array hu htr
  subst hd
  simp only [Prod.mk.injEq, DataW.agg.injEq] at hy
  have hyi : ys[i]? = some (ys[i]'(by omega)) := List.getElem?_eq_getElem (by omega)
  have h1 := hel i hi
  rw [hc, Nat.mul_one, hyi] at h1
  obtain ⟨z, hz, hz2, _⟩ := DataW.trod_int he h1
  have h2 : (ys.map (·.1))[i]? = (xs.map fun z => (DataW.lit (.int k z) : DataW Unit))[i]? := by rw [hy.1]
  rw [List.getElem?_map, hyi, List.getElem?_map, List.getElem?_eq_getElem hi, Option.map_some, Option.map_some, hz2] at h2
  injection h2 with h2
  simp only [DataW.lit.injEq, Lit.int.injEq] at h2
  have h3 := World.var?_cell hg' hv i
  rw [h3, List.getD_eq_getElem?_getD, List.getElem?_eq_getElem hi, Option.getD_some, ← h2.2]
  have h4 : ((cs.toList.drop i).take 1)[0]? = some (.int k z) := by rw [hz]; rfl
  rw [List.getElem?_take, List.getElem?_drop] at h4
  simpa using h4
end Go.Proofs.YtpnodocjpedcmaaDoor.Kit
