/-
  Own words for package-level arrays of integers that the program's own text lays. No program. No conditions beyond what each theorem names.
-/
import Derived.Test.YtpnodocjpedcmaaDoorKit
import Derived.LaidMore
import Derived.MakeChecks
import Derived.Stop.Joined
import Derived.OpenShut
namespace Go.Proofs.YtpnodocjpedcmaaDoor.Kit
open Go.ChangeShapes Go.WideShapes Go.ChangeAt Go.RowKit

/-- The head of the list is an array of integers: its cells; and the rest. -/
theorem laid_ints {P : Program} {w : World} {nm : String} {d : DataW Unit} {r : List (String × DataW Unit)} {ps : List MemPlace} (h : DataW.LaidVars P w ((nm, d) :: r) ps)
    {k : IntKind} (xs : List Int) (hd : d = .agg (xs.map fun z => .lit (.int k z))) {g : Nat} {t e : TypeId} (hg : P.globalNamed nm = some g) (ht : (P.globals[g]?).map (·.type) = some t)
    (hu : P.underlying t = some (.array xs.length e)) (he : P.underlying e = some (.int k)) (hc : P.cellsOf e = 1) :
    (∀ i, i < xs.length → w.cell? ⟨g, i, none⟩ = some (.int k (xs.getD i 0))) ∧ ∃ q, DataW.LaidVars P w r q := by
  obtain ⟨g', t', cs, fuel, p, q, hg', ht', hv, htr, hrest, _⟩ := h
  obtain rfl := Option.some.inj (hg.symm.trans hg')
  obtain rfl := Option.some.inj (ht.symm.trans ht')
  refine ⟨fun i hi => ?_, q, hrest⟩
  obtain ⟨ys, m, _, hy, hl, hn, hel⟩ := DataW.trod_array hu htr
  subst hd
  simp only [Prod.mk.injEq, DataW.agg.injEq] at hy
  have hyi : ys[i]? = some (ys[i]'(by omega)) := List.getElem?_eq_getElem (by omega)
  have h1 := hel i hi
  rw [hc, Nat.mul_one, hyi] at h1
  obtain ⟨z, hz, hz2, _⟩ := DataW.trod_int he h1
  have h2 : (ys.map (·.1))[i]? = (xs.map fun z => (DataW.lit (.int k z) : DataW Unit))[i]? := by rw [hy.1]
  rw [List.getElem?_map, hyi, List.getElem?_map, List.getElem?_eq_getElem hi, Option.map_some, Option.map_some, hz2] at h2
  injection h2 with h2
  simp only [DataW.lit.injEq, Lit.int.injEq] at h2
  have h3 := World.var?_cell hg' hv i
  rw [h3, List.getD_eq_getElem?_getD, List.getElem?_eq_getElem hi, Option.getD_some, ← h2.2]
  have h4 : ((cs.toList.drop i).take 1)[0]? = some (.int k z) := by rw [hz]; rfl
  rw [List.getElem?_take, List.getElem?_drop] at h4
  simpa using h4
end Go.Proofs.YtpnodocjpedcmaaDoor.Kit
