/-
  Own words: rows of different element types lie apart; a slice of integers of any kind as a parameter. No program. No conditions beyond what each theorem names.
-/
import Derived.Test.YtheofegmbajmkaaStr
namespace Go.Proofs.Ytheofegmbajmkaa.Kit
open Go.ChangeShapes Go.WideShapes Go.ChangeAt Go.RowKit

theorem Own.apart_type {w : World} {B B' : Nat} {e e' : TypeId} {k k' : IntKind} {u v : Value} {xs ys : List Int} (h : Own w B e k u xs) (g : Own w B' e' k' v ys) (hne : e ≠ e') : Apart u v := by
  intro b hb hv
  rcases h.2 with ⟨rfl, _⟩ | ⟨g1, c1, cur1, rfl, _, hh1, _⟩
  · simp [Value.ownBlock] at hb
  rcases g.2 with ⟨rfl, _⟩ | ⟨g2, c2, cur2, rfl, _, hh2, _⟩
  · simp [Value.ownBlock] at hv
  obtain rfl : g1 = b := by simpa [Value.ownBlock] using hb
  obtain rfl : g2 = g1 := by simpa [Value.ownBlock] using hv
  rw [hh1] at hh2
  injection hh2 with hh
  injection hh with _ ht
  exact hne ht

theorem open_row_of {H : Type} {enc : TypeId × Value → H} {P : Program} {w : World} {base : Nat} {t e : TypeId} {k : IntKind} {v : Value} {d : DataW H} {ps : List MemPlace}
    (ht : P.underlying t = some (.slice e)) (he : P.underlying e = some (.int k)) (hc : P.cellsOf e = 1)
    (hval : Value.okWide P w .any base t v) (h : DataW.Trod enc P w 0 (fun _ => true) true t v d ps) (hlt : ∀ x ∈ ps, x.block < w.heap.size) :
    ∃ (A : Option Addr) (cap : Nat) (xs : List Int), v = .slice A xs.length cap ∧ xs.length ≤ cap ∧ cap ≤ maxLen ∧ (∀ n ∈ xs, (Lit.int k n).wf = true) ∧ Holds w w.heap.size k A xs := by
  obtain ⟨a0, len, cap, rfl⟩ := okWide_slice ht hval
  obtain ⟨fuel, hf⟩ := h
  rcases open_ints ht he hc hf with ⟨hcs, hx⟩ | ⟨a, len', cap', zs, hcs, _, hl, hm, hz, hx, hcell, hwz⟩
  · simp [Value.cells] at hcs
    obtain ⟨rfl, rfl, rfl⟩ := hcs
    exact ⟨none, 0, [], rfl, Nat.le_refl _, Nat.zero_le _, fun _ h => by simp at h, Holds.nil⟩
  · simp [Value.cells] at hcs
    obtain ⟨rfl, rfl, rfl⟩ := hcs
    simp only [Prod.mk.injEq] at hx
    obtain ⟨rfl, rfl⟩ := hx
    simp only [if_true] at hz
    refine ⟨some a, cap, zs.take len, by simp [hz, Nat.min_eq_left hl], by simp; omega, hm, fun n hn => hwz n (List.mem_of_mem_take hn), fun hx => ?_⟩
    simp only [List.length_take] at hx
    obtain ⟨b, off, spot⟩ := a
    have hspot : spot = none := by simpa [Addr.add] using World.cell?_spot (hcell 0 (by omega))
    subst hspot
    refine ⟨b, off, rfl, hlt (.cell b (off + 0)) (MemPlace.mem_row.2 ⟨0, by omega, by simp⟩), fun j hj => ?_⟩
    simp only [List.length_take] at hj
    rw [← add_plain, hcell j (by omega)]
    simp [List.getD, List.getElem?_take, show j < len by omega]
end Go.Proofs.Ytheofegmbajmkaa.Kit
