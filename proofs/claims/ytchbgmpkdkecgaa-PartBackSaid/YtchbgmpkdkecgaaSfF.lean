/-
  Layer 6, the document's device: Sync: contract. Conditions: as each theorem names.
-/
import Derived.Test.YtchbgmpkdkecgaaSfE
import Derived.Test.YtchbgmpkdkecgaaSeI
namespace Go.Proofs.Ytchbgmpkdkecgaa.Sec
open Go.ChangeShapes Go.WideShapes Go.ChangeAt Go.RowKit Go.Proofs.Ytchbgmpkdkecgaa.Kit

/-- What is kept behind k rounds. -/
def keptK (s : Dv) (k : Nat) : Sl := merge s.kept (s.waits.take k)
theorem keptK_next (s : Dv) (k : Nat) (h : k < s.waits.length) : keptK s (k + 1) = putS (keptK s k) (s.waits.getD k (0, none)).1 (s.waits.getD k (0, none)).2 := by
  unfold keptK merge
  rw [List.take_succ_eq_append_getElem h, List.foldl_append]
  simp [List.getD, List.getElem?_eq_getElem h]
theorem keptK_few {s : Dv} (h : s.Ok) (k : Nat) : (keptK s k).length ≤ 10000000 := by
  have h1 := up_length (c := s.count) (keptK s k) 0 (merge_up h.ku) (fun p hp => by
    rcases mem_merge hp with hp | hp
    · exact h.kr p hp
    · exact h.wr_ p (List.mem_of_mem_take hp))
  have := h.c2
  omega
/-- The document's device lies in g, behind k rounds. -/
structure RGoing (w0 w : World) (g : Nat) (s : Dv) (Aw : Option Addr) (cw : Nat) (Ak : Option Addr) (ck : Nat) (l : Sl) : Prop where
  x : Block w g 49 (dCells Ak ck Aw cw { s with kept := l })
  z : Block w (g + 1) 49 zD
  hk : HoldsF w w.heap.size Ak l
  hw : HoldsF w w.heap.size Aw s.waits
  l1 : l.length ≤ ck
  l2 : ck ≤ maxLen
  b : Below w0.heap.size w0 w
  gb : w0.heap.size ≤ g

theorem noText_lit (a b c d e f g h : Value) (h1 : ∀ x, a ≠ .string x) (h2 : ∀ x, b ≠ .string x) (h3 : ∀ x, c ≠ .string x) (h4 : ∀ x, d ≠ .string x) (h5 : ∀ x, e ≠ .string x) (h6 : ∀ x, f ≠ .string x) (h7 : ∀ x, g ≠ .string x) (h8 : ∀ x, h ≠ .string x) : NoText #[a, b, c, d, e, f, g, h] := noText_list (by
  intro u hu x
  simp only [List.mem_cons, List.not_mem_nil, or_false] at hu
  rcases hu with rfl | rfl | rfl | rfl | rfl | rfl | rfl | rfl
  · exact h1 x
  · exact h2 x
  · exact h3 x
  · exact h4 x
  · exact h5 x
  · exact h6 x
  · exact h7 x
  · exact h8 x)

/-- What waits next is put. -/
theorem RGoing.next {w0 w w5 : World} {g : Nat} {s : Dv} {Aw : Option Addr} {cw : Nat} {Ak : Option Addr} {ck : Nat} {l l2 : Sl} (h : RGoing w0 w g s Aw cw Ak ck l) (hb : Below w.heap.size w w5) {B : Nat} {A5 : Option Addr} {c5 : Nat} (own : OwnF w5 B (.slice A5 l2.length c5) l2) :
    RGoing w0 (w5.setCell ⟨g, 2, none⟩ (.slice A5 l2.length c5)) g s Aw cw A5 c5 l2 := by
  have X5 := h.x.below hb h.x.lt
  have t : TurnsIn (fun b => b = g) w5 (w5.setCell ⟨g, 2, none⟩ (.slice A5 l2.length c5)) := TurnsIn.setCell (S := fun b => b = g) (p := ⟨g, 2, none⟩) (TurnsIn.refl _ w5) (Or.inl rfl) _
  obtain ⟨A6, c6, he, hl, hm, hh⟩ := own.opened
  injection he with e1 e2 e3
  subst e1 e3
  have hs := hb.size
  have hg := h.x.lt
  exact ⟨X5.set_ 2 (.slice A5 l2.length c5), (h.z.below hb h.z.lt).far (by show g + 1 ≠ g; omega) _, hh.turn X5 (dCells_noText _ _ _ _ _) t, ((h.hw.below hb).more hs).turn X5 (dCells_noText _ _ _ _ _) t, hl, hm,
    (h.b.trans (hb.mono h.b.size)).trans (t.toBelow (Nat.le_trans h.b.size hs) (fun b hb e => by have := h.gb; omega)), h.gb⟩

end Go.Proofs.Ytchbgmpkdkecgaa.Sec
