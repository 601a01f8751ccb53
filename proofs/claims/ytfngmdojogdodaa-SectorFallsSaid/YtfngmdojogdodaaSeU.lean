/-
  Layer 6, sector: a step of both devices: contract; what it leaves, plain. Conditions: as each theorem names.
-/
import Derived.Test.YtfngmdojogdodaaSeT
import Derived.Test.YtfngmdojogdodaaStB
namespace Go.Proofs.Ytfngmdojogdodaa.Sec
open Go.ChangeShapes Go.WideShapes Go.ChangeAt Go.RowKit Go.Proofs.Ytfngmdojogdodaa.Kit

/-- A step; n: the size that its bytes are made for. -/
def stepD (n : Nat) (s : Dv) (o : Step6) : Dv :=
  if o.k = 0 then (s.write o.i (stepB n o.b o.long)).2 else if o.k = 1 then s.sync.2 else if o.k = 2 then s.fused o.i else if o.k = 3 then s.down else if o.k = 4 then s.back o.zs else s

/-- Counts rise by one at most, and the size stays. -/
def Near (s t : Dv) : Prop := t.offs ≤ s.offs + 1 ∧ t.wr ≤ s.wr + 1 ∧ t.size = s.size ∧ t.count = s.count
theorem near_refl (s : Dv) : Near s s := ⟨by omega, by omega, rfl, rfl⟩
theorem near_down (s : Dv) : s.down.offs ≤ s.offs + 1 ∧ s.down.wr = s.wr ∧ s.down.size = s.size ∧ s.down.count = s.count := by
  unfold Dv.down
  split
  · exact ⟨by omega, rfl, rfl, rfl⟩
  · exact ⟨Int.le_refl _, rfl, rfl, rfl⟩
theorem near_tick (s : Dv) : s.tick.offs ≤ s.offs + 1 ∧ s.tick.wr = s.wr ∧ s.tick.size = s.size ∧ s.tick.count = s.count := by
  unfold Dv.tick
  split
  · exact ⟨by omega, rfl, rfl, rfl⟩
  · split
    · exact near_down s
    · exact ⟨by show s.offs ≤ _; omega, rfl, rfl, rfl⟩
theorem stepD_near (n : Nat) (s : Dv) (o : Step6) : Near s (stepD n s o) := by
  unfold stepD
  split
  · unfold Dv.write
    split
    · exact near_refl s
    split
    · exact near_refl s
    split
    · exact near_refl s
    have h := near_tick (s.writes o.i (stepB n o.b o.long))
    split
    · exact ⟨h.1, by have := h.2.1; unfold Dv.writes at this ⊢; simp only at this ⊢; omega, h.2.2.1, h.2.2.2⟩
    · exact ⟨h.1, Int.le_refl _, h.2.2.1, h.2.2.2⟩
  split
  · unfold Dv.sync
    have h := near_tick s
    split
    · exact near_refl s
    split
    · exact ⟨h.1, by have := h.2.1; simp only; omega, h.2.2.1, h.2.2.2⟩
    · exact ⟨h.1, by have := h.2.1; unfold Dv.flush; simp only; omega, h.2.2.1, h.2.2.2⟩
  split
  · exact ⟨by unfold Dv.fused; simp only; omega, by unfold Dv.fused; simp only; omega, rfl, rfl⟩
  have h := near_down s
  split
  · exact ⟨h.1, by omega, h.2.2.1, h.2.2.2⟩
  split
  · exact ⟨h.1, by have := h.2.1; unfold Dv.back; simp only; omega, h.2.2.1, h.2.2.2⟩
  exact near_refl s

theorem does_any (w0 w : World) (a mk mw : Nat) (s m : Dv) (o : Step6) (dv : Value) (hd : Dev w0 w a mk mw s) (hr : RDv w dv m) (hok : m.Ok) (hs : s.offs ≤ 1000000000 ∧ s.wr ≤ 1000000000) (hm : m.offs ≤ 1000000000 ∧ m.wr ≤ 1000000000)
    (hi : -9223372036854775808 ≤ o.i ∧ o.i ≤ 9223372036854775807) (hb : 0 ≤ o.b ∧ o.b ≤ 255) (hz : o.zs.length ≤ 1000000000) (hzo : Octets o.zs) (hzr : Holds w w.heap.size .u8 o.A o.zs) :
    Calls Try.prog 13 #[.pointer (some ⟨a, 0, none⟩), dv, .agg o.cells.toArray] w (Does w0 w a mk mw (stepD m.size s o) (stepD m.size m o) (s = m)) := by
  have hmo := hok.o1
  unfold stepD
  by_cases h0 : o.k = 0
  · rw [if_pos h0, if_pos h0]
    exact does_write w0 w a mk mw s m o dv hd hr h0 hok hs.1 ⟨hmo, hm.1⟩ hi hb hs.2 hm.2
  rw [if_neg h0, if_neg h0]
  by_cases h1 : o.k = 1
  · rw [if_pos h1, if_pos h1]
    exact does_sync w0 w a mk mw s m o dv hd hr h1 hok hs.1 ⟨hmo, hm.1⟩
  rw [if_neg h1, if_neg h1]
  by_cases h2 : o.k = 2
  · rw [if_pos h2, if_pos h2]
    exact does_fuse w0 w a mk mw s m o dv hd hr h2 hok hs.1 ⟨hmo, hm.1⟩ hi
  rw [if_neg h2, if_neg h2]
  by_cases h3 : o.k = 3
  · rw [if_pos h3, if_pos h3]
    exact does_off w0 w a mk mw s m o dv hd hr h3 hs.1 ⟨hmo, hm.1⟩
  rw [if_neg h3, if_neg h3]
  by_cases h4 : o.k = 4
  · rw [if_pos h4, if_pos h4]
    exact does_back w0 w a mk mw s m o dv hd hr h4 hok hs.1 ⟨hmo, hm.1⟩ hz hzo hzr
  rw [if_neg h4, if_neg h4]
  exact does_read w0 w a mk mw s m o dv hd hr ⟨h0, h1, h2, h3, h4⟩ hok hs.1 ⟨hmo, hm.1⟩ hi

/-- A whole block is stored over, as a step of a region that draws its order. -/
theorem step_store_blk {P : Program} {ops : Array Oper} {o : Oper} {a : Act} {w : World} {K : Act → World → Prop} {Q : Exit → Act → World → Prop} {E : Prop} (hgd : o.guard = none) (ty : TypeId) (x y : Operand) (ho : o.op = .store ty x y)
    {g : Nat} {t : TypeId} {cs : Array Value} {ds : List Value} (h : Block w g t cs) (hx : a.eval x = .pointer (some ⟨g, 0, none⟩)) (hy : a.eval y = .agg ds.toArray) (hl : ds.length = cs.size) (hi : (P.info? ty).map (·.size) = some ds.length) (hone : ∀ u ∈ ds, u.oneCell' = true)
    (hK : ∀ w', Block w' g t ds.toArray → w.grownBy w' (some g) → K (a.put o.dst undef) w') : if Region.wanted o (yielded ops a.tmps) = true then Oper.wp P o a w K Q else E :=
  step_of_list (by simp [Region.wanted, hgd]) fun Q' hn => wpList_store_blk hgd ty x y ho h hx hy hl hi hone fun w' h1 h2 => hn _ _ (hK w' h1 h2)
/-- A whole row stays while another block grows. -/
theorem Dev.grown {w0 w w' : World} {a mk mw : Nat} {s : Dv} (h : Dev w0 w a mk mw s) {g : Nat} {ty : TypeId} {cs : Array Value} (X : Block w g ty cs) (ht : ty ≠ 57) (hu : ty ≠ 5) (hg : w0.heap.size ≤ g) (gr : w.grownBy w' (some g)) : Dev w0 w' a mk mw s := by
  have t : TurnsIn (fun b => b = g) w w' := .ofGrown gr fun b hb => by injection hb with hb; exact hb.symm
  exact ⟨h.d.beside X ht hu t, h.b.trans (t.toBelow h.b.size (fun b hb e => by omega)), h.ga, h.gk, h.gw⟩

/-- Between steps: both devices are the same, the document's one lies in a block of the call's own. -/
structure Plays (w0 w : World) (a mk mw g : Nat) (s : Dv) (cs : Array Value) : Prop where
  d : Dev w0 w a mk mw s
  x : Block w g 33 cs
  r : RDv w (.agg cs) s
  g : w0.heap.size ≤ g
end Go.Proofs.Ytfngmdojogdodaa.Sec
