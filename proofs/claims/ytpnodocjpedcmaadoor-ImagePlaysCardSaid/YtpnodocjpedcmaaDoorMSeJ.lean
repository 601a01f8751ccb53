/-
  Layer 6, sector: what comes back, plain; rows apart from a device. Conditions: as each theorem names.
-/
import Derived.Test.YtpnodocjpedcmaaDoorMGIays3
import Derived.Sort.Row
namespace Go.Proofs.YtpnodocjpedcmaaDoor.Sec
open Go.ChangeShapes Go.WideShapes Go.ChangeAt Go.RowKit Go.Proofs.YtpnodocjpedcmaaDoor.Kit Go.Maps

/-- What becomes of a sector that waits, by what is picked for it. -/
def backStep (picks : List Int) (kept : Sl) (k : Nat) (p : Int × Option (List Int)) : Sl :=
  if picks.getD k 0 = 1 then putS kept p.1 p.2 else if picks.getD k 0 = 2 then putS kept p.1 none else kept
def backK (s : Dv) (picks : List Int) (n : Nat) : Sl := (List.range n).foldl (fun kept k => backStep picks kept k (s.waits.getD k (0, none))) s.kept
def Dv.back (s : Dv) (picks : List Int) : Dv := { s.down with kept := backK s picks s.waits.length, waits := [], fuse := -1, off := false }
theorem backK_next (s : Dv) (picks : List Int) (k : Nat) : backK s picks (k + 1) = backStep picks (backK s picks k) k (s.waits.getD k (0, none)) := by
  unfold backK
  rw [List.range_succ, List.foldl_append]
  rfl
theorem backStep_up {picks : List Int} {kept : Sl} {k : Nat} {p : Int × Option (List Int)} (h : Up kept) : Up (backStep picks kept k p) := by
  unfold backStep
  split
  · exact h.putS _ _
  · split
    · exact h.putS _ _
    · exact h
theorem mem_backStep {picks : List Int} {kept : Sl} {k : Nat} {p q : Int × Option (List Int)} (h : q ∈ backStep picks kept k p) : q.1 = p.1 ∨ q ∈ kept := by
  unfold backStep at h
  split at h
  · rcases mem_putS h with rfl | h
    · exact Or.inl rfl
    · exact Or.inr h
  · split at h
    · rcases mem_putS h with rfl | h
      · exact Or.inl rfl
      · exact Or.inr h
    · exact Or.inr h
theorem backK_ok {s : Dv} (hs : s.Ok) (picks : List Int) : ∀ k, k ≤ s.waits.length → Up (backK s picks k) ∧ ∀ p ∈ backK s picks k, 0 ≤ p.1 ∧ p.1 < s.count
  | 0, _ => ⟨hs.ku, hs.kr⟩
  | k + 1, hk => by
    obtain ⟨h1, h2⟩ := backK_ok hs picks k (by omega)
    rw [backK_next]
    refine ⟨backStep_up h1, fun p hp => ?_⟩
    rcases mem_backStep hp with e | hp
    · rw [e]
      refine hs.wr_ _ ?_
      rw [List.getD, List.getElem?_eq_getElem (show k < s.waits.length by omega)]
      exact List.getElem_mem _
    · exact h2 p hp
/-- A device with other sectors kept. -/
def Dv.with_ (s : Dv) (l : Sl) : Dv := { s with kept := l }
theorem Dv.Ok.with_ {s : Dv} (h : s.Ok) {l : Sl} (hu : Up l) (hr : ∀ p ∈ l, 0 ≤ p.1 ∧ p.1 < s.count) : (s.with_ l).Ok :=
  ⟨h.s1, h.s2, h.c1, h.c2, hu, h.wu, hr, h.wr_, h.wn, h.f1, h.f2, h.o1, h.w1⟩
theorem Dv.down_waits (s : Dv) : s.down.waits = s.waits := by
  unfold Dv.down
  split <;> rfl
theorem Dv.down_kept (s : Dv) : s.down.kept = s.kept := by
  unfold Dv.down
  split <;> rfl
theorem Dv.down_size (s : Dv) : s.down.size = s.size := by
  unfold Dv.down
  split <;> rfl
theorem Dv.down_off (s : Dv) : s.down.off = true := by
  unfold Dv.down
  split
  · assumption
  · rfl

section
variable {w w' : World} {I : Nat → Prop} {a mk mw : Nat} {s : Dv}
theorem DvAt.not_cells (h : DvAt w I a mk mw s) {g : Nat} {cs : Array Value} {t : TypeId} {f : Nat × Nat} (hg : w.heap[g]? = some (.cells cs t f)) (ht : t ≠ 91) : ¬ DSet a mk mw g := by
  rintro (rfl | rfl | rfl)
  · have := h.blk
    unfold Block at this
    rw [this] at hg
    injection hg with hg
    injection hg with _ e _
    exact ht e.symm
  · exact h.k.no_row _ _ _ hg
  · exact h.wt.no_row _ _ _ hg
theorem DvAt.not_byte (h : DvAt w I a mk mw s) {g o : Nat} {z : Int} (hg : w.cell? ⟨g, o, none⟩ = some (.int .u8 z)) : ¬ DSet a mk mw g := by
  obtain ⟨cs, t, f, h1, h2⟩ := Sort.cells_of_cell? hg
  rintro (rfl | rfl | rfl)
  · rw [h.blk.cell] at hg
    have := List.mem_of_getElem? (by rw [← Array.getElem?_toList] at hg; exact hg)
    unfold Dv.cells at this
    simp only [List.mem_cons, List.not_mem_nil, or_false] at this
    rcases this with e | e | e | e | e | e | e | e <;> cases e
  · exact h.k.no_row _ _ _ h1
  · exact h.wt.no_row _ _ _ h1
/-- Bytes stay while a device turns. -/
theorem DvAt.holds (h : DvAt w I a mk mw s) (t : TurnsIn (DSet a mk mw) w w') {B : Nat} {A : Option Addr} {xs : List Int} (hh : Holds w B .u8 A xs) (hB : B ≤ w.heap.size) : Holds w' B .u8 A xs := by
  intro hx
  obtain ⟨b, off, e, hb, hc⟩ := hh hx
  refine ⟨b, off, e, hb, fun j hj => ?_⟩
  exact (World.cell?_of_block (w := w) (a := ⟨b, _, none⟩) (t.block b (by omega) (h.not_byte (hc j hj)))).trans (hc j hj)
theorem DvAt.own (h : DvAt w I a mk mw s) (t : TurnsIn (DSet a mk mw) w w') {B : Nat} {e : TypeId} {k : IntKind} {v : Value} {xs : List Int} (ho : Own w B e k v xs) (he : e ≠ 91) : Own w' B e k v xs := by
  refine ho.out t fun g hg => ?_
  rcases ho.2 with ⟨rfl, _⟩ | ⟨g', cap, cur, rfl, _, hh, _⟩
  · simp [Value.ownBlock] at hg
  · obtain rfl : g' = g := by simpa [Value.ownBlock] using hg
    exact h.not_cells hh he
/-- A sector is kept. -/
theorem DvAt.keep {l : Sl} (h : DvAt w I a mk mw s) (hm : MapAt w' I RK mk s.size l) (hu : Up l) (hr : ∀ p ∈ l, 0 ≤ p.1 ∧ p.1 < s.count) (t : w.mapTurned w' mk) :
    DvAt w' I a mk mw (s.with_ l) ∧ TurnsIn (DSet a mk mw) w w' := by
  have tn : TurnsIn (fun x => x = mk) w w' := TurnsIn.ofGrown (row := some mk) t.grown fun x hx => (Option.some.inj hx).symm
  have hS : ∀ b, b = mk → I b → ∀ cs f, w.heap[b]? ≠ some (.cells cs 5 f) := fun b hb _ => h.no_row b (Or.inr (Or.inl hb))
  exact ⟨⟨h.blk.out tn h.ne_k, hm, h.wt.out tn (fun e => h.ne e.symm) hS, h.ne, h.ok.with_ hu hr⟩, tn.mono fun b _ hb => Or.inr (Or.inl hb)⟩
end
end Go.Proofs.YtpnodocjpedcmaaDoor.Sec
