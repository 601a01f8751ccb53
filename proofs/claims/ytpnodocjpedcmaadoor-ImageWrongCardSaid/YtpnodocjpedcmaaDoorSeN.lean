/-
  Layer 6, sector: a device through a row of calls; the document's example. Conditions: as each theorem names.
-/
import Derived.Test.YtpnodocjpedcmaaDoorSeM
namespace Go.Proofs.YtpnodocjpedcmaaDoor.Sec
open Go.ChangeShapes Go.WideShapes Go.ChangeAt Go.RowKit Go.Proofs.YtpnodocjpedcmaaDoor.Kit Go.Maps

/-- A device of the call's own, some steps on. -/
structure Dev (w0 w : World) (a mk mw : Nat) (s : Dv) : Prop where
  d : DvAt w (fun _ => True) a mk mw s
  b : Below w0.heap.size w0 w
  ga : w0.heap.size ≤ a
  gk : w0.heap.size ≤ mk
  gw : w0.heap.size ≤ mw

section
variable {w0 w w' : World} {a mk mw : Nat} {s s' : Dv}
theorem Dev.below (h : Dev w0 w a mk mw s) (hb : Below w.heap.size w w') : Dev w0 w' a mk mw s :=
  ⟨h.d.below hb, h.b.trans (hb.mono h.b.size), h.ga, h.gk, h.gw⟩
theorem Dev.turn (h : Dev w0 w a mk mw s) {I : Nat → Prop} (hd : DvAt w' I a mk mw s') (t : TurnsIn (DSet a mk mw) w w') : Dev w0 w' a mk mw s' :=
  ⟨hd.mono fun _ _ _ => trivial, h.b.trans (t.toBelow h.b.size fun b hb hs => by
    have h1 := h.ga
    have h2 := h.gk
    have h3 := h.gw
    rcases hs with rfl | rfl | rfl <;> omega), h.ga, h.gk, h.gw⟩
/-- What a step leaves of it. -/
def Moves (w0 : World) (a mk mw : Nat) (w : World) (s' : Dv) (v : Value) (e : Ending) (w' : World) : Prop :=
  e = .returned v ∧ Dev w0 w' a mk mw s' ∧ TurnsIn (DSet a mk mw) w w'
theorem Dev.moves (h : Dev w0 w a mk mw s) {v : Value} {f : Nat} {args : Array Value} (c : Calls Tryd.prog f args w (Leaves (fun _ => True) a mk mw w s' v)) : Calls Tryd.prog f args w (Moves w0 a mk mw w s' v) :=
  c.mono fun _ _ ⟨e, d, t⟩ => ⟨e, h.turn d t, t⟩
end

theorem own_block {w : World} {B : Nat} {e : TypeId} {k : IntKind} {v : Value} {xs : List Int} (h : Own w B e k v xs) (hl : xs.length = 128) : ∃ g cap : Nat, v = .slice (some ⟨g, 0, none⟩) 128 cap := by
  obtain ⟨g, cap, he, _⟩ := h.form (by omega)
  exact ⟨g, cap, by rw [he, hl]⟩

/-- The example's devices. -/
theorem example_ (X : List Int) (hl : X.length = 128) : ∃ s0 s1 s2 s3 s4 : Dv, Dv.new 128 3 = s0 ∧ s0.write 0 X = (0, s1) ∧ s1.back [1] = s2 ∧ s2.read 0 = (X, 0) ∧ s2.write 0 X = (0, s3) ∧ s3.back [2] = s4 ∧ s4.read 0 = ([], 7) ∧
    (s0.offs ≤ 1000000000 ∧ s0.wr ≤ 1000000000) ∧ (s1.offs ≤ 1000000000 ∧ s1.wr ≤ 1000000000) ∧ (s2.offs ≤ 1000000000 ∧ s2.wr ≤ 1000000000) ∧ s3.offs ≤ 1000000000 := by
  refine ⟨_, ⟨128, 3, [], [(0, some X)], false, 0, -1, 1⟩, ⟨128, 3, [(0, some X)], [], false, 1, -1, 1⟩, ⟨128, 3, [(0, some X)], [(0, some X)], false, 1, -1, 2⟩, ⟨128, 3, [(0, none)], [], false, 2, -1, 2⟩, rfl, ?_, ?_, ?_, ?_, ?_, ?_, ?_, ?_, ?_, ?_⟩
  · simp [Dv.write, Dv.writes, Dv.tick, Dv.new, putS, hl]
  · rfl
  · rfl
  · simp [Dv.write, Dv.writes, Dv.tick, putS, hl]
  · rfl
  · rfl
  · exact ⟨by show (0 : Int) ≤ _; decide, by show (0 : Int) ≤ _; decide⟩
  · exact ⟨by show (0 : Int) ≤ _; decide, by show (1 : Int) ≤ _; decide⟩
  · exact ⟨by show (1 : Int) ≤ _; decide, by show (1 : Int) ≤ _; decide⟩
  · show (1 : Int) ≤ _
    decide

end Go.Proofs.YtpnodocjpedcmaaDoor.Sec
