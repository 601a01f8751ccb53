/-
  Layer 6, sector: both devices between steps. Conditions: as each theorem names.
-/
import Derived.Test.YtfngmdojogdodaaSeV
import Derived.Deep.RegionHeld
namespace Go.Proofs.Ytfngmdojogdodaa.Sec
open Go.ChangeShapes Go.WideShapes Go.ChangeAt Go.RowKit Go.Proofs.Ytfngmdojogdodaa.Kit

/-- Between steps: the device, and the document's one in a block of the call's own. -/
structure Two (w0 w : World) (a mk mw g : Nat) (s m : Dv) (cs : Array Value) : Prop where
  d : Dev w0 w a mk mw s
  x : Block w g 33 cs
  r : RDv w (.agg cs) m
  g : w0.heap.size ≤ g
theorem Two.below {w0 w w' : World} {a mk mw g : Nat} {s m : Dv} {cs : Array Value} (h : Two w0 w a mk mw g s m cs) (hb : Below w.heap.size w w') : Two w0 w' a mk mw g s m cs :=
  ⟨h.d.below hb, h.x.below hb h.x.lt, h.r.below hb, h.g⟩
/-- Behind a step: the document's next device lies in a block beside. -/
def Mid2 (w0 wr w : World) (a mk mw g : Nat) (s m : Dv) (v : Value) : Prop :=
  ∃ (g2 : Nat) (cs cs2 : Array Value), v = .pointer (some ⟨g2, 0, none⟩) ∧ (cs.size = 8 ∧ NoText cs) ∧ Dev w0 w a mk mw s ∧ Block w g 33 cs ∧ Block w g2 33 cs2 ∧ RDv w (.agg cs2) m ∧ w0.heap.size ≤ g ∧ g ≠ g2 ∧ TurnsIn (DSet a mk mw) wr w
theorem turn_new {S : Nat → Prop} {w w1 w2 : World} {g : Nat} (t : TurnsIn S w w1) (hg : w.heap.size ≤ g) (gr : w1.grownBy w2 (some g)) : TurnsIn S w w2 :=
  t.then_ (T := fun b => b = g) (.ofGrown gr fun b hb => by injection hb with hb; exact hb.symm) fun b hb e => by omega
theorem DvAt.own_new {w w' : World} {I : Nat → Prop} {a mk mw : Nat} {s : Dv} (h : DvAt w I a mk mw s) (t : TurnsIn (DSet a mk mw) w w') {B : Nat} {v : Value} {xs : List Int} (ho : Own w B 5 .u8 v xs) : Own w' B 5 .u8 v xs := h.own t ho (by decide)
end Go.Proofs.Ytfngmdojogdodaa.Sec
