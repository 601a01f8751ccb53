/-
  DeflateSymbols: the walk: the symbol of any length and any distance, its bits, and how many bytes a packed text has at most, are the document's.
-/
import Derived.Test.YtakfllfbodiagaaDoorDfA
namespace Go.Proofs.YtakfllfbodiagaaDoor.DeflateSymbols
open Go.ChangeShapes Go.WideShapes Go.ChangeAt Go.RowKit Go.Proofs.YtakfllfbodiagaaDoor.Kit Go.Proofs.YtakfllfbodiagaaDoor.Df

set_option maxRecDepth 100000 in
set_option maxHeartbeats 3200000 in
theorem walk (n : Int) (w : World) (hn : (Lit.int .i64 n).wf = true) (hL : Laid 0 lens w) (hD : Laid 1 dists w) :
    Calls Tryd.prog 3 #[.int .i64 n] w fun e w' => e = .returned (.bool true) ∧ Below w.heap.size w w' := by
  have hb := bounds_i64 hn
  have g1 := fun W h => length_any n W h
  have g2 := fun W => rlength_any n W
  have g3 := fun W h => distance_any n W h
  have g4 := fun W => rdistance_any n W
  have g5 := fun W => most_any n W (by omega)
  have g6 := fun W => rmost_any n W (by omega)
  unfold trip at g1 g2 g3 g4
  have h29 : 0 < lens.length := by decide
  have h30 : 0 < dists.length := by decide
  generalize la n = a1 at *
  generalize lb n = a2 at *
  generalize lc n = a3 at *
  generalize da n = a4 at *
  generalize db n = a5 at *
  generalize dc n = a6 at *
  generalize mostF n = a7 at *
  have G1 := Lib.hid g1
  have G2 := Lib.hid g2
  have G3 := Lib.hid g3
  have G4 := Lib.hid g4
  have G5 := Lib.hid g5
  have G6 := Lib.hid g6
  clear g1 g2 g3 g4 g5 g6 hn
  go_enter Tryd.func3, Tryd.ntmps3
  go_wp2_with fail
  refine (G1.out w hL).mono ?_
  rintro e w1 ⟨rfl, m1, rfl⟩
  have hL1 := hL.draws m1
  have hD1 := hD.draws m1
  have hb1 := below_draws (Below.refl w.heap.size w) m1
  generalize w.drewN m1 = w1 at *
  go_wp2_with fail
  refine (G2.out w1).mono ?_
  rintro e w2 ⟨rfl, hb2⟩
  have hL2 := hL1.below h29 hb2
  have hD2 := hD1.below h30 hb2
  have hb02 := hb1.trans (hb2.mono hb1.size)
  go_wp2_with fail
  refine (G3.out w2 hD2).mono ?_
  rintro e w3 ⟨rfl, m3, rfl⟩
  have hL3 := hL2.draws m3
  have hb3 := below_draws hb02 m3
  generalize w2.drewN m3 = w3 at *
  go_wp2_with fail
  refine (G4.out w3).mono ?_
  rintro e w4 ⟨rfl, rfl⟩
  go_wp2_with (first
    | (go_at_call 11; refine (G5.out _).mono ?_; rintro e w5 ⟨rfl, rfl⟩)
    | (go_at_call 12; refine (G6.out _).mono ?_; rintro e w5 ⟨rfl, rfl⟩)
    | (go_at_call 13; refine (awake_any _ hL3).mono ?_; rintro e w5 ⟨rfl, hb5⟩))
  go_ret
  exact ⟨rfl, hb3.trans (hb5.mono hb3.size)⟩
end Go.Proofs.YtakfllfbodiagaaDoor.DeflateSymbols
