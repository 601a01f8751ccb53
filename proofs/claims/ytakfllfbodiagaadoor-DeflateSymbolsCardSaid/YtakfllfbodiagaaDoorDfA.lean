/-
  Layer 12, deflate: the document's examples. Conditions: the tables hold what the program's text lays.
-/
import Derived.Test.YtakfllfbodiagaaDoorDfW
import Derived.Lib.QuietBelow
namespace Go.Proofs.YtakfllfbodiagaaDoor.Df
open Go.ChangeShapes Go.WideShapes Go.ChangeAt Go.RowKit Go.Proofs.YtakfllfbodiagaaDoor.Kit Go.Proofs.YtakfllfbodiagaaDoor.Bits

def Gives (v : Value) (w : World) (e : Ending) (w' : World) : Prop := e = .returned v ∧ Below w.heap.size w w'

theorem Laid.lt {g : Nat} {l : List Int} {w : World} (h : Laid g l w) (hl : 0 < l.length) : g < w.heap.size := World.block_lt_of_cell? _ _ (h 0 hl)
theorem Laid.below {g : Nat} {l : List Int} {w w' : World} (h : Laid g l w) (hl : 0 < l.length) (hb : Below w.heap.size w w') : Laid g l w' := fun k hk => (hb.cell (p := ⟨g, k, none⟩) (h.lt hl)).trans (h k hk)

theorem conv_any (w : World) (A : Option Addr) (xs : List Int) (c B : Nat) (hr : Holds w B .u8 A xs) :
    (convert 28 9 (.slice A xs.length c)).run Tryd.prog w = .ok (.string (strOfNums xs)) w :=
  conv_bytes Tryd.underlying28 Tryd.underlying5 Tryd.underlying9 w A xs c B hr

set_option maxHeartbeats 1600000 in
theorem awake_any (w : World) (hL : Laid 0 lens w) : Calls Tryd.prog 13 #[] w (Gives (.bool true) w) := by
  have g1 := length_any 13 w hL
  have e1 : trip (la 13) (lb 13) (lc 13) = .tuple #[.int .i64 266, .int .i64 1, .int .u32 0] := by
    rw [show la 13 = 266 by decide, show lb 13 = 1 by decide, show lc 13 = 0 by decide]
    rfl
  rw [e1] at g1
  have g2 := fun W => stored_any none [] 0 W (fun _ h => by simp at h) (by simp) (by simp) (by simp) Holds.nil
  rw [show stB [] = [1, 0, 0, 255, 255] by decide] at g2
  have hs : strOfNums [1, 0, 0, 255, 255] = { data := #[1, 0, 0, 255, 255] } := by decide
  have Hs := Lib.hid hs
  have G1 := Lib.hid g1
  have G2 := Lib.hid g2
  clear g1 g2 e1 hs
  go_enter Tryd.func13, Tryd.ntmps13
  go_wp2_with (first
    | (go_at_call 7; refine G1.out.mono ?_; rintro e w1 ⟨rfl, m1, rfl⟩; have hb1 := below_draws (Below.refl w.heap.size w) m1)
    | (go_at_call 14; refine (G2.out _).mono ?_; rintro e w2 ⟨v2, rfl, own2, hb2⟩; obtain ⟨A2, c2, rfl, hl2, hm2, hr2⟩ := own2.opened; have hcv := conv_any w2 A2 [1, 0, 0, 255, 255] c2 _ hr2; rw [Hs.out] at hcv; simp only [List.length_cons, List.length_nil, Nat.reduceAdd] at hcv))
  go_ret
  exact ⟨rfl, hb1.trans (hb2.mono hb1.size)⟩
end Go.Proofs.YtakfllfbodiagaaDoor.Df
