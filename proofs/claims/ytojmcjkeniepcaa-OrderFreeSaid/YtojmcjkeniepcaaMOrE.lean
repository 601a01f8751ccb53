/-
  Layer 19: container/heap over a heap of one, and of none: contracts. Conditions: as each theorem names.
-/
import Derived.Test.YtojmcjkeniepcaaMOrD
namespace Go.Proofs.Ytojmcjkeniepcaa.Ord
open Go.ChangeShapes Go.WideShapes Go.ChangeAt Go.RowKit Go.Proofs.Ytojmcjkeniepcaa.Kit Go.Proofs.Ytojmcjkeniepcaa.Gr

set_option maxRecDepth 100000 in
set_option maxHeartbeats 1600000 in
theorem down_zero (v : Value) (w : World) : Calls Try.prog 50 #[v, .int .i64 0, .int .i64 0] w fun e w' => e = .returned (.bool false) ∧ w = w' := by
  go_enter Try.func50, Try.ntmps50
  go_wp2_with fail
  go_loop [7] (fun i => i = .int .i64 0) (fun _ => 0)
  case atStart => exact rfl
  case round =>
    subst hrel
    go_wp2_with fail
    go_ret
    exact ⟨rfl, rfl⟩
set_option maxRecDepth 100000 in
set_option maxHeartbeats 1600000 in
theorem up_zero (v : Value) (w : World) : Calls Try.prog 49 #[v, .int .i64 0] w fun e w' => e = .returned (.tuple #[]) ∧ w = w' := by
  go_enter Try.func49, Try.ntmps49
  go_wp2_with fail
  go_loop [1] (fun i => i = .int .i64 0) (fun _ => 0)
  case atStart => exact rfl
  case round =>
    subst hrel
    have d1 : Int.tdiv (-1) 2 = 0 := by decide
    go_wp2_with fail
    go_end0
    exact ⟨rfl, rfl⟩

set_option maxRecDepth 100000 in
set_option maxHeartbeats 3200000 in
theorem hpop_one {g A c B : Nat} {x : Int} {w : World} (h0 : w.cell? ⟨g, 4, none⟩ = some (.slice (some ⟨A, 0, none⟩) 1 c)) (ho : Own w B 3 .i64 (.slice (some ⟨A, 0, none⟩) 1 c) [x]) (h2 : w.frozen? ⟨g, 4, none⟩ = false) (hc : 1 ≤ c) (hg : g < w.heap.size) (hne : g ≠ A) :
    Calls Try.prog 45 #[.iface 79 (.pointer (some ⟨g, 4, none⟩))] w fun e w' => e = .returned (.iface 3 (.int .i64 x)) ∧ ∃ w2, w.grownBy w2 (some A) ∧ Own w2 B 3 .i64 (.slice (some ⟨A, 0, none⟩) 1 c) [x] ∧ w2.setCell ⟨g, 4, none⟩ (.slice (some ⟨A, 0, none⟩) 0 c) = w' := by
  have m1 := mLen h0
  have m2 := mSwap h0
  have GS := Lib.hid (swap_one ho)
  have GL := Lib.hid (len_any (some ⟨A, 0, none⟩) 1 c w)
  have HK : Hid (∀ W, w.grownBy W (some A) → W.cell? ⟨g, 4, none⟩ = some (.slice (some ⟨A, 0, none⟩) 1 c) ∧ W.frozen? ⟨g, 4, none⟩ = false) := Lib.hid fun W hW => by
    have hb := hW.block g hg (by intro h; injection h with h; exact hne h)
    exact ⟨by rw [← h0]; exact World.cell?_of_block (a := ⟨g, 4, none⟩) hb, by rw [← h2]; exact World.frozen?_of_block (a := ⟨g, 4, none⟩) hb⟩
  clear h0 h2 ho
  go_enter Try.func45, Try.ntmps45
  go_wp2_with (first
    | (go_at_call 44; refine GL.out.mono ?_; rintro e w1 ⟨rfl, rfl⟩)
    | (go_at_call 90; refine GS.out.mono ?_; rintro e w2 ⟨rfl, o2, g2⟩; obtain ⟨q1, q2⟩ := HK.out _ g2; have c2 : w2.cell? ⟨A, 0, none⟩ = some (.int .i64 x) := o2.cellAt rfl (i := 0) (by simp))
    | (go_at_call 50; refine (down_zero _ _).mono ?_; rintro e w3 ⟨rfl, rfl⟩; have m3 := mPop g w2)
    | (go_at_call 91; refine (pop_one q1 c2 q2 hc).mono ?_; rintro e w4 ⟨rfl, rfl⟩))
  go_ret
  exact ⟨rfl, w2, g2, o2, rfl⟩
end Go.Proofs.Ytojmcjkeniepcaa.Ord
