/-
  Layer 1, sha: nil hashes: contracts.
-/
import Derived.Test.YtfdafjlmglbepaaDoorShE
namespace Go.Proofs.YtfdafjlmglbepaaDoor.Sha
open Go.ChangeShapes Go.WideShapes Go.ChangeAt Go.RowKit Go.Proofs.YtfdafjlmglbepaaDoor.Kit

theorem write_nil (v : Value) (w : World) : Calls Tryd.prog 13 #[.pointer none, v] w fun e w' => e = .returned (.tuple #[]) ∧ w = w' := by
  go_enter Tryd.func13, Tryd.ntmps13
  go_wp2
  refine bodyPost_ret (results_none rfl _ _ _) rfl ?_
  exact ⟨rfl, rfl⟩
theorem len_nil (w : World) : Calls Tryd.prog 14 #[.pointer none] w fun e w' => e = .returned (.int .u64 0) ∧ w = w' := by
  go_enter Tryd.func14, Tryd.ntmps14
  go_wp2
  go_ret
  exact ⟨rfl, rfl⟩
theorem copy_nil (w : World) : Calls Tryd.prog 17 #[.pointer none] w fun e w' => e = .returned (.pointer none) ∧ w = w' := by
  go_enter Tryd.func17, Tryd.ntmps17
  go_wp2
  go_ret
  exact ⟨rfl, rfl⟩
set_option maxRecDepth 100000 in
set_option maxHeartbeats 1600000 in
theorem sum_nil (w : World) (hL : LaidS w) : Calls Tryd.prog 15 #[.pointer none] w fun e w' => e = .returned (arrV .u8 (sumL [])) ∧ Below w.heap.size w w' := by
  have hg0 : w.heap.size + 1 ≠ 0 := by have := hL.lt (by rw [cubes_length]; omega); omega
  have hsl := Lib.hid (sumL_length [])
  have arr32 : Tryd.prog.underlying 25 = some (.array 32 5) := Tryd.underlying25
  have hb0 : Below w.heap.size w (w.alloc (.cells ((List.replicate 32 (0 : Int)).map (Value.int .u8)).toArray 25)) := (Below.refl _ w).alloc (Nat.le_refl _) _
  have r0 : Arr (w.alloc (.cells ((List.replicate 32 (0 : Int)).map (Value.int .u8)).toArray 25)) w.heap.size 25 .u8 (List.replicate 32 0) := Arr.new w _ _ _
  have GS := Lib.hid (fun w1 (h1 : HashIs w1 (w.heap.size + 1) []) (hl : LaidS w1) => hsum_any (w.heap.size + 1) [] w1 h1 (by simp) (fun _ h => absurd h (by simp)) hl hg0)
  go_enter Tryd.func15, Tryd.ntmps15
  go_wp2_with (first
    | (go_at_call 12; refine (new_at w _).mono ?_; rintro e w1 ⟨rfl, h1, hb1⟩; have r1 := Block.below r0 hb1 (by omega); have hb1 := hb0.trans (hb1.mono (by omega)))
    | (go_at_call 15; refine (GS.out _ h1 (hL.below hb1)).mono ?_; rintro e w3 ⟨rfl, hb3⟩; have r3 : Arr w3 w.heap.size 25 .u8 (List.replicate 32 0) := Block.below r1 hb3 (Block.lt r1))
    | (have _t := r3; refine wpList_store_arr rfl _ _ _ rfl r3 rfl rfl (by rw [hsl.out]; rfl) (by rw [hsl.out]; kernel_rfl) ?_; intro w9 r9 g9))
  refine bodyPost_ret (v := arrV .u8 (sumL [])) (results_cell_row rfl _ _ w.heap.size 25 _ (0, 0) _ rfl r9 arr32 rfl (by rw [show ((sumL []).map (Value.int .u8)).toArray.size = 32 by simp [sumL_length]]; kernel_rfl)) rfl ⟨rfl, ?_⟩
  have hb4 := hb1.trans (hb3.mono hb1.size)
  exact hb4.trans (below_of_grown g9 hb4.size fun b hb => by injection hb with hb; omega)
end Go.Proofs.YtfdafjlmglbepaaDoor.Sha
