/-
  Layer 8, bits: a few bits put to a writer that has no whole byte. Conditions: as each theorem names.
-/
import Derived.Test.YtpofdlcadobdoaaBits
import Derived.RegionTactic
namespace Go.Proofs.Ytpofdlcadobdoaa.Bits
open Go.ChangeShapes Go.WideShapes Go.ChangeAt Go.RowKit Go.Proofs.Ytpofdlcadobdoaa.Kit

theorem new_any (w : World) : Calls Try.prog 9 #[] w fun e w' => e = .returned (.pointer (some ⟨w.heap.size, 0, none⟩)) ∧ w' = w.alloc (.cells #[.slice none 0 0, .int .u64 0, .int .i64 0] 51) := by
  go_enter Try.func9, Try.ntmps9
  go_wp2
  go_ret
  exact ⟨rfl, rfl⟩

set_option maxHeartbeats 1600000 in
theorem put_1 (g : Nat) (w : World) (hb : Block w g 51 #[.slice none 0 0, .int .u64 0, .int .i64 0]) :
    Calls Try.prog 10 #[.pointer (some ⟨g, 0, none⟩), .int .u32 1, .int .i64 1] w fun e w' => e = .returned (.tuple #[]) ∧ Block w' g 51 #[.slice none 0 0, .int .u64 1, .int .i64 1] ∧ Below g w w' := by
  have c1 : w.cell? ⟨g, 1, none⟩ = some (.int .u64 0) := hb.cell 1
  have c2 : w.cell? ⟨g, 2, none⟩ = some (.int .i64 0) := hb.cell 2
  have ff := fun i => hb.frozen i
  go_enter Try.func10, Try.ntmps10
  go_wp2_with fail
  go_region
  all_goals
    have hv : bits BinOp.or IntKind.u64 0 (IntKind.u64.wrap (bits BinOp.and IntKind.u64 1 1)) = 1 := by decide
    rw [hv]
    have b1 := hb.set_ 1 (.int .u64 1)
    have l1 := (Below.refl g w).setCell (p := ⟨g, 1, none⟩) (Nat.le_refl _) (.int .u64 1)
    have d2 : (w.setCell ⟨g, 1, none⟩ (.int .u64 1)).cell? ⟨g, 2, none⟩ = some (.int .i64 0) := b1.cell 2
    have fd := fun i => b1.frozen i
    clear c1 c2 ff hv hb
    generalize w.setCell ⟨g, 1, none⟩ (.int .u64 1) = w1 at *
    go_wp2_with fail
    have b2 := b1.set_ 2 (.int .i64 1)
    have l2 := l1.setCell (p := ⟨g, 2, none⟩) (Nat.le_refl _) (.int .i64 1)
    have d3 : (w1.setCell ⟨g, 2, none⟩ (.int .i64 1)).cell? ⟨g, 2, none⟩ = some (.int .i64 1) := b2.cell 2
    clear d2 fd b1 l1
    generalize w1.setCell ⟨g, 2, none⟩ (.int .i64 1) = w2 at *
    refine wp_loop_rounds 1 ?_
    rw [rounds_succ]
    go_wp2_with fail
    go_end0
    exact ⟨rfl, b2.drewN 1, below_draws l2 1⟩

set_option maxHeartbeats 1600000 in
theorem put_2 (g : Nat) (w : World) (hb : Block w g 51 #[.slice none 0 0, .int .u64 1, .int .i64 1]) :
    Calls Try.prog 10 #[.pointer (some ⟨g, 0, none⟩), .int .u32 2, .int .i64 2] w fun e w' => e = .returned (.tuple #[]) ∧ Block w' g 51 #[.slice none 0 0, .int .u64 5, .int .i64 3] ∧ Below g w w' := by
  have c1 : w.cell? ⟨g, 1, none⟩ = some (.int .u64 1) := hb.cell 1
  have c2 : w.cell? ⟨g, 2, none⟩ = some (.int .i64 1) := hb.cell 2
  have ff := fun i => hb.frozen i
  go_enter Try.func10, Try.ntmps10
  go_wp2_with fail
  go_region
  all_goals
    have hv : bits BinOp.or IntKind.u64 1 (IntKind.u64.wrap (bits BinOp.and IntKind.u64 2 3 * 2)) = 5 := by decide
    rw [hv]
    have b1 := hb.set_ 1 (.int .u64 5)
    have l1 := (Below.refl g w).setCell (p := ⟨g, 1, none⟩) (Nat.le_refl _) (.int .u64 5)
    have d2 : (w.setCell ⟨g, 1, none⟩ (.int .u64 5)).cell? ⟨g, 2, none⟩ = some (.int .i64 1) := b1.cell 2
    have fd := fun i => b1.frozen i
    clear c1 c2 ff hv hb
    generalize w.setCell ⟨g, 1, none⟩ (.int .u64 5) = w1 at *
    go_wp2_with fail
    have b2 := b1.set_ 2 (.int .i64 3)
    have l2 := l1.setCell (p := ⟨g, 2, none⟩) (Nat.le_refl _) (.int .i64 3)
    have d3 : (w1.setCell ⟨g, 2, none⟩ (.int .i64 3)).cell? ⟨g, 2, none⟩ = some (.int .i64 3) := b2.cell 2
    clear d2 fd b1 l1
    generalize w1.setCell ⟨g, 2, none⟩ (.int .i64 3) = w2 at *
    refine wp_loop_rounds 1 ?_
    rw [rounds_succ]
    go_wp2_with fail
    go_end0
    exact ⟨rfl, b2.drewN 1, below_draws l2 1⟩

set_option maxHeartbeats 1600000 in
theorem put_3 (g : Nat) (w : World) (hb : Block w g 51 #[.slice none 0 0, .int .u64 5, .int .i64 3]) :
    Calls Try.prog 10 #[.pointer (some ⟨g, 0, none⟩), .int .u32 2, .int .i64 2] w fun e w' => e = .returned (.tuple #[]) ∧ Block w' g 51 #[.slice none 0 0, .int .u64 21, .int .i64 5] ∧ Below g w w' := by
  have c1 : w.cell? ⟨g, 1, none⟩ = some (.int .u64 5) := hb.cell 1
  have c2 : w.cell? ⟨g, 2, none⟩ = some (.int .i64 3) := hb.cell 2
  have ff := fun i => hb.frozen i
  go_enter Try.func10, Try.ntmps10
  go_wp2_with fail
  go_region
  all_goals
    have hv : bits BinOp.or IntKind.u64 5 (IntKind.u64.wrap (bits BinOp.and IntKind.u64 2 3 * 8)) = 21 := by decide
    rw [hv]
    have b1 := hb.set_ 1 (.int .u64 21)
    have l1 := (Below.refl g w).setCell (p := ⟨g, 1, none⟩) (Nat.le_refl _) (.int .u64 21)
    have d2 : (w.setCell ⟨g, 1, none⟩ (.int .u64 21)).cell? ⟨g, 2, none⟩ = some (.int .i64 3) := b1.cell 2
    have fd := fun i => b1.frozen i
    clear c1 c2 ff hv hb
    generalize w.setCell ⟨g, 1, none⟩ (.int .u64 21) = w1 at *
    go_wp2_with fail
    have b2 := b1.set_ 2 (.int .i64 5)
    have l2 := l1.setCell (p := ⟨g, 2, none⟩) (Nat.le_refl _) (.int .i64 5)
    have d3 : (w1.setCell ⟨g, 2, none⟩ (.int .i64 5)).cell? ⟨g, 2, none⟩ = some (.int .i64 5) := b2.cell 2
    clear d2 fd b1 l1
    generalize w1.setCell ⟨g, 2, none⟩ (.int .i64 5) = w2 at *
    refine wp_loop_rounds 1 ?_
    rw [rounds_succ]
    go_wp2_with fail
    go_end0
    exact ⟨rfl, b2.drewN 1, below_draws l2 1⟩

end Go.Proofs.Ytpofdlcadobdoaa.Bits
