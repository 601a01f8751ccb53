/-
  Layer 14, suffix: the index of no text: contracts. Conditions: as each theorem names.
-/
import Derived.Test.YtlojimhllbicjaaMtC
import Derived.Deep.OwnRows
import Derived.StillTailTactics
namespace Go.Proofs.Ytlojimhllbicjaa.Mt
open Go.ChangeShapes Go.WideShapes Go.ChangeAt Go.RowKit Go.Proofs.Ytlojimhllbicjaa.Kit

set_option maxRecDepth 100000 in
set_option maxHeartbeats 3200000 in
theorem byRank_nil (A1 A2 A3 : Option Addr) (c1 c2 c3 : Nat) (w : World) :
    Calls Try.prog 28 #[.slice A1 0 c1, .slice A2 0 c2, .slice A3 0 c3, .int .i64 256] w fun e w' => e = .returned (.tuple #[]) ∧ Below w.heap.size w w' := by
  have hmk : ∀ W, (Instr.makeSlice 43 (.int .i64 257) (.int .i64 257)).run Try.prog W = .ok (.slice (some ⟨W.heap.size, 0, none⟩) 257 257) (W.alloc (.cells (madeCells #[.int .i32 0] 257) 21)) := fun W =>
    run_make_row' (P := Try.prog) 43 21 (.int .i32 0) 4 Try.underlying43 (by kernel_rfl) rfl .i64 .i64 257 (by omega) (by omega) W
  have R0 := World.rowIs_made w (.int .i32 0) 257 21
  have B0 := below_last w (.cells (madeCells #[.int .i32 0] 257) 21)
  generalize hC : madeCells #[.int .i32 0] 257 = C at *
  go_enter Try.func28, Try.ntmps28
  go_wp2
  go_loop [19] (fun i => i = .int .i64 0) (fun _ => 0)
  case atStart => exact rfl
  case round =>
  subst hrel
  go_wp2
  go_loopw [35] (fun i wr => ∃ j : Nat, j ≤ 256 ∧ i = .int .i64 j ∧ wr.rowIs w.heap.size 21 257 (fun _ => .int .i32 0) ∧ Below w.heap.size w wr) (fun i _ => 256 - (intOf i).toNat)
  case atStart => exact ⟨0, Nat.zero_le _, rfl, R0, B0⟩
  case round =>
    clear R0 B0
    obtain ⟨j, hj, rfl, R, B⟩ := hrel
    by_cases hlt : j < 256
    · have d1 : decide ((j : Int) < 256) = true := decide_eq_true (by omega)
      have c1 : wr.cell? ⟨w.heap.size, j + 1, none⟩ = some (.int .i32 0) := R.cell (i := j + 1) (by omega)
      have c0 : wr.cell? ⟨w.heap.size, j, none⟩ = some (.int .i32 0) := R.cell (i := j) (by omega)
      have z1 := R.frozen (j + 1)
      have v2 : (0 : Int) ≤ (j : Int) + 1 := by omega
      have v3 : ((j : Int) + 1).toNat = j + 1 := by omega
      have v4 : j + 1 < 257 := by omega
      have v5 : j < 257 := by omega
      have v6 : (j : Int) + 1 < 257 := by omega
      have v1 : IntKind.i64.wrap ((j : Int) + 1) = (j : Int) + 1 := IntWalk.i64_in _ (by omega)
      have v7 : IntKind.i32.wrap 0 = 0 := by decide
      go_wp2_with fail
      have v8 : (j : Int) < 257 := by omega
      go_still_tail 11, (by kernel_rfl)
      change wpList _ _ _ _ _ wr.drew
      clear v1 v3
      go_wp2_with fail
      have R2 := (R.drew.set (j + 1) (.int .i32 0)).congr (g := fun _ => .int .i32 0) (fun i _ => by split <;> rfl)
      go_roundw
      case rel => exact ⟨j + 1, hlt, by go_num, R2, (below_draws B 1).setCell (Nat.le_refl _) _⟩
      case measure => simp [intOf] <;> omega
    · obtain rfl : j = 256 := by omega
      have d1 : decide (((256 : Nat) : Int) < 256) = false := decide_eq_false (by omega)
      go_wp2_with fail
      go_loop [52] (fun i => i = .int .i64 0) (fun _ => 0)
      case atStart => exact rfl
      case round =>
      subst hrel
      go_wp2_with fail
      refine bodyPost_end (results_none rfl _ _ _) rfl ?_
      exact ⟨rfl, B⟩

theorem rank_nil (A1 A2 A3 : Option Addr) (c1 c2 c3 : Nat) (f : Value) (w : World) :
    Calls Try.prog 29 #[.slice A1 0 c1, .slice A2 0 c2, .slice A3 0 c3, f] w fun e w' => e = .returned (.int .i64 0) ∧ w = w' := by
  go_enter Try.func29, Try.ntmps29
  go_wp2
  go_loop [9, 14] (fun n i => i = .int .i64 0 ∧ n = .int .i64 0) (fun _ _ => 0)
  case atStart => exact ⟨rfl, rfl⟩
  case round =>
    obtain ⟨rfl, rfl⟩ := hrel
    go_wp2
    go_ret
    exact ⟨rfl, rfl⟩

set_option maxRecDepth 100000 in
set_option maxHeartbeats 3200000 in
theorem sorted_nil (A : Option Addr) (c : Nat) (w : World) :
    Calls Try.prog 20 #[.slice A 0 c] w fun e w' => (∃ (A' : Option Addr) (c' : Nat), e = .returned (.slice A' 0 c')) ∧ Below w.heap.size w w' := by
  have hmk : ∀ W, (Instr.makeSlice 43 (.int .i64 0) (.int .i64 0)).run Try.prog W = .ok (.slice (some ⟨W.heap.size, 0, none⟩) 0 0) (W.alloc (.cells (madeCells #[.int .i32 0] 0) 21)) := fun W =>
    run_make_row' (P := Try.prog) 43 21 (.int .i32 0) 4 Try.underlying43 (by kernel_rfl) rfl .i64 .i64 0 (by omega) (by omega) W
  have GB := Lib.hid byRank_nil
  have GR := Lib.hid rank_nil
  generalize hC : madeCells #[.int .i32 0] 0 = C at *
  clear hC
  have B1 := below_last w (.cells #[.int .i64 0] 3)
  have k1 : Block (((((w.alloc (.cells #[.int .i64 0] 3)).alloc (.cells C 21)).alloc (.cells #[.slice (some ⟨w.heap.size + 1, 0, none⟩) 0 0] 43)).alloc (.cells C 21)).alloc (.cells C 21)) w.heap.size 3 #[.int .i64 0] := ((((Block.new w 3 #[.int .i64 0]).alloc _).alloc _).alloc _).alloc _
  have k2 : Block (((((w.alloc (.cells #[.int .i64 0] 3)).alloc (.cells C 21)).alloc (.cells #[.slice (some ⟨w.heap.size + 1, 0, none⟩) 0 0] 43)).alloc (.cells C 21)).alloc (.cells C 21)) (w.heap.size + 1 + 1) 43 #[.slice (some ⟨w.heap.size + 1, 0, none⟩) 0 0] := by
    have := ((Block.new ((w.alloc (.cells #[.int .i64 0] 3)).alloc (.cells C 21)) 43 #[.slice (some ⟨w.heap.size + 1, 0, none⟩) 0 0]).alloc (.cells C 21)).alloc (.cells C 21)
    rwa [show ((w.alloc (.cells #[.int .i64 0] 3)).alloc (.cells C 21)).heap.size = w.heap.size + 1 + 1 by simp] at this
  have B5 : Below w.heap.size w (((((w.alloc (.cells #[.int .i64 0] 3)).alloc (.cells C 21)).alloc (.cells #[.slice (some ⟨w.heap.size + 1, 0, none⟩) 0 0] 43)).alloc (.cells C 21)).alloc (.cells C 21)) := ((((B1.alloc B1.size _).alloc (by simp; omega) _).alloc (by simp; omega) _).alloc (by simp; omega) _)
  go_enter Try.func20, Try.ntmps20
  go_wp2
  go_loop [23] (fun i => i = .int .i64 0) (fun _ => 0)
  case atStart => exact rfl
  case round =>
  subst hrel
  go_wp2_with fail
  generalize (((((w.alloc (.cells #[.int .i64 0] 3)).alloc (.cells C 21)).alloc (.cells #[.slice (some ⟨w.heap.size + 1, 0, none⟩) 0 0] 43)).alloc (.cells C 21)).alloc (.cells C 21)) = w5 at *
  refine (GB.out _ _ _ _ _ _ _).mono ?_
  rintro e w6 ⟨rfl, hb⟩
  have j1 := k1.below hb k1.lt
  have j2 := k2.below hb k2.lt
  have c1 : w6.cell? ⟨w.heap.size, 0, none⟩ = some (.int .i64 0) := j1.cell 0
  have c2 : w6.cell? ⟨w.heap.size + 1 + 1, 0, none⟩ = some (.slice (some ⟨w.heap.size + 1, 0, none⟩) 0 0) := j2.cell 0
  have z2 : w6.frozen? ⟨w.heap.size + 1 + 1, 0, none⟩ = false := j2.frozen 0
  have B6 := B5.trans (hb.mono B5.size)
  clear k1 k2 hb B5
  go_wp2_with (first | (go_at_call 29; refine (GR.out _ _ _ _ _ _ _ _).mono ?_; rintro e w7 ⟨rfl, rfl⟩))
  go_loopw [9] (fun n wr => n = .int .i64 0 ∧ wr.cell? ⟨w.heap.size, 0, none⟩ = some (.int .i64 0) ∧ Below w.heap.size w wr) (fun _ _ => 0)
  case atStart => exact ⟨rfl, (Block.alloc (j1.far (p := ⟨w.heap.size + 1 + 1, 0, none⟩) (by simp <;> omega) _) _).cell 0, (B6.setCell (by simp <;> omega) _).alloc (by have := B6.size; simp; omega) _⟩
  case round =>
    clear c1 c2 z2 j1 j2 B6
    obtain ⟨rfl, c1, B6⟩ := hrel
    go_wp2_with fail
    go_ret
    exact ⟨⟨_, _, rfl⟩, B6⟩

set_option maxRecDepth 100000 in
set_option maxHeartbeats 1600000 in
theorem new_nil (w : World) : Calls Try.prog 17 #[.slice none 0 0] w fun e w' => (∃ (g : Nat) (A : Option Addr) (c : Nat), e = .returned (.tuple #[.pointer (some ⟨g, 0, none⟩), .int .i64 0]) ∧ Block w' g 46 #[.slice none 0 0, .slice A 0 c]) ∧ Below w.heap.size w w' := by
  have GS := Lib.hid (fun W => sorted_nil none 0 W)
  go_enter Try.func17, Try.ntmps17
  go_wp2_with (first | (go_at_call 20; refine (GS.out _).mono ?_; rintro e w1 ⟨⟨A, c, rfl⟩, hb⟩))
  go_ret2
  exact ⟨⟨_, _, _, rfl, Block.new w1 _ _⟩, hb.alloc hb.size _⟩

set_option maxRecDepth 100000 in
set_option maxHeartbeats 1600000 in
theorem find_nil (w : World) : Calls Try.prog 12 #[.slice none 0 0, .slice none 0 0] w fun e w' => e = .returned (.slice none 0 0) ∧ Below w.heap.size w w' := by
  have GN := Lib.hid (fun W => new_nil W)
  go_enter Try.func12, Try.ntmps12
  go_wp2_with (first | (go_at_call 17; refine (GN.out _).mono ?_; rintro e w1 ⟨⟨g, A, c, rfl, blk⟩, hb⟩))
  go_loop [7, 9] (fun l i => l = .slice none 0 0 ∧ i = .int .i64 0) (fun _ _ => 0)
  case atStart => exact ⟨rfl, rfl⟩
  case round =>
    obtain ⟨rfl, rfl⟩ := hrel
    go_wp2_with fail
    go_ret
    exact ⟨rfl, hb⟩
end Go.Proofs.Ytlojimhllbicjaa.Mt
