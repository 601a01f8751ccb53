/-
  Layer 6, sector: the bytes of a step: contract. Conditions: as each theorem names.
-/
import Derived.Test.YtfngmdojogdodaaSeL
namespace Go.Proofs.Ytfngmdojogdodaa.Sec
open Go.ChangeShapes Go.WideShapes Go.ChangeAt Go.RowKit Go.Proofs.Ytfngmdojogdodaa.Kit Go.Maps

/-- The bytes of a step. -/
def stepB (n : Nat) (b : Int) (long : Bool) : List Int := List.replicate n b ++ if long = true then [b] else []

set_option maxHeartbeats 3200000 in
theorem bytes_any (n : Nat) (K I b : Int) (long : Bool) (p : Value) (w : World) (hn : n ≤ 4096) :
    Calls Try.prog 18 #[.int .i64 n, .agg #[.int .i64 K, .int .i64 I, .int .u8 b, .bool long, p]] w fun e w' => ∃ v, e = .returned v ∧ Own w' w.heap.size 5 .u8 v (stepB n b long) ∧ Below w.heap.size w w' := by
  have X0 : Block (w.alloc (.cells #[.int .i64 K, .int .i64 I, .int .u8 b, .bool long, p] 39)) w.heap.size 39 #[.int .i64 K, .int .i64 I, .int .u8 b, .bool long, p] := Block.new w _ _
  have B0 : Below w.heap.size w (w.alloc (.cells #[.int .i64 K, .int .i64 I, .int .u8 b, .bool long, p] 39)) := (Below.refl _ _).alloc (Nat.le_refl _) _
  have own1 : Own ((w.alloc (.cells #[.int .i64 K, .int .i64 I, .int .u8 b, .bool long, p] 39)).alloc (.cells #[] 5)) w.heap.size 5 .u8 (.slice (some ⟨w.heap.size + 1, 0, none⟩) 0 0) [] := by
    have := Own.empty (B := w.heap.size) (w.alloc (.cells #[.int .i64 K, .int .i64 I, .int .u8 b, .bool long, p] 39)) 5 .u8 (by simp)
    simpa using this
  have X1 := X0.alloc (.cells #[] 5)
  have B1 := B0.alloc B0.size (.cells #[] 5)
  clear X0 B0
  go_enter Try.func18, Try.ntmps18
  go_wp2_with fail
  go_loopw [5, 6] (fun v i wr => ∃ j : Nat, j ≤ n ∧ i = .int .i64 j ∧ Own wr w.heap.size 5 .u8 v (List.replicate j b) ∧ Block wr w.heap.size 39 #[.int .i64 K, .int .i64 I, .int .u8 b, .bool long, p] ∧ Below w.heap.size w wr) (fun _ i _ => n - (intOf i).toNat)
  case atStart => exact ⟨0, Nat.zero_le _, rfl, own1, X1, B1⟩
  case round =>
    obtain ⟨j, hj, rfl, own, X, hb⟩ := hrel
    clear own1 X1 B1
    have hsz := hb.size
    have q2 : wr.cell? ⟨w.heap.size, 2, none⟩ = some (.int .u8 b) := X.cell 2
    have q3 : wr.cell? ⟨w.heap.size, 3, none⟩ = some (.bool long) := X.cell 3
    have HX := Lib.hid X
    by_cases hlt : j < n
    · have e1 : List.replicate (j + 1) b = List.replicate j b ++ [b] := List.replicate_succ' ..
      have d1 : decide ((j : Int) < (n : Int)) = true := decide_eq_true (by omega)
      clear X
      go_wp2_with (at_builtin; refine wpList_append_one _ rfl _ _ _ rfl elem8 own rfl rfl (by simp; omega) (by omega) ?_; intro v2 w2 own2 hg2 hb2)
      have X2 : Block w2 w.heap.size 39 #[.int .i64 K, .int .i64 I, .int .u8 b, .bool long, p] := (HX.out.alloc _).grown hg2 (own.ne_block HX.out (by decide))
      go_roundw
      case rel => exact ⟨j + 1, by omega, by go_num, by rw [e1]; exact own2, X2, hb.trans hb2⟩
      case measure => simp [intOf]; omega
    · have d1 : decide ((j : Int) < (n : Int)) = false := decide_eq_false (by omega)
      obtain rfl : j = n := by omega
      clear X
      cases long with
      | false =>
        go_wp2_with fail
        go_ret
        exact ⟨_, rfl, by unfold stepB; rw [if_neg (by decide), List.append_nil]; exact own, hb⟩
      | true =>
        go_wp2_with (at_builtin; refine wpList_append_one _ rfl _ _ _ rfl elem8 own rfl rfl (by simp; omega) (by omega) ?_; intro v2 w2 own2 hg2 hb2)
        go_ret
        exact ⟨_, rfl, by unfold stepB; rw [if_pos rfl]; exact own2, hb.trans hb2⟩
end Go.Proofs.Ytfngmdojogdodaa.Sec
