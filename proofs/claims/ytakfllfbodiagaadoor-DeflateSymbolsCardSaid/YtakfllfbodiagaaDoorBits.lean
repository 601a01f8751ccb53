/-
  Layer 8, bits: what a nil writer and a nil reader answer. Conditions: none.
-/
import Derived.Test.YtakfllfbodiagaaDoorRows
import Derived.Test.YtakfllfbodiagaaDoorMem
import Derived.BigQuiet
namespace Go.Proofs.YtakfllfbodiagaaDoor.Bits
open Go.ChangeShapes Go.WideShapes Go.ChangeAt Go.RowKit Go.Proofs.YtakfllfbodiagaaDoor.Kit

theorem put_nil (x n : Int) (w : World) : Calls Tryd.prog 26 #[.pointer none, .int .u32 x, .int .i64 n] w fun e w' => e = .returned (.tuple #[]) ∧ w' = w := by
  go_enter Tryd.func26, Tryd.ntmps26
  go_wp2
  refine bodyPost_ret (results_none rfl _ _ _) rfl ?_
  exact ⟨rfl, rfl⟩

theorem walign_nil (w : World) : Calls Tryd.prog 25 #[.pointer none] w fun e w' => e = .returned (.tuple #[]) ∧ w' = w := by
  go_enter Tryd.func25, Tryd.ntmps25
  go_wp2
  go_end0
  exact ⟨rfl, rfl⟩

theorem wraw_nil (v : Value) (w : World) : Calls Tryd.prog 27 #[.pointer none, v] w fun e w' => e = .returned (.tuple #[]) ∧ w' = w := by
  go_enter Tryd.func27, Tryd.ntmps27
  go_wp2
  refine bodyPost_ret (results_none rfl _ _ _) rfl ?_
  exact ⟨rfl, rfl⟩

theorem bytes_nil (w : World) : Calls Tryd.prog 28 #[.pointer none] w fun e w' => e = .returned (.slice none 0 0) ∧ w' = w := by
  go_enter Tryd.func28, Tryd.ntmps28
  go_wp2
  go_ret
  exact ⟨rfl, rfl⟩

theorem revb_some (x : Int) (w : World) : Calls Tryd.prog 55 #[.int .u32 x] w fun e w' => (∃ r, e = .returned (.int .u32 r)) ∧ w' = w := by
  go_enter Tryd.func55, Tryd.ntmps55
  go_wp2
  go_ret
  exact ⟨⟨_, rfl⟩, rfl⟩

theorem rev_some (x : Int) (w : World) : Calls Tryd.prog 49 #[.int .u32 x] w fun e w' => (∃ r, e = .returned (.int .u32 r)) ∧ w' = w := by
  have G := Lib.hid revb_some
  go_enter Tryd.func49, Tryd.ntmps49
  go_wp2_with (go_at_call 55; refine (G.out _ _).mono ?_; rintro e w1 ⟨⟨r, rfl⟩, rfl⟩)
  go_ret
  exact ⟨⟨_, rfl⟩, rfl⟩

/-- A code of a nil writer: the bits are turned about, then nothing is put. -/
theorem code_nil (x n : Int) (w : World) (hn : (Lit.int .i64 n).wf = true) : Calls Tryd.prog 42 #[.pointer none, .int .u32 x, .int .i64 n] w fun e w' => e = .returned (.tuple #[]) ∧ w' = w := by
  have hb := bounds_i64 hn
  clear hn
  have G := Lib.hid put_nil
  have G2 := Lib.hid rev_some
  obtain ⟨m, hm⟩ : ∃ m, (if n < 0 then 0 else n) = m := ⟨_, rfl⟩
  have hm0 : 0 ≤ m := by rw [← hm]; split <;> omega
  obtain ⟨k, hk⟩ : ∃ k, (if 32 < m then 32 else m) = k := ⟨_, rfl⟩
  have hk0 : 0 ≤ k ∧ k ≤ 32 := by rw [← hk]; split <;> omega
  obtain ⟨j, rfl⟩ : ∃ j : Nat, k = 32 - (j : Int) := ⟨(32 - k).toNat, by omega⟩
  go_enter Tryd.func42, Tryd.ntmps42
  go_wp2_with (first
    | (go_at_call 49; refine (G2.out _ _).mono ?_; rintro e w1 ⟨⟨r, rfl⟩, rfl⟩)
    | (go_at_call 26; refine (G.out _ _ _).mono ?_; rintro e w2 ⟨rfl, rfl⟩))
  go_end0
  exact ⟨rfl, rfl⟩
end Go.Proofs.YtakfllfbodiagaaDoor.Bits
