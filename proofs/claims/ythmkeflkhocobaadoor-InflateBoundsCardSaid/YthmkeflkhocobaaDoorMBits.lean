/-
  Layer 8, bits: what a nil writer and a nil reader answer. Conditions: none.
-/
import Derived.Test.YthmkeflkhocobaaDoorRows
import Derived.Test.YthmkeflkhocobaaDoorMMem
import Derived.BigQuiet
namespace Go.Proofs.YthmkeflkhocobaaDoor.Bits
open Go.ChangeShapes Go.WideShapes Go.ChangeAt Go.RowKit Go.Proofs.YthmkeflkhocobaaDoor.Kit

theorem put_nil (x n : Int) (w : World) : Calls Tryd.prog 44 #[.pointer none, .int .u32 x, .int .i64 n] w fun e w' => e = .returned (.tuple #[]) ∧ w' = w := by
  go_enter Tryd.func44, Tryd.ntmps44
  go_wp2
  refine bodyPost_ret (results_none rfl _ _ _) rfl ?_
  exact ⟨rfl, rfl⟩

theorem walign_nil (w : World) : Calls Tryd.prog 47 #[.pointer none] w fun e w' => e = .returned (.tuple #[]) ∧ w' = w := by
  go_enter Tryd.func47, Tryd.ntmps47
  go_wp2
  go_end0
  exact ⟨rfl, rfl⟩

theorem wraw_nil (v : Value) (w : World) : Calls Tryd.prog 48 #[.pointer none, v] w fun e w' => e = .returned (.tuple #[]) ∧ w' = w := by
  go_enter Tryd.func48, Tryd.ntmps48
  go_wp2
  refine bodyPost_ret (results_none rfl _ _ _) rfl ?_
  exact ⟨rfl, rfl⟩

theorem bytes_nil (w : World) : Calls Tryd.prog 39 #[.pointer none] w fun e w' => e = .returned (.slice none 0 0) ∧ w' = w := by
  go_enter Tryd.func39, Tryd.ntmps39
  go_wp2
  go_ret
  exact ⟨rfl, rfl⟩

theorem left_nil (w : World) : Calls Tryd.prog 82 #[.pointer none] w fun e w' => e = .returned (.int .i64 0) ∧ w' = w := by
  go_enter Tryd.func82, Tryd.ntmps82
  go_wp2
  go_ret
  exact ⟨rfl, rfl⟩

theorem at_nil (w : World) : Calls Tryd.prog 56 #[.pointer none] w fun e w' => e = .returned (.int .i64 0) ∧ w' = w := by
  go_enter Tryd.func56, Tryd.ntmps56
  go_wp2
  go_ret
  exact ⟨rfl, rfl⟩

theorem seek_nil (n : Int) (w : World) : Calls Tryd.prog 54 #[.pointer none, .int .i64 n] w fun e w' => e = .returned (.int .i64 1) ∧ w' = w := by
  go_enter Tryd.func54, Tryd.ntmps54
  go_wp2
  go_ret
  exact ⟨rfl, rfl⟩

theorem get_nil (n : Int) (w : World) : Calls Tryd.prog 121 #[.pointer none, .int .i64 n] w fun e w' => e = .returned (.tuple #[.int .u32 0, .int .i64 1]) ∧ w' = w := by
  go_enter Tryd.func121, Tryd.ntmps121
  go_wp2
  go_ret2
  exact ⟨rfl, rfl⟩

theorem ralign_nil (w : World) : Calls Tryd.prog 80 #[.pointer none] w fun e w' => e = .returned (.tuple #[]) ∧ w' = w := by
  go_enter Tryd.func80, Tryd.ntmps80
  go_wp2
  go_end0
  exact ⟨rfl, rfl⟩

theorem rraw_nil (n : Int) (w : World) : Calls Tryd.prog 102 #[.pointer none, .int .i64 n] w fun e w' => e = .returned (.tuple #[.slice none 0 0, .int .i64 1]) ∧ w' = w := by
  have G := Lib.hid ralign_nil
  go_enter Tryd.func102, Tryd.ntmps102
  go_wp2_with (go_at_call 80; refine (G.out _).mono ?_; rintro e w1 ⟨rfl, rfl⟩)
  go_ret2
  exact ⟨rfl, rfl⟩

theorem revb_some (x : Int) (w : World) : Calls Tryd.prog 115 #[.int .u32 x] w fun e w' => (∃ r, e = .returned (.int .u32 r)) ∧ w' = w := by
  go_enter Tryd.func115, Tryd.ntmps115
  go_wp2
  go_ret
  exact ⟨⟨_, rfl⟩, rfl⟩

theorem rev_some (x : Int) (w : World) : Calls Tryd.prog 90 #[.int .u32 x] w fun e w' => (∃ r, e = .returned (.int .u32 r)) ∧ w' = w := by
  have G := Lib.hid revb_some
  go_enter Tryd.func90, Tryd.ntmps90
  go_wp2_with (go_at_call 115; refine (G.out _ _).mono ?_; rintro e w1 ⟨⟨r, rfl⟩, rfl⟩)
  go_ret
  exact ⟨⟨_, rfl⟩, rfl⟩

/-- A code of a nil writer: the bits are turned about, then nothing is put. -/
theorem code_nil (x n : Int) (w : World) (hn : (Lit.int .i64 n).wf = true) : Calls Tryd.prog 66 #[.pointer none, .int .u32 x, .int .i64 n] w fun e w' => e = .returned (.tuple #[]) ∧ w' = w := by
  have hb := bounds_i64 hn
  clear hn
  have G := Lib.hid put_nil
  have G2 := Lib.hid rev_some
  obtain ⟨m, hm⟩ : ∃ m, (if n < 0 then 0 else n) = m := ⟨_, rfl⟩
  have hm0 : 0 ≤ m := by rw [← hm]; split <;> omega
  obtain ⟨k, hk⟩ : ∃ k, (if 32 < m then 32 else m) = k := ⟨_, rfl⟩
  have hk0 : 0 ≤ k ∧ k ≤ 32 := by rw [← hk]; split <;> omega
  obtain ⟨j, rfl⟩ : ∃ j : Nat, k = 32 - (j : Int) := ⟨(32 - k).toNat, by omega⟩
  go_enter Tryd.func66, Tryd.ntmps66
  go_wp2_with (first
    | (go_at_call 90; refine (G2.out _ _).mono ?_; rintro e w1 ⟨⟨r, rfl⟩, rfl⟩)
    | (go_at_call 44; refine (G.out _ _ _).mono ?_; rintro e w2 ⟨rfl, rfl⟩))
  go_end0
  exact ⟨rfl, rfl⟩
end Go.Proofs.YthmkeflkhocobaaDoor.Bits
