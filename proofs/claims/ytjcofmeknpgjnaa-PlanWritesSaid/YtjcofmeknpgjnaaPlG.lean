/-
  Layer 16, plan: the document's numbers and plans as bytes; the size of a plan. Conditions: as each theorem names.
-/
import Derived.Test.YtjcofmeknpgjnaaPlZ
namespace Go.Proofs.Ytjcofmeknpgjnaa.Pl
open Go.ChangeShapes Go.WideShapes Go.ChangeAt Go.RowKit Go.Proofs.Ytjcofmeknpgjnaa.Kit

def GivesO (xs : List Int) (w : World) (e : Ending) (w' : World) : Prop :=
  ∃ A c, e = .returned (.slice A xs.length c) ∧ Own w' w.heap.size 5 .u8 (.slice A xs.length c) xs ∧ Below w.heap.size w w'

set_option maxHeartbeats 1600000 in
theorem rnumber_any (x : Int) (w : World) (hx : 0 ≤ x ∧ x ≤ 9223372036854775807) : Calls Try.prog 22 #[.int .i64 x] w (GivesO (numB x) w) := by
  have hN := (numB_length x).2
  have hp9 : x < 128 ^ (8 + 1) := by
    have h : (128 : Int) ^ (8 + 1) = 9223372036854775808 := by decide
    omega
  have own0 := Own.empty (B := w.heap.size) w 5 .u8 (Nat.le_refl _)
  have hb0 : Below w.heap.size w (w.alloc (.cells #[] 5)) := (Below.refl _ _).alloc (Nat.le_refl _) _
  go_enter Try.func22, Try.ntmps22
  go_wp2_with fail
  go_loopw [0, 3] (fun s u wr => ∃ (f : Nat) (y : Int) (zs : List Int) (A' : Option Addr) (c' : Nat), s = .int .i64 y ∧ u = .slice A' zs.length c' ∧ 0 ≤ y ∧ y ≤ x ∧ y < 128 ^ (f + 1) ∧ zs ++ numF f y = numB x ∧ zs.length + f ≤ 8 ∧
    Own wr w.heap.size 5 .u8 (.slice A' zs.length c') zs ∧ Below w.heap.size w wr) (fun s _ _ => (intOf s).toNat)
  case atStart => exact ⟨8, x, [], _, _, rfl, rfl, hx.1, Int.le_refl _, hp9, rfl, by simp, own0, hb0⟩
  case round =>
    obtain ⟨f, y, zs, A', c', rfl, rfl, h0, hyx, hy, hz, hzl, own1, hb⟩ := hrel
    have hBr := hb.size
    have Hz := Lib.hid hz
    clear hz
    by_cases h128 : 127 < y
    · have hd : decide ((127 : Int) < y) = true := decide_eq_true h128
      cases f with
      | zero => simp at hy; omega
      | succ f =>
        have hnext : numF (f + 1) y = (128 + y % 128) :: numF f (y / 128) := by rw [numF, if_neg (by omega)]
        have hy2 : y / 128 < 128 ^ (f + 1) := by rw [Int.pow_succ] at hy; exact Int.ediv_lt_of_lt_mul (by omega) (by omega)
        have Hn := Lib.hid hnext
        have Hy := Lib.hid hy2
        have hq1 : Int.tmod y 128 = y % 128 := Int.tmod_eq_emod_of_nonneg h0
        have hq2 : Int.tdiv y 128 = y / 128 := Int.tdiv_eq_ediv_of_nonneg h0
        clear hnext hy hy2
        go_wp2_with (at_builtin; refine wpList_append_one_out (z := 128 + y % 128) _ rfl _ _ _ rfl elem8 own1 rfl rfl (by omega) hBr ?_; intro A5 c5 w5 own5 t5 n5)
        have hb5 := own1.turned t5 hBr
        go_roundw
        case rel => exact ⟨f, y / 128, zs ++ [128 + y % 128], A5, c5, rfl, by simp, by omega, by omega, Hy.out, by rw [← Hz.out, Hn.out]; simp, by simp; omega, by simpa using own5, hb.trans hb5⟩
        case measure => simp [intOf] <;> omega
    · have hd : decide ((127 : Int) < y) = false := decide_eq_false h128
      have hlast : numF f y = [y] := by cases f <;> simp [numF]; omega
      have Hl := Lib.hid hlast
      clear hlast
      go_wp2_with (at_builtin; refine wpList_append_one_out (z := y) _ rfl _ _ _ rfl elem8 own1 rfl rfl (by omega) hBr ?_; intro A5 c5 w5 own5 t5 n5)
      have hb5 := own1.turned t5 hBr
      go_ret
      have hq : zs ++ [y] = numB x := by rw [← Hz.out, Hl.out]
      have hq2 : zs.length + 1 = (numB x).length := by rw [← hq]; simp
      rw [hq, hq2] at own5
      rw [hq2]
      exact ⟨A5, c5, rfl, own5, hb.trans hb5⟩
end Go.Proofs.Ytjcofmeknpgjnaa.Pl
