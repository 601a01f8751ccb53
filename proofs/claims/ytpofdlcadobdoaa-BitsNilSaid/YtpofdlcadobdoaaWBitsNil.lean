/-
  BitsNil: the walk: a nil writer keeps nothing, a nil reader has nothing, and both say so.
-/
import Derived.Test.YtpofdlcadobdoaaBits3
import Derived.Test.YtpofdlcadobdoaaRec2
namespace Go.Proofs.Ytpofdlcadobdoaa.BitsNil
open Go.ChangeShapes Go.WideShapes Go.ChangeAt Go.RowKit Go.Proofs.Ytpofdlcadobdoaa.Kit Go.Proofs.Ytpofdlcadobdoaa.Bits

set_option maxRecDepth 100000 in
set_option maxHeartbeats 1600000 in
theorem walk (a n x : Int) (A : Option Addr) (xs : List Int) (c : Nat) (w : World) (hn : (Lit.int .i64 n).wf = true) (hx : (Lit.int .u32 x).wf = true) (hl : xs.length ≤ c) (hm : c ≤ maxLen) :
    Calls Try.prog 6 #[.agg #[.int .i64 a, .int .i64 n, .int .u32 x, .slice A xs.length c]] w fun e w' => e = .returned (.bool true) ∧ Below w.heap.size w w' := by
  have hb0 : Below w.heap.size w (w.alloc (.cells #[.int .i64 a, .int .i64 n, .int .u32 x, .slice A xs.length c] 30)) := (Below.refl _ _).alloc (Nat.le_refl _) _
  have blk := Block.new w 30 #[.int .i64 a, .int .i64 n, .int .u32 x, .slice A xs.length c]
  have c1 : (w.alloc (.cells #[.int .i64 a, .int .i64 n, .int .u32 x, .slice A xs.length c] 30)).cell? ⟨w.heap.size, 1, none⟩ = some (.int .i64 n) := blk.cell 1
  have c2 : (w.alloc (.cells #[.int .i64 a, .int .i64 n, .int .u32 x, .slice A xs.length c] 30)).cell? ⟨w.heap.size, 2, none⟩ = some (.int .u32 x) := blk.cell 2
  have c3 : (w.alloc (.cells #[.int .i64 a, .int .i64 n, .int .u32 x, .slice A xs.length c] 30)).cell? ⟨w.heap.size, 3, none⟩ = some (.slice A xs.length c) := blk.cell 3
  clear blk
  have G1 := Lib.hid put_nil
  have G2 := Lib.hid (fun W => code_nil x n W hn)
  have G3 := Lib.hid walign_nil
  have G4 := Lib.hid wraw_nil
  have G5 := Lib.hid ralign_nil
  have G6 := Lib.hid get_nil
  have G7 := Lib.hid rraw_nil
  have G8 := Lib.hid len_nil
  have G9 := Lib.hid bytes_nil
  have G10 := Lib.hid left_nil
  have G11 := Lib.hid at_nil
  have G12 := Lib.hid seek_nil
  have G13 := Lib.hid awake_any
  by_cases h : xs.length ≤ 100
  · have hd : decide ((100 : Int) < (xs.length : Int)) = false := decide_eq_false (by omega)
    go_enter Try.func6, Try.ntmps6
    go_wp2_with (first
      | (go_at_call 10; refine (G1.out _ _ _).mono ?_; rintro e w1 ⟨rfl, rfl⟩)
      | (go_at_call 12; refine (G2.out _).mono ?_; rintro e w1 ⟨rfl, rfl⟩)
      | (go_at_call 14; refine (G3.out _).mono ?_; rintro e w1 ⟨rfl, rfl⟩)
      | (go_at_call 17; refine (G4.out _ _).mono ?_; rintro e w1 ⟨rfl, rfl⟩)
      | (go_at_call 23; refine (G5.out _).mono ?_; rintro e w1 ⟨rfl, rfl⟩)
      | (go_at_call 21; refine (G6.out _ _).mono ?_; rintro e w1 ⟨rfl, rfl⟩)
      | (go_at_call 25; refine (G7.out _ _).mono ?_; rintro e w1 ⟨rfl, rfl⟩)
      | (go_at_call 18; refine (G8.out _).mono ?_; rintro e w1 ⟨rfl, rfl⟩)
      | (go_at_call 19; refine (G9.out _).mono ?_; rintro e w1 ⟨rfl, rfl⟩)
      | (go_at_call 28; refine (G10.out _).mono ?_; rintro e w1 ⟨rfl, rfl⟩)
      | (go_at_call 27; refine (G11.out _).mono ?_; rintro e w1 ⟨rfl, rfl⟩)
      | (go_at_call 26; refine (G12.out _ _).mono ?_; rintro e w1 ⟨rfl, rfl⟩)
      | (go_at_call 8; refine (G13.out _).mono ?_; rintro e w5 ⟨rfl, hb5⟩))
    go_ret
    exact ⟨rfl, hb0.trans (hb5.mono hb0.size)⟩
  · have hd : decide ((100 : Int) < (xs.length : Int)) = true := decide_eq_true (by omega)
    go_enter Try.func6, Try.ntmps6
    go_wp2_with (go_at_call 8; refine (G13.out _).mono ?_; rintro e w5 ⟨rfl, hb5⟩)
    go_ret
    exact ⟨rfl, hb0.trans (hb5.mono hb0.size)⟩
end Go.Proofs.Ytpofdlcadobdoaa.BitsNil
