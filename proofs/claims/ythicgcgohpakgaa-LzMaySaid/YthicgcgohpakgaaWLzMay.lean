/-
  LzMay: the walk: whether it is a token is the document's.
-/
import Derived.Test.YthicgcgohpakgaaLzA
namespace Go.Proofs.Ythicgcgohpakgaa.LzMay
open Go.ChangeShapes Go.WideShapes Go.ChangeAt Go.RowKit Go.Proofs.Ythicgcgohpakgaa.Kit Go.Proofs.Ythicgcgohpakgaa.Lz

theorem walk (a l d : Int) (w : World) (_ : (Lit.int .u8 a).wf = true) (_ : (Lit.int .i64 l).wf = true) (_ : (Lit.int .i64 d).wf = true) :
    Calls Try.prog 4 #[.agg #[.int .u8 a, .int .i64 l, .int .i64 d]] w fun e w' => e = .returned (.bool true) ∧ Below w.heap.size w w' := by
  have blk := Block.new w 32 #[.int .u8 a, .int .i64 l, .int .i64 d]
  have hb0 : Below w.heap.size w (w.alloc (.cells #[.int .u8 a, .int .i64 l, .int .i64 d] 32)) := (Below.refl _ _).alloc (Nat.le_refl _) _
  have g1 := fun W => may_any a l d W
  have g2 := fun W => rmay_any a l d W
  generalize mayB a l d = M at *
  have G1 := Lib.hid g1
  have G2 := Lib.hid g2
  clear g1 g2
  go_enter Try.func4, Try.ntmps4
  go_wp2_with fail
  have c0 : (w.alloc (.cells #[.int .u8 a, .int .i64 l, .int .i64 d] 32)).cell? ⟨w.heap.size, 0, none⟩ = some (.int .u8 a) := blk.cell 0
  have c1 : (w.alloc (.cells #[.int .u8 a, .int .i64 l, .int .i64 d] 32)).cell? ⟨w.heap.size, 1, none⟩ = some (.int .i64 l) := blk.cell 1
  have c2 : (w.alloc (.cells #[.int .u8 a, .int .i64 l, .int .i64 d] 32)).cell? ⟨w.heap.size, 2, none⟩ = some (.int .i64 d) := blk.cell 2
  clear blk
  generalize w.alloc (.cells #[.int .u8 a, .int .i64 l, .int .i64 d] 32) = w1 at *
  have k0 := cell_regrown c0
  have k1 := cell_regrown c1
  have k2 := cell_regrown c2
  refine wp_region_quiet_below (by kernel_rfl) (by kernel_rfl) ?_
  repeat (quiet_step (first | exact Calls.regrown_of (G1.out _) | exact Calls.regrown_of (G2.out _) | exact Calls.regrown_of (awake_any _)))
  refine wpQuiet_nil ?_
  intro _ hw'
  obtain ⟨⟨dq, osq⟩, hw''⟩ := hw'
  have hbq := below_regrown w1 dq osq
  subst hw''
  go_wp2_with fail
  go_ret
  exact ⟨rfl, hb0.trans (hbq.mono hb0.size)⟩
end Go.Proofs.Ythicgcgohpakgaa.LzMay
