/-
  BuildMay: the walk: whether any lengths and options may be, and how many bytes a package may have, is the document's.
-/
import Derived.Test.YtofbbajepdcaiaaGreatDoorBm3
import Derived.Lib.QuietBelow
import Derived.Deep.QuietTactic
import Derived.BigQuiet
namespace Go.Proofs.YtofbbajepdcaiaaGreatDoor.BuildMay
open Go.ChangeShapes Go.WideShapes Go.ChangeAt Go.RowKit Go.Proofs.YtofbbajepdcaiaaGreatDoor.Kit Go.Proofs.YtofbbajepdcaiaaGreatDoor.Bm

theorem same_gives {P : Program} {f : FuncId} {args : Array Value} {w : World} {v : Value} (h : Calls P f args w fun e w' => e = .returned v ∧ w = w') : Calls P f args w fun e w' => e = .returned v ∧ Below w.heap.size w w' :=
  h.mono fun _ _ ⟨h1, h2⟩ => ⟨h1, h2 ▸ Below.refl _ _⟩

set_option maxRecDepth 100000 in
set_option maxHeartbeats 1600000 in
theorem walk (old new m b v h k : Int) (w : World) (_ : (Lit.int .i64 old).wf = true) (_ : (Lit.int .i64 new).wf = true) (wm : (Lit.int .u8 m).wf = true) (_ : (Lit.int .i64 b).wf = true) (_ : (Lit.int .u64 v).wf = true) (_ : (Lit.int .i64 h).wf = true) (_ : (Lit.int .i64 k).wf = true) :
    Calls Tryz.prog 3 #[.int .i64 old, .int .i64 new, .agg #[.int .u8 m, .int .i64 b, .int .u64 v], .int .i64 h, .int .i64 k] w fun e w' => e = .returned (.bool true) ∧ Below w.heap.size w w' := by
  have hm := bounds_u8 wm
  have blk := Block.new w 24 #[.int .u8 m, .int .i64 b, .int .u64 v]
  have hb0 : Below w.heap.size w (w.alloc (.cells #[.int .u8 m, .int .i64 b, .int .u64 v] 24)) := (Below.refl _ _).alloc (Nat.le_refl _) _
  have G1 := Lib.hid (fun W => may_any old new m b v W hm)
  have G2 := Lib.hid (fun W => rmay_any old new m b v W hm)
  have G3 := Lib.hid (fun W => same_gives (most_any h new k W))
  have G4 := Lib.hid (fun W => same_gives (rmost_any h new k W))
  have G5 := Lib.hid (fun W => awake_any W)
  generalize mayE old new m b = D at *
  generalize most h new k = M at *
  go_enter Tryz.func3, Tryz.ntmps3
  go_wp2_with fail
  have c0 : (w.alloc (.cells #[.int .u8 m, .int .i64 b, .int .u64 v] 24)).cell? ⟨w.heap.size, 0, none⟩ = some (.int .u8 m) := blk.cell 0
  have c1 : (w.alloc (.cells #[.int .u8 m, .int .i64 b, .int .u64 v] 24)).cell? ⟨w.heap.size, 1, none⟩ = some (.int .i64 b) := blk.cell 1
  have c2 : (w.alloc (.cells #[.int .u8 m, .int .i64 b, .int .u64 v] 24)).cell? ⟨w.heap.size, 2, none⟩ = some (.int .u64 v) := blk.cell 2
  clear blk
  generalize w.alloc (.cells #[.int .u8 m, .int .i64 b, .int .u64 v] 24) = w1 at *
  have k0 := cell_regrown c0
  have k1 := cell_regrown c1
  have k2 := cell_regrown c2
  refine wp_region_quiet_below (by kernel_rfl) (by kernel_rfl) ?_
  repeat (quiet_step (first | (with_reducible exact Calls.regrown_of (G1.out _)) | (with_reducible exact Calls.regrown_of (G2.out _)) | (with_reducible exact Calls.regrown_of (G3.out _)) | (with_reducible exact Calls.regrown_of (G4.out _)) | (with_reducible exact Calls.regrown_of (G5.out _))))
  refine wpQuiet_nil ?_
  intro _ hw'
  obtain ⟨⟨dq, osq⟩, hw''⟩ := hw'
  have hbq := below_regrown w1 dq osq
  subst hw''
  go_wp2_with fail
  go_ret
  exact ⟨rfl, hb0.trans (hbq.mono hb0.size)⟩
end Go.Proofs.YtofbbajepdcaiaaGreatDoor.BuildMay
