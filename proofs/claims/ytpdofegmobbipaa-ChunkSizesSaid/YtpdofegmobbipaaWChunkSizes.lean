/-
  ChunkSizes: the walk: how many bytes any block has is the document's.
-/
import Derived.Test.YtpdofegmobbipaaMnG
namespace Go.Proofs.Ytpdofegmobbipaa.ChunkSizes
open Go.ChangeShapes Go.WideShapes Go.ChangeAt Go.RowKit Go.Proofs.Ytpdofegmobbipaa.Kit Go.Proofs.Ytpdofegmobbipaa.Mn

set_option maxRecDepth 100000 in
set_option maxHeartbeats 1600000 in
theorem walk (m : Man) (b : Int) (w : World) (ho : m.Ok) (hr : Holds w w.heap.size .i64 m.A m.ord) (_ : (Lit.int .i64 b).wf = true) :
    Calls Try.prog 7 #[.agg m.cells.toArray, .int .i64 b] w fun e w' => e = .returned (.bool true) ∧ Below w.heap.size w w' := by
  have B1 := below_last w (.cells m.cells.toArray 27)
  have M1 : ManAt (w.alloc (.cells m.cells.toArray 27)) w.heap.size m := Block.new w _ _
  have R1 := block_range (L := m.cells) M1
  have HL := Lib.hid (m.cells_length ho)
  have f5 := M1.order ho
  have hord := ho.ordl
  unfold maxLen at hord
  have GA := Lib.hid (fun W => awake26_any W)
  have GS := Lib.hid (fun W hB => size_any m ho b W ((hr.below hB).more (Below.size (B := w.heap.size) hB)))
  have GR := Lib.hid (fun W hB h5 => rsize_any m ho b W ((hr.below hB).more (Below.size (B := w.heap.size) hB)) h5)
  obtain ⟨L, hL⟩ : ∃ L, m.cells = L := ⟨_, rfl⟩
  rw [hL] at B1 R1 f5 GS GR HL ⊢
  clear M1 hL hr ho
  generalize m.size b = D at *
  generalize m.A = A at *
  generalize m.cap = cap at *
  generalize m.ord = ord at *
  generalize hW : w.alloc (.cells L.toArray 27) = w1 at *
  by_cases h6 : 60 < ord.length
  · have d6 : decide ((60 : Int) < (ord.length : Int)) = true := decide_eq_true (by omega)
    go_enter Try.func7, Try.ntmps7
    go_wp2_with (go_at_call 21; (with_reducible refine (GA.out _).mono ?_); rintro e w2 ⟨rfl, hb⟩)
    go_ret
    exact ⟨rfl, B1.trans (hb.mono B1.size)⟩
  · have d6 : decide ((60 : Int) < (ord.length : Int)) = false := decide_eq_false (by omega)
    have q1 := fun d os => GS.out _ (B1.trans ((below_regrown w1 d os).mono B1.size))
    have q2 := fun d os => GR.out _ (B1.trans ((below_regrown w1 d os).mono B1.size)) (by omega)
    go_enter Try.func7, Try.ntmps7
    go_wp2_with fail
    refine wp_region_quiet_below (by kernel_rfl) (by kernel_rfl) ?_
    refine wpQuiet_step (fun K hK => ?_)
    refine quiet_load_row (by rfl) 27 _ (by rfl) w.heap.size 0 (by rfl) L _ (range_regrown R1) Try.underlying27 (by rfl) (by rw [HL.out]; kernel_rfl) ?_
    go_simp
    refine hK _ ?_
    clear hK K
    go_big_quiet_step (fail)
    go_big_quiet_step (first | exact Calls.regrown_of (q1 _ _))
    refine wpQuiet_step (fun K hK => ?_)
    refine quiet_load_row (by rfl) 27 _ (by rfl) w.heap.size 0 (by rfl) L _ (range_regrown R1) Try.underlying27 (by rfl) (by rw [HL.out]; kernel_rfl) ?_
    go_simp
    refine hK _ ?_
    clear hK K
    go_big_quiet_step (fail)
    go_big_quiet_step (first | exact Calls.regrown_of (q2 _ _))
    repeat (go_big_quiet_step (first | exact Calls.regrown_of (GA.out _)))
    refine wpQuiet_nil ?_
    intro _ hw'
    obtain ⟨⟨dq, osq⟩, hw''⟩ := hw'
    have hbq := below_regrown w1 dq osq
    subst hw''
    go_wp2_with fail
    go_ret
    exact ⟨rfl, B1.trans (hbq.mono B1.size)⟩
end Go.Proofs.Ytpdofegmobbipaa.ChunkSizes
