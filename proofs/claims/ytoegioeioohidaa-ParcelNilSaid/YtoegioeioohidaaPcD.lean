/-
  Layer 23, parcel: the document's example: a contract. Conditions: as each theorem names.
-/
import Derived.Test.YtoegioeioohidaaPcC
import Derived.Lib.SlBytesConst
namespace Go.Proofs.Ytoegioeioohidaa.Pc
open Go.ChangeShapes Go.WideShapes Go.ChangeAt Go.RowKit Go.Conc Go.Proofs.Ytoegioeioohidaa.Kit Go.Proofs.Ytoegioeioohidaa.Bits

set_option maxHeartbeats 1600000 in
theorem paycap_any (w : World) : Calls Try.prog 15 #[.int .i64 128] w fun e w' => e = .returned (.int .i64 145) ∧ w' = w := by
  go_enter Try.func15, Try.ntmps15
  go_wp2
  go_ret
  exact ⟨rfl, rfl⟩
theorem holds_row {w : World} {t : TypeId} {zs : List Int} (m : Nat × Nat) : Holds (w.alloc (.cells (zs.map (Value.int .u8)).toArray t m)) (w.alloc (.cells (zs.map (Value.int .u8)).toArray t m)).heap.size .u8 (some ⟨w.heap.size, 0, none⟩) zs := by
  intro _
  refine ⟨w.heap.size, 0, rfl, by simp, fun j hj => ?_⟩
  have := World.cell?_alloc_mark w (zs.map (Value.int .u8)).toArray t m j
  simpa [List.getD, List.getElem?_eq_getElem hj] using this
set_option maxRecDepth 100000 in
set_option maxHeartbeats 3200000 in
theorem awake_any (w : World) : Calls Try.prog 4 #[] w fun e w' => e = .returned (.bool true) ∧ Below w.heap.size w w' := by
  have GN := Lib.hid (new_any w)
  unfold NewP at GN
  have kc : ∀ W : World, (convert 22 22 (.slice (some ⟨W.heap.size, 0, none⟩) 4 4)).run Try.prog (W.alloc (.cells #[.int .u8 68, .int .u8 82, .int .u8 71, .int .u8 88] 5)) = .ok (.slice (some ⟨W.heap.size, 0, none⟩) 4 4) (W.alloc (.cells #[.int .u8 68, .int .u8 82, .int .u8 71, .int .u8 88] 5 (4, 5))) := fun W => Lib.run_convert_bytes_const W _ _ _ _ _ Try.underlying22 Try.underlying5
  have GP := Lib.hid paycap_any
  go_enter Try.func4, Try.ntmps4
  go_wp2_with fail
  refine GN.out.mono ?_
  rintro e w1 ⟨rfl, p1, c1, b1⟩
  have hl := p1.lt
  have hlc : w.heap.size < w1.heap.size := by omega
  have al : Below w1.heap.size w1 (w1.alloc (.cells #[.int .u8 68, .int .u8 82, .int .u8 71, .int .u8 88] 5 (4, 5))) := (Below.refl _ _).alloc (Nat.le_refl _) _
  have GF := Lib.hid (feed_bad (w.heap.size + 1) w.heap.size (some ⟨w1.heap.size, 0, none⟩) 4 w.heap.size (w1.alloc (.cells #[.int .u8 68, .int .u8 82, .int .u8 71, .int .u8 88] 5 (4, 5))) (by omega) (by omega) (p1.below al hl) ((al.block _ hlc).trans c1) (holds_row (zs := [68, 82, 71, 88]) (4, 5)) (fun b off e => by injection e with e; injection e with e _; omega))
  have B1 := Lib.hid (b1.trans (al.mono (by omega)))
  clear p1 c1 b1 al
  go_wp2_with (first
    | (go_at_call 5; refine GF.out.mono ?_; rintro e w2 ⟨rfl, b2⟩)
    | (go_at_call 15; refine (GP.out _).mono ?_; rintro e w3 ⟨rfl, rfl⟩))
  go_ret
  exact ⟨rfl, B1.out.trans b2⟩
end Go.Proofs.Ytoegioeioohidaa.Pc
