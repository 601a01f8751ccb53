/-
  JournalNil: the walk: a nil journal has no record and takes none.
-/
import Derived.Test.YtihdgeggfdjfgaaDoorJrD
import Derived.Test.YtihdgeggfdjfgaaDoorJrE
namespace Go.Proofs.YtihdgeggfdjfgaaDoor.JournalNil
open Go.ChangeShapes Go.WideShapes Go.ChangeAt Go.RowKit Go.Proofs.YtihdgeggfdjfgaaDoor.Kit Go.Proofs.YtihdgeggfdjfgaaDoor.Jr
open Go.Proofs.YtihdgeggfdjfgaaDoor.Sha (LaidS)

set_option maxRecDepth 100000 in
set_option maxHeartbeats 3200000 in
theorem walk (r : Rec) (w : World) (ho : r.Ok) (_ : True) (hL : LaidS w) :
    Calls Tryd.prog 3 #[.agg r.cells.toArray] w fun e w' => e = .returned (.bool true) ∧ Below w.heap.size w w' := by
  have B1 := below_last w (.cells r.cells.toArray 26)
  have M1 : RecAt (w.alloc (.cells r.cells.toArray 26)) w.heap.size r := Block.new w _ _
  have g1 := M1.lt
  have HL := Lib.hid (r.cells_length ho.man)
  have GA := Lib.hid (fun W hB => awake_any W (hL.below hB))
  have GL := Lib.hid last_nil
  have GW := Lib.hid (write_nil r)
  have HB := Lib.hid zero_build
  have HE := Lib.hid eql_zero
  obtain ⟨Z, hZ⟩ : ∃ Z, rec0.cells.toArray = Z := ⟨_, rfl⟩
  rw [hZ] at GL HB HE
  clear hZ
  have RR : ∀ W, Below w.heap.size (w.alloc (.cells r.cells.toArray 26)) W → (w.heap.size < (w.alloc (.cells r.cells.toArray 26)).heap.size) → True := fun _ _ _ => trivial
  clear RR
  obtain ⟨L, hLL⟩ : ∃ L, r.cells = L := ⟨_, rfl⟩
  have M2 : Block (w.alloc (.cells L.toArray 26)) w.heap.size 26 L.toArray := Block.new w _ _
  rw [hLL] at B1 HL GW g1 ⊢
  clear M1 hLL
  generalize hW : w.alloc (.cells L.toArray 26) = w1 at *
  go_enter Tryd.func3, Tryd.ntmps3
  go_wp2_with (first
    | (go_at_call 4; (with_reducible refine (GL.out _).mono ?_); rintro e w2 ⟨rfl, hb⟩; have R2 := block_range (L := L) (Block.below M2 hb g1); have B2 := B1.trans (hb.mono B1.size))
    | (refine wpList_build_known rfl _ _ rfl (.agg Z) ?_ ?_; (intro W; have hw9 := HB.out W; simpa [Act.eval] using hw9))
    | (have _t := R2; refine wpList_eql_rec (by rfl) _ _ _ rfl (r := Z) (s := Z) rfl rfl HE.out ?_)
    | (have _t := R2; refine wpList_load_midV (by rfl) _ _ rfl _ 0 rfl L R2 Tryd.underlying26 rfl (by rw [HL.out]; kernel_rfl) ?_)
    | (go_at_call 5; (with_reducible refine (GW.out _).mono ?_); rintro e w3 ⟨rfl, hb3⟩; have B3 := B2.trans (hb3.mono B2.size))
    | (go_at_call 6; (with_reducible refine (GA.out _ B3).mono ?_); rintro e w4 ⟨rfl, hb4⟩; have B4 := B3.trans (hb4.mono B3.size)))
  go_ret
  exact ⟨rfl, B4⟩
end Go.Proofs.YtihdgeggfdjfgaaDoor.JournalNil
