/-
  JournalReads: the walk: the record in front of any bytes, or the error, is the document's.
-/
import Derived.Test.YtdfgdchmeikigaaDoorJrH
import Derived.Test.YtdfgdchmeikigaaDoorJrK
namespace Go.Proofs.YtdfgdchmeikigaaDoor.JournalReads
open Go.ChangeShapes Go.WideShapes Go.ChangeAt Go.RowKit Go.Proofs.YtdfgdchmeikigaaDoor.Kit Go.Proofs.YtdfgdchmeikigaaDoor.Jr
open Go.Proofs.YtdfgdchmeikigaaDoor.Sha (LaidS)

theorem getV_man (xs : List Int) (h : 99 ≤ xs.length ∨ xs.length < 99) : (getV xs).man.length = 32 := by
  unfold getV
  split
  · rename_i h0
    rcases h with h | h
    · show ((xs.drop 27).take 32).length = 32
      rw [List.length_take, List.length_drop]; omega
    · exfalso
      unfold getE at h0
      rw [if_pos h] at h0
      exact absurd h0 (by decide)
  · rfl

set_option maxRecDepth 100000 in
set_option maxHeartbeats 3200000 in
theorem walk (A : Option Addr) (xs : List Int) (c : Nat) (w : World) (hc : xs.length ≤ c) (hm : c ≤ maxLen) (ho : Octets xs) (hr : Holds w w.heap.size .u8 A xs) (hL : LaidS w) :
    Calls Tryd.prog 12 #[.slice A xs.length c] w fun e w' => e = .returned (.bool true) ∧ Below w.heap.size w w' := by
  have GA := Lib.hid (fun W hB => Jr.awake_any W (hL.below hB))
  have B0 := Below.refl w.heap.size w
  have hm' := hm
  unfold maxLen at hm'
  by_cases h5 : (500 : Int) < xs.length
  · have hd : decide ((500 : Int) < (xs.length : Int)) = true := decide_eq_true h5
    go_enter Tryd.func12, Tryd.ntmps12
    go_wp2_with (go_at_call 45; (with_reducible refine (GA.out _ B0).mono ?_); rintro e w1 ⟨rfl, hb1⟩)
    go_ret
    exact ⟨rfl, hb1⟩
  · have hd : decide ((500 : Int) < (xs.length : Int)) = false := decide_eq_false h5
    have GP : Hid (∀ W, Below w.heap.size w W → Calls Tryd.prog 46 #[.slice A xs.length c] W fun e w' => e = .returned (.tuple #[.agg (getV xs).cells.toArray, .int .i64 (getE xs)]) ∧ Below W.heap.size W w') :=
      Lib.hid (fun W hB => jget_any A xs c W hc hm (by omega) ho ((hr.below hB).more hB.size) (hL.below hB))
    have GR : Hid (∀ W, Below w.heap.size w W → Calls Tryd.prog 47 #[.slice A xs.length c] W fun e w' => e = .returned (.tuple #[.agg (getV xs).cells.toArray, .int .i64 (getE xs)]) ∧ Below W.heap.size W w') :=
      Lib.hid (fun W hB => rjget_any A xs c W hc hm (by omega) ho ((hr.below hB).more hB.size))
    have hv := getV_man xs (by omega)
    have HVL := Lib.hid (Rec.cells_length _ hv)
    have HVO := Lib.hid (getV xs).cells_one
    have HEQ := Lib.hid (eql_same _ hv)
    clear hv
    generalize (getV xs).cells = L at *
    generalize getE xs = E at *
    go_enter Tryd.func12, Tryd.ntmps12
    go_wp2_with (first
      | (go_at_call 46; (with_reducible refine (GP.out _ B0).mono ?_); rintro e w1 ⟨rfl, hb1⟩; have B1 := B0.trans hb1; have s1 := B1.size)
      | (have _t := B1; refine wpList_store_blk rfl _ _ _ rfl (ds := L) (Block.new w1 _ _) rfl rfl (by rw [HVL.out]; rfl) (by rw [HVL.out]; kernel_rfl) HVO.out ?_; clear _t; intro w2 R2 g2; have B2 : Below w.heap.size w w2 := (B1.alloc B1.size _).trans (below_of_grown g2 (B1.alloc B1.size _).size fun b hb => by injection hb with hb; omega); clear g2)
      | (go_at_call 47; (with_reducible refine (GR.out _ B2).mono ?_); rintro e w3 ⟨rfl, hb3⟩; have B3 := B2.trans (hb3.mono B2.size); have R3 := Block.below R2 hb3 (Block.lt R2); have s3 := B3.size; have t3 := Block.lt R3)
      | (have _t := B3; refine wpList_store_blk rfl _ _ _ rfl (ds := L) (Block.new w3 _ _) rfl rfl (by rw [HVL.out]; rfl) (by rw [HVL.out]; kernel_rfl) HVO.out ?_; clear _t; intro w4 R5 g4; have R4 := (Block.alloc R3 _).grown g4 (by intro e; injection e with e; omega); have B4 : Below w.heap.size w w4 := (B3.alloc B3.size _).trans (below_of_grown g4 (B3.alloc B3.size _).size fun b hb => by injection hb with hb; omega); clear g4)
      | (have _t := R4; refine wpList_load_midV (by rfl) _ _ rfl w1.heap.size 0 rfl L (block_range R4) Tryd.underlying67 rfl (by rw [HVL.out]; kernel_rfl) ?_)
      | (have _t := R5; refine wpList_load_midV (by rfl) _ _ rfl w3.heap.size 0 rfl L (block_range R5) Tryd.underlying67 rfl (by rw [HVL.out]; kernel_rfl) ?_)
      | (have _t := R5; refine wpList_eql_rec (by rfl) _ _ _ rfl (r := L.toArray) (s := L.toArray) rfl rfl HEQ.out ?_)
      | (go_at_call 45; (with_reducible refine (GA.out _ B4).mono ?_); rintro e w6 ⟨rfl, hb6⟩))
    go_ret
    exact ⟨rfl, B4.trans (hb6.mono B4.size)⟩
end Go.Proofs.YtdfgdchmeikigaaDoor.JournalReads
