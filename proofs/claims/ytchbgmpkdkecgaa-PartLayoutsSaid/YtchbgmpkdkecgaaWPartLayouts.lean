/-
  PartLayouts: the walk: a layout that may not be is refused with the zero map; one that may has the document's map, with no gap and no sector twice.
-/
import Derived.Test.YtchbgmpkdkecgaaPart5
import Derived.Lib.QuietBelow
namespace Go.Proofs.Ytchbgmpkdkecgaa.PartLayouts
open Go.ChangeShapes Go.WideShapes Go.ChangeAt Go.RowKit Go.Proofs.Ytchbgmpkdkecgaa.Kit Go.Proofs.Ytchbgmpkdkecgaa.Prt

set_option maxRecDepth 100000 in
set_option maxHeartbeats 3200000 in
theorem walk_no (S B s : Int) (w : World) (h : mayB S B s = false) :
    Calls Try.prog 3 #[.agg #[.int .i64 S, .int .i64 B, .int .i64 s]] w fun e w' => e = .returned (.bool true) ∧ Below w.heap.size w w' := by
  have g1 := fun W => layout_no S B s W h
  have g2 := fun W => rmay_any S B s W
  have g3 := fun W => may_any S B s W
  have g4 := fun W => awake_any W
  rw [h] at g2 g3
  unfold zeroMap at g1
  have G1 := Lib.hid g1
  have G2 := Lib.hid g2
  have G3 := Lib.hid g3
  have G4 := Lib.hid g4
  clear g1 g2 g3 g4 h
  have bc := Block.new w 23 #[.int .i64 S, .int .i64 B, .int .i64 s]
  have hb0 : Below w.heap.size w (w.alloc (.cells #[.int .i64 S, .int .i64 B, .int .i64 s] 23)) := (Below.refl _ _).alloc (Nat.le_refl _) _
  go_enter Try.func3, Try.ntmps3
  go_wp2_with fail
  have hsz : (w.alloc (.cells #[.int .i64 S, .int .i64 B, .int .i64 s] 23)).heap.size = w.heap.size + 1 := by simp
  generalize w.alloc (.cells #[.int .i64 S, .int .i64 B, .int .i64 s] 23) = w1 at *
  refine (G1.out _).mono ?_
  rintro e w2 ⟨rfl, hb2⟩
  have bc2 := bc.below hb2 (by omega)
  have hb02 := hb0.trans (hb2.mono hb0.size)
  have hs2 : w.heap.size + 1 ≤ w2.heap.size := by have := hb2.size; omega
  clear bc hb0 hb2 hsz
  have b9 := Block.new w2 28 #[.int .i64 0, .int .i64 0, .int .i64 0, .int .i64 0, .int .i64 0, .int .i64 0, .int .i64 0, .int .i64 0, .int .i64 0, .int .i64 0, .int .i64 0]
  have hb9 := hb02.alloc hb02.size (.cells #[.int .i64 0, .int .i64 0, .int .i64 0, .int .i64 0, .int .i64 0, .int .i64 0, .int .i64 0, .int .i64 0, .int .i64 0, .int .i64 0, .int .i64 0] 28)
  have bc9 := bc2.alloc (.cells #[.int .i64 0, .int .i64 0, .int .i64 0, .int .i64 0, .int .i64 0, .int .i64 0, .int .i64 0, .int .i64 0, .int .i64 0, .int .i64 0, .int .i64 0] 28)
  have c0 : (w2.alloc (.cells #[.int .i64 0, .int .i64 0, .int .i64 0, .int .i64 0, .int .i64 0, .int .i64 0, .int .i64 0, .int .i64 0, .int .i64 0, .int .i64 0, .int .i64 0] 28)).cell? ⟨w.heap.size, 0, none⟩ = some (.int .i64 S) := bc9.cell 0
  have c1 : (w2.alloc (.cells #[.int .i64 0, .int .i64 0, .int .i64 0, .int .i64 0, .int .i64 0, .int .i64 0, .int .i64 0, .int .i64 0, .int .i64 0, .int .i64 0, .int .i64 0] 28)).cell? ⟨w.heap.size, 1, none⟩ = some (.int .i64 B) := bc9.cell 1
  have c2 : (w2.alloc (.cells #[.int .i64 0, .int .i64 0, .int .i64 0, .int .i64 0, .int .i64 0, .int .i64 0, .int .i64 0, .int .i64 0, .int .i64 0, .int .i64 0, .int .i64 0] 28)).cell? ⟨w.heap.size, 2, none⟩ = some (.int .i64 s) := bc9.cell 2
  have hs9 : (w2.alloc (.cells #[.int .i64 0, .int .i64 0, .int .i64 0, .int .i64 0, .int .i64 0, .int .i64 0, .int .i64 0, .int .i64 0, .int .i64 0, .int .i64 0, .int .i64 0] 28)).heap.size = w2.heap.size + 1 := by simp
  go_wp2_with fail
  generalize w2.alloc (.cells #[.int .i64 0, .int .i64 0, .int .i64 0, .int .i64 0, .int .i64 0, .int .i64 0, .int .i64 0, .int .i64 0, .int .i64 0, .int .i64 0, .int .i64 0] 28) = w9 at *
  clear bc2
  refine (G2.out _).mono ?_
  rintro e w10 ⟨rfl, hb10⟩
  have b10 := b9.below hb10 (by omega)
  have bc10 := bc9.below hb10 (by omega)
  have hb010 := hb9.trans (hb10.mono hb9.size)
  have hs10 : w2.heap.size + 1 ≤ w10.heap.size := by have := hb10.size; omega
  clear c0 c1 c2 b9 bc9 hb9 hb10
  have c0 : w10.cell? ⟨w.heap.size, 0, none⟩ = some (.int .i64 S) := bc10.cell 0
  have c1 : w10.cell? ⟨w.heap.size, 1, none⟩ = some (.int .i64 B) := bc10.cell 1
  have c2 : w10.cell? ⟨w.heap.size, 2, none⟩ = some (.int .i64 s) := bc10.cell 2
  go_wp2_with fail
  refine (G3.out _).mono ?_
  rintro e w11 ⟨rfl, hb11⟩
  have b11 := b10.below hb11 (by omega)
  have hb011 := hb010.trans (hb11.mono hb010.size)
  have e0 : w11.cell? ⟨w2.heap.size, 0, none⟩ = some (.int .i64 0) := b11.cell 0
  have e1 : w11.cell? ⟨w2.heap.size, 1, none⟩ = some (.int .i64 0) := b11.cell 1
  have e2 : w11.cell? ⟨w2.heap.size, 2, none⟩ = some (.int .i64 0) := b11.cell 2
  have e3 : w11.cell? ⟨w2.heap.size, 3, none⟩ = some (.int .i64 0) := b11.cell 3
  have e4 : w11.cell? ⟨w2.heap.size, 4, none⟩ = some (.int .i64 0) := b11.cell 4
  have e5 : w11.cell? ⟨w2.heap.size, 5, none⟩ = some (.int .i64 0) := b11.cell 5
  have e6 : w11.cell? ⟨w2.heap.size, 6, none⟩ = some (.int .i64 0) := b11.cell 6
  have e7 : w11.cell? ⟨w2.heap.size, 7, none⟩ = some (.int .i64 0) := b11.cell 7
  have e8 : w11.cell? ⟨w2.heap.size, 8, none⟩ = some (.int .i64 0) := b11.cell 8
  have e9 : w11.cell? ⟨w2.heap.size, 9, none⟩ = some (.int .i64 0) := b11.cell 9
  have e10 : w11.cell? ⟨w2.heap.size, 10, none⟩ = some (.int .i64 0) := b11.cell 10
  have hgd := fun W x y => run_eqGuard_agg (P := Try.prog) W .eql 28 x y #[.int .i64 0, .int .i64 0, .int .i64 0, .int .i64 0, .int .i64 0, .int .i64 0, .int .i64 0, .int .i64 0, .int .i64 0, .int .i64 0, .int .i64 0] #[.int .i64 0, .int .i64 0, .int .i64 0, .int .i64 0, .int .i64 0, .int .i64 0, .int .i64 0, .int .i64 0, .int .i64 0, .int .i64 0, .int .i64 0] (by kernel_rfl)
  have h2a : ∀ W : World, (Op.equalIn 9999 26 (.agg #[.int .i64 0, .int .i64 0, .int .i64 0, .int .i64 0]) (.agg #[.int .i64 0, .int .i64 0, .int .i64 0, .int .i64 0])).run Try.prog W = .ok true W := eq_two 9996 0 0 0 0
  have h2b : ∀ W : World, (Op.equalIn 9999 26 (.agg #[.int .i64 0, .int .i64 0, .int .i64 0, .int .i64 0]) (.agg #[.int .i64 0, .int .i64 0, .int .i64 0, .int .i64 0])).run Try.prog W = .ok true W := eq_two 9996 0 0 0 0
  have h2c : ∀ W : World, (Op.equalIn 9999 25 (.agg #[.int .i64 0, .int .i64 0]) (.agg #[.int .i64 0, .int .i64 0])).run Try.prog W = .ok true W := eq_region 9997 0 0
  have heq := eq_map 0 0 0 0 0 0 0 0 0 0 0
  clear b10 bc10 hb010 hb11 b11 c0 c1 c2
  go_wp2_with fail
  refine (G4.out _).mono ?_
  rintro e w12 ⟨rfl, hb12⟩
  go_wp2_with fail
  go_ret
  exact ⟨rfl, hb011.trans (hb12.mono hb011.size)⟩

set_option maxRecDepth 100000 in
set_option maxHeartbeats 6400000 in
theorem walk_yes (S B s q p : Int) (w : World) (h : mayB S B s = true) (hq : B / S = q) (hp : s * q = p) (hqb : 1 ≤ q ∧ q ≤ 32) (hpb : 1 ≤ p ∧ p ≤ 131072) :
    Calls Try.prog 3 #[.agg #[.int .i64 S, .int .i64 B, .int .i64 s]] w fun e w' => e = .returned (.bool true) ∧ Below w.heap.size w w' := by
  obtain ⟨hS, hB, hs⟩ := may_facts h
  have g1 := fun W => layout_yes S B s q W h hq
  have g2 := fun W => rmay_any S B s W
  have g3 := fun W => may_any S B s W
  have g4 := fun W => awake_any W
  have g5 := fun W => rlayout_any S B s q W hS hB hs hq
  rw [h] at g2 g3
  unfold mapV at g1 g5
  rw [hp] at g1 g5
  have G1 := Lib.hid g1
  have G2 := Lib.hid g2
  have G3 := Lib.hid g3
  have G4 := Lib.hid g4
  have G5 := Lib.hid g5
  clear g1 g2 g3 g4 g5 h hq hp hS hB hs
  have bc := Block.new w 23 #[.int .i64 S, .int .i64 B, .int .i64 s]
  have hb0 : Below w.heap.size w (w.alloc (.cells #[.int .i64 S, .int .i64 B, .int .i64 s] 23)) := (Below.refl _ _).alloc (Nat.le_refl _) _
  go_enter Try.func3, Try.ntmps3
  go_wp2_with fail
  have hsz : (w.alloc (.cells #[.int .i64 S, .int .i64 B, .int .i64 s] 23)).heap.size = w.heap.size + 1 := by simp
  generalize w.alloc (.cells #[.int .i64 S, .int .i64 B, .int .i64 s] 23) = w1 at *
  refine (G1.out _).mono ?_
  rintro e w2 ⟨rfl, hb2⟩
  have bc2 := bc.below hb2 (by omega)
  have hb02 := hb0.trans (hb2.mono hb0.size)
  have hs2 : w.heap.size + 1 ≤ w2.heap.size := by have := hb2.size; omega
  clear bc hb0 hb2 hsz
  have b9 := Block.new w2 28 #[.int .i64 0, .int .i64 1, .int .i64 1, .int .i64 1, .int .i64 2, .int .i64 q, .int .i64 (2 + q), .int .i64 p, .int .i64 (2 + q + p), .int .i64 p, .int .i64 (2 + q + p + p)]
  have hb9 := hb02.alloc hb02.size (.cells #[.int .i64 0, .int .i64 1, .int .i64 1, .int .i64 1, .int .i64 2, .int .i64 q, .int .i64 (2 + q), .int .i64 p, .int .i64 (2 + q + p), .int .i64 p, .int .i64 (2 + q + p + p)] 28)
  have bc9 := bc2.alloc (.cells #[.int .i64 0, .int .i64 1, .int .i64 1, .int .i64 1, .int .i64 2, .int .i64 q, .int .i64 (2 + q), .int .i64 p, .int .i64 (2 + q + p), .int .i64 p, .int .i64 (2 + q + p + p)] 28)
  have c0 : (w2.alloc (.cells #[.int .i64 0, .int .i64 1, .int .i64 1, .int .i64 1, .int .i64 2, .int .i64 q, .int .i64 (2 + q), .int .i64 p, .int .i64 (2 + q + p), .int .i64 p, .int .i64 (2 + q + p + p)] 28)).cell? ⟨w.heap.size, 0, none⟩ = some (.int .i64 S) := bc9.cell 0
  have c1 : (w2.alloc (.cells #[.int .i64 0, .int .i64 1, .int .i64 1, .int .i64 1, .int .i64 2, .int .i64 q, .int .i64 (2 + q), .int .i64 p, .int .i64 (2 + q + p), .int .i64 p, .int .i64 (2 + q + p + p)] 28)).cell? ⟨w.heap.size, 1, none⟩ = some (.int .i64 B) := bc9.cell 1
  have c2 : (w2.alloc (.cells #[.int .i64 0, .int .i64 1, .int .i64 1, .int .i64 1, .int .i64 2, .int .i64 q, .int .i64 (2 + q), .int .i64 p, .int .i64 (2 + q + p), .int .i64 p, .int .i64 (2 + q + p + p)] 28)).cell? ⟨w.heap.size, 2, none⟩ = some (.int .i64 s) := bc9.cell 2
  have hs9 : (w2.alloc (.cells #[.int .i64 0, .int .i64 1, .int .i64 1, .int .i64 1, .int .i64 2, .int .i64 q, .int .i64 (2 + q), .int .i64 p, .int .i64 (2 + q + p), .int .i64 p, .int .i64 (2 + q + p + p)] 28)).heap.size = w2.heap.size + 1 := by simp
  go_wp2_with fail
  generalize w2.alloc (.cells #[.int .i64 0, .int .i64 1, .int .i64 1, .int .i64 1, .int .i64 2, .int .i64 q, .int .i64 (2 + q), .int .i64 p, .int .i64 (2 + q + p), .int .i64 p, .int .i64 (2 + q + p + p)] 28) = w9 at *
  clear bc2
  refine (G2.out _).mono ?_
  rintro e w10 ⟨rfl, hb10⟩
  have b10 := b9.below hb10 (by omega)
  have bc10 := bc9.below hb10 (by omega)
  have hb010 := hb9.trans (hb10.mono hb9.size)
  have hs10 : w2.heap.size + 1 ≤ w10.heap.size := by have := hb10.size; omega
  clear c0 c1 c2 b9 bc9 hb9 hb10
  have c0 : w10.cell? ⟨w.heap.size, 0, none⟩ = some (.int .i64 S) := bc10.cell 0
  have c1 : w10.cell? ⟨w.heap.size, 1, none⟩ = some (.int .i64 B) := bc10.cell 1
  have c2 : w10.cell? ⟨w.heap.size, 2, none⟩ = some (.int .i64 s) := bc10.cell 2
  have e0 : w10.cell? ⟨w2.heap.size, 0, none⟩ = some (.int .i64 0) := b10.cell 0
  have e1 : w10.cell? ⟨w2.heap.size, 1, none⟩ = some (.int .i64 1) := b10.cell 1
  have e2 : w10.cell? ⟨w2.heap.size, 2, none⟩ = some (.int .i64 1) := b10.cell 2
  have e3 : w10.cell? ⟨w2.heap.size, 3, none⟩ = some (.int .i64 1) := b10.cell 3
  have e4 : w10.cell? ⟨w2.heap.size, 4, none⟩ = some (.int .i64 2) := b10.cell 4
  have e5 : w10.cell? ⟨w2.heap.size, 5, none⟩ = some (.int .i64 q) := b10.cell 5
  have e6 : w10.cell? ⟨w2.heap.size, 6, none⟩ = some (.int .i64 (2 + q)) := b10.cell 6
  have e7 : w10.cell? ⟨w2.heap.size, 7, none⟩ = some (.int .i64 p) := b10.cell 7
  have e8 : w10.cell? ⟨w2.heap.size, 8, none⟩ = some (.int .i64 (2 + q + p)) := b10.cell 8
  have e9 : w10.cell? ⟨w2.heap.size, 9, none⟩ = some (.int .i64 p) := b10.cell 9
  have e10 : w10.cell? ⟨w2.heap.size, 10, none⟩ = some (.int .i64 (2 + q + p + p)) := b10.cell 10
  have ba := Block.new w10 25 #[.int .i64 0, .int .i64 1, .int .i64 1, .int .i64 1, .int .i64 2, .int .i64 q, .int .i64 (2 + q), .int .i64 p, .int .i64 (2 + q + p), .int .i64 p]
  have b11 := b10.alloc (.cells #[.int .i64 0, .int .i64 1, .int .i64 1, .int .i64 1, .int .i64 2, .int .i64 q, .int .i64 (2 + q), .int .i64 p, .int .i64 (2 + q + p), .int .i64 p] 25)
  have bc11 := bc10.alloc (.cells #[.int .i64 0, .int .i64 1, .int .i64 1, .int .i64 1, .int .i64 2, .int .i64 q, .int .i64 (2 + q), .int .i64 p, .int .i64 (2 + q + p), .int .i64 p] 25)
  have hb011 := hb010.alloc hb010.size (.cells #[.int .i64 0, .int .i64 1, .int .i64 1, .int .i64 1, .int .i64 2, .int .i64 q, .int .i64 (2 + q), .int .i64 p, .int .i64 (2 + q + p), .int .i64 p] 25)
  go_wp2_with fail
  generalize w10.alloc (.cells #[.int .i64 0, .int .i64 1, .int .i64 1, .int .i64 1, .int .i64 2, .int .i64 q, .int .i64 (2 + q), .int .i64 p, .int .i64 (2 + q + p), .int .i64 p] 25) = w11 at *
  clear e0
  clear e1
  clear e2
  clear e3
  clear e4
  clear e5
  clear e6
  clear e7
  clear e8
  clear e9
  clear e10
  clear c0 c1 c2 b10 bc10 hb010
  have f0 : w11.cell? ⟨w10.heap.size, 0, none⟩ = some (.int .i64 0) := ba.cell 0
  have f1 : w11.cell? ⟨w10.heap.size, 1, none⟩ = some (.int .i64 1) := ba.cell 1
  have f2 : w11.cell? ⟨w10.heap.size, 2, none⟩ = some (.int .i64 1) := ba.cell 2
  have f3 : w11.cell? ⟨w10.heap.size, 3, none⟩ = some (.int .i64 1) := ba.cell 3
  have f4 : w11.cell? ⟨w10.heap.size, 4, none⟩ = some (.int .i64 2) := ba.cell 4
  have f5 : w11.cell? ⟨w10.heap.size, 5, none⟩ = some (.int .i64 q) := ba.cell 5
  have f6 : w11.cell? ⟨w10.heap.size, 6, none⟩ = some (.int .i64 (2 + q)) := ba.cell 6
  have f7 : w11.cell? ⟨w10.heap.size, 7, none⟩ = some (.int .i64 p) := ba.cell 7
  have f8 : w11.cell? ⟨w10.heap.size, 8, none⟩ = some (.int .i64 (2 + q + p)) := ba.cell 8
  have f9 : w11.cell? ⟨w10.heap.size, 9, none⟩ = some (.int .i64 p) := ba.cell 9
  have hq1 : decide (q < 1) = false := decide_eq_false (by omega)
  have hp1 : decide (p < 1) = false := decide_eq_false (by omega)
  refine wp_loop_rounds 6 ?_
  iterate 6 (rw [rounds_succ]; go_wp2_with fail)
  clear f0
  clear f1
  clear f2
  clear f3
  clear f4
  clear f5
  clear f6
  clear f7
  clear f8
  clear f9
  have c0 : w11.cell? ⟨w.heap.size, 0, none⟩ = some (.int .i64 S) := bc11.cell 0
  have c1 : w11.cell? ⟨w.heap.size, 1, none⟩ = some (.int .i64 B) := bc11.cell 1
  have c2 : w11.cell? ⟨w.heap.size, 2, none⟩ = some (.int .i64 s) := bc11.cell 2
  have e0 : w11.cell? ⟨w2.heap.size, 0, none⟩ = some (.int .i64 0) := b11.cell 0
  have e1 : w11.cell? ⟨w2.heap.size, 1, none⟩ = some (.int .i64 1) := b11.cell 1
  have e2 : w11.cell? ⟨w2.heap.size, 2, none⟩ = some (.int .i64 1) := b11.cell 2
  have e3 : w11.cell? ⟨w2.heap.size, 3, none⟩ = some (.int .i64 1) := b11.cell 3
  have e4 : w11.cell? ⟨w2.heap.size, 4, none⟩ = some (.int .i64 2) := b11.cell 4
  have e5 : w11.cell? ⟨w2.heap.size, 5, none⟩ = some (.int .i64 q) := b11.cell 5
  have e6 : w11.cell? ⟨w2.heap.size, 6, none⟩ = some (.int .i64 (2 + q)) := b11.cell 6
  have e7 : w11.cell? ⟨w2.heap.size, 7, none⟩ = some (.int .i64 p) := b11.cell 7
  have e8 : w11.cell? ⟨w2.heap.size, 8, none⟩ = some (.int .i64 (2 + q + p)) := b11.cell 8
  have e9 : w11.cell? ⟨w2.heap.size, 9, none⟩ = some (.int .i64 p) := b11.cell 9
  have e10 : w11.cell? ⟨w2.heap.size, 10, none⟩ = some (.int .i64 (2 + q + p + p)) := b11.cell 10
  have k0 := cell_regrown c0
  have k1 := cell_regrown c1
  have k2 := cell_regrown c2
  have m0 := cell_regrown e0
  have m1 := cell_regrown e1
  have m2 := cell_regrown e2
  have m3 := cell_regrown e3
  have m4 := cell_regrown e4
  have m5 := cell_regrown e5
  have m6 := cell_regrown e6
  have m7 := cell_regrown e7
  have m8 := cell_regrown e8
  have m9 := cell_regrown e9
  have m10 := cell_regrown e10
  have hgd := fun W x y => run_eqGuard_agg (P := Try.prog) W .eql 28 x y #[.int .i64 0, .int .i64 1, .int .i64 1, .int .i64 1, .int .i64 2, .int .i64 q, .int .i64 (2 + q), .int .i64 p, .int .i64 (2 + q + p), .int .i64 p, .int .i64 (2 + q + p + p)] #[.int .i64 0, .int .i64 1, .int .i64 1, .int .i64 1, .int .i64 2, .int .i64 q, .int .i64 (2 + q), .int .i64 p, .int .i64 (2 + q + p), .int .i64 p, .int .i64 (2 + q + p + p)] (by kernel_rfl)
  have h2a : ∀ W : World, (Op.equalIn 9999 26 (.agg #[.int .i64 0, .int .i64 1, .int .i64 1, .int .i64 1]) (.agg #[.int .i64 0, .int .i64 1, .int .i64 1, .int .i64 1])).run Try.prog W = .ok true W := eq_two 9996 0 1 1 1
  have h2b : ∀ W : World, (Op.equalIn 9999 26 (.agg #[.int .i64 (2 + q), .int .i64 p, .int .i64 (2 + q + p), .int .i64 p]) (.agg #[.int .i64 (2 + q), .int .i64 p, .int .i64 (2 + q + p), .int .i64 p])).run Try.prog W = .ok true W := eq_two 9996 (2 + q) p (2 + q + p) p
  have h2c : ∀ W : World, (Op.equalIn 9999 25 (.agg #[.int .i64 2, .int .i64 q]) (.agg #[.int .i64 2, .int .i64 q])).run Try.prog W = .ok true W := eq_region 9997 2 q
  have heq := eq_map 0 1 1 1 2 q (2 + q) p (2 + q + p) p (2 + q + p + p)
  refine wp_region_quiet_below (by kernel_rfl) (by kernel_rfl) ?_
  repeat (quiet_step (first | (with_reducible exact Calls.regrown_of (G3.out _)) | (with_reducible exact Calls.regrown_of (G5.out _)) | (with_reducible exact Calls.regrown_of (G4.out _))))
  refine wpQuiet_nil ?_
  intro wq hw'
  obtain ⟨pq, hw''⟩ := hw'
  have hbq : Below w11.heap.size w11 wq := by rw [hw'']; exact below_regrown w11 pq.d pq.os
  clear hw''
  go_wp2_with fail
  go_ret
  exact ⟨rfl, hb011.trans (hbq.mono hb011.size)⟩

theorem walk (S B s : Int) (w : World) (_ : (Lit.int .i64 S).wf = true) (_ : (Lit.int .i64 B).wf = true) (_ : (Lit.int .i64 s).wf = true) :
    Calls Try.prog 3 #[.agg #[.int .i64 S, .int .i64 B, .int .i64 s]] w fun e w' => e = .returned (.bool true) ∧ Below w.heap.size w w' := by
  cases h : mayB S B s with
  | false => exact walk_no S B s w h
  | true =>
    obtain ⟨hS, hB, hs⟩ := may_facts h
    have hd : B % S = 0 := (of_decide_eq_true h).2.2.1
    obtain ⟨q, hq⟩ : ∃ q, B / S = q := ⟨_, rfl⟩
    obtain ⟨hqb, hp0, hp1⟩ := q_bd S B s q hS hB hs hq
    have hqb := hqb (by omega)
    have hq1 : 1 ≤ q := by
      rcases Int.lt_or_le q 1 with hlt | hle
      · have hz : q = 0 := by omega
        have := Int.mul_ediv_add_emod B S
        rw [hq, hz, hd] at this
        omega
      · exact hle
    have hpos : 0 < s * q := Int.mul_pos (by omega) (by omega)
    exact walk_yes S B s q (s * q) w h hq rfl ⟨hq1, hqb.2⟩ ⟨by omega, hp1⟩
end Go.Proofs.Ytchbgmpkdkecgaa.PartLayouts
