/-
  Layer 7, part: maps of layouts: contracts. Conditions: as each theorem names.
-/
import Derived.Test.YtpnodocjpedcmaaDoorPart3
namespace Go.Proofs.YtpnodocjpedcmaaDoor.Prt
open Go.ChangeShapes Go.WideShapes Go.ChangeAt Go.RowKit Go.Proofs.YtpnodocjpedcmaaDoor.Kit

theorem q_bd (S B s q : Int) (hS : 128 ≤ S ∧ S ≤ 4096) (hB : 128 ≤ B ∧ B ≤ 4096) (hs : 1 ≤ s ∧ s ≤ 4096) (hq : B / S = q) : (1 ≤ S → 0 ≤ q ∧ q ≤ 32) ∧ 0 ≤ s * q ∧ s * q ≤ 131072 := by
  have h0 : 0 ≤ q := by rw [← hq]; exact Int.ediv_nonneg (by omega) (by omega)
  have h1 : q * S ≤ B := by rw [← hq]; exact Int.ediv_mul_le B (by omega)
  have h2 : q * 128 ≤ q * S := Int.mul_le_mul_of_nonneg_left hS.1 h0
  have h3 : s * q ≤ s * 32 := Int.mul_le_mul_of_nonneg_left (show q ≤ 32 by omega) (by omega)
  exact ⟨fun _ => ⟨h0, by omega⟩, Int.mul_nonneg (by omega) h0, by omega⟩

set_option maxRecDepth 100000 in
set_option maxHeartbeats 1600000 in
theorem rlayout_any (S B s q : Int) (w : World) (hS : 128 ≤ S ∧ S ≤ 4096) (hB : 128 ≤ B ∧ B ≤ 4096) (hs : 1 ≤ s ∧ s ≤ 4096) (hq : B / S = q) :
    Calls Tryd.prog 27 #[.agg #[.int .i64 S, .int .i64 B, .int .i64 s]] w (Gives (mapV q s) w) := by
  obtain ⟨hqb, hsq⟩ := q_bd S B s q hS hB hs hq
  have hqb := hqb (by omega)
  obtain ⟨p, hp⟩ : ∃ p, s * q = p := ⟨_, rfl⟩
  unfold mapV
  rw [hp] at hsq ⊢
  have hp2 : q * s = p := by rw [Int.mul_comm]; exact hp
  have hwp : IntKind.i64.wrap p = p := IntWalk.i64_in _ (by omega)
  have hall : 2 + q + 2 * p = 2 + q + p + p := by omega
  clear hp
  go_enter Tryd.func27, Tryd.ntmps27
  go_wp2
  have blk := Block.new (w.alloc (.cells #[.int .i64 S, .int .i64 B, .int .i64 s] 61)) 45 #[.int .i64 0, .int .i64 1, .int .i64 1, .int .i64 1, .int .i64 2, .int .i64 q, .int .i64 (2 + q), .int .i64 p, .int .i64 (2 + q + p), .int .i64 p, .int .i64 (2 + q + p + p)]
  have hb : Below w.heap.size w ((w.alloc (.cells #[.int .i64 S, .int .i64 B, .int .i64 s] 61)).alloc (.cells #[.int .i64 0, .int .i64 1, .int .i64 1, .int .i64 1, .int .i64 2, .int .i64 q, .int .i64 (2 + q), .int .i64 p, .int .i64 (2 + q + p), .int .i64 p, .int .i64 (2 + q + p + p)] 45)) := ((Below.refl _ _).alloc (Nat.le_refl _) _).alloc (by simp) _
  generalize (w.alloc (.cells #[.int .i64 S, .int .i64 B, .int .i64 s] 61)).alloc (.cells #[.int .i64 0, .int .i64 1, .int .i64 1, .int .i64 1, .int .i64 2, .int .i64 q, .int .i64 (2 + q), .int .i64 p, .int .i64 (2 + q + p), .int .i64 p, .int .i64 (2 + q + p + p)] 45) = w9 at *
  have hsz : (w.alloc (.cells #[.int .i64 S, .int .i64 B, .int .i64 s] 61)).heap.size = w.heap.size + 1 := by simp
  rw [hsz] at blk
  have e0 : w9.cell? ⟨w.heap.size + 1, 0, none⟩ = some (.int .i64 0) := blk.cell 0
  have e1 : w9.cell? ⟨w.heap.size + 1, 1, none⟩ = some (.int .i64 1) := blk.cell 1
  have e2 : w9.cell? ⟨w.heap.size + 1, 2, none⟩ = some (.int .i64 1) := blk.cell 2
  have e3 : w9.cell? ⟨w.heap.size + 1, 3, none⟩ = some (.int .i64 1) := blk.cell 3
  have e4 : w9.cell? ⟨w.heap.size + 1, 4, none⟩ = some (.int .i64 2) := blk.cell 4
  have e5 : w9.cell? ⟨w.heap.size + 1, 5, none⟩ = some (.int .i64 q) := blk.cell 5
  have e6 : w9.cell? ⟨w.heap.size + 1, 6, none⟩ = some (.int .i64 (2 + q)) := blk.cell 6
  have e7 : w9.cell? ⟨w.heap.size + 1, 7, none⟩ = some (.int .i64 p) := blk.cell 7
  have e8 : w9.cell? ⟨w.heap.size + 1, 8, none⟩ = some (.int .i64 (2 + q + p)) := blk.cell 8
  have e9 : w9.cell? ⟨w.heap.size + 1, 9, none⟩ = some (.int .i64 p) := blk.cell 9
  have e10 : w9.cell? ⟨w.heap.size + 1, 10, none⟩ = some (.int .i64 (2 + q + p + p)) := blk.cell 10
  refine bodyPost_ret (v := .agg #[.int .i64 0, .int .i64 1, .int .i64 1, .int .i64 1, .int .i64 2, .int .i64 q, .int .i64 (2 + q), .int .i64 p, .int .i64 (2 + q + p), .int .i64 p, .int .i64 (2 + q + p + p)]) ?_ rfl ⟨rfl, hb⟩
  simp [results, Tryd.results27, go_sem, e0, e1, e2, e3, e4, e5, e6, e7, e8, e9, e10]

theorem may_facts {S B s : Int} (h : mayB S B s = true) : (128 ≤ S ∧ S ≤ 4096) ∧ (128 ≤ B ∧ B ≤ 4096) ∧ (1 ≤ s ∧ s ≤ 4096) := by
  have := of_decide_eq_true h
  exact ⟨this.1, this.2.1, this.2.2.2.1⟩

def zeroMap : Value := .agg #[.int .i64 0, .int .i64 0, .int .i64 0, .int .i64 0, .int .i64 0, .int .i64 0, .int .i64 0, .int .i64 0, .int .i64 0, .int .i64 0, .int .i64 0]

set_option maxRecDepth 100000 in
set_option maxHeartbeats 1600000 in
theorem layout_no (S B s : Int) (w : World) (h : mayB S B s = false) : Calls Tryd.prog 56 #[.agg #[.int .i64 S, .int .i64 B, .int .i64 s]] w (Gives (.tuple #[zeroMap, .int .i64 1]) w) := by
  have gm := fun W => may_any S B s W
  rw [h] at gm
  have GM := Lib.hid gm
  clear gm h
  unfold zeroMap
  have br : Block ((w.alloc (.cells #[.int .i64 S, .int .i64 B, .int .i64 s] 61)).alloc (.cells #[.int .i64 0, .int .i64 0, .int .i64 0, .int .i64 0, .int .i64 0, .int .i64 0, .int .i64 0, .int .i64 0, .int .i64 0, .int .i64 0, .int .i64 0] 45)) (w.heap.size + 1) 45 #[.int .i64 0, .int .i64 0, .int .i64 0, .int .i64 0, .int .i64 0, .int .i64 0, .int .i64 0, .int .i64 0, .int .i64 0, .int .i64 0, .int .i64 0] := by
    have := Block.new (w.alloc (.cells #[.int .i64 S, .int .i64 B, .int .i64 s] 61)) 45 #[.int .i64 0, .int .i64 0, .int .i64 0, .int .i64 0, .int .i64 0, .int .i64 0, .int .i64 0, .int .i64 0, .int .i64 0, .int .i64 0, .int .i64 0]
    simpa using this
  have bc := (Block.new w 61 #[.int .i64 S, .int .i64 B, .int .i64 s]).alloc (.cells #[.int .i64 0, .int .i64 0, .int .i64 0, .int .i64 0, .int .i64 0, .int .i64 0, .int .i64 0, .int .i64 0, .int .i64 0, .int .i64 0, .int .i64 0] 45)
  have hb : Below w.heap.size w ((w.alloc (.cells #[.int .i64 S, .int .i64 B, .int .i64 s] 61)).alloc (.cells #[.int .i64 0, .int .i64 0, .int .i64 0, .int .i64 0, .int .i64 0, .int .i64 0, .int .i64 0, .int .i64 0, .int .i64 0, .int .i64 0, .int .i64 0] 45)) := ((Below.refl _ _).alloc (Nat.le_refl _) _).alloc (by simp) _
  go_enter Tryd.func56, Tryd.ntmps56
  go_wp2_with fail
  have hsz : ((w.alloc (.cells #[.int .i64 S, .int .i64 B, .int .i64 s] 61)).alloc (.cells #[.int .i64 0, .int .i64 0, .int .i64 0, .int .i64 0, .int .i64 0, .int .i64 0, .int .i64 0, .int .i64 0, .int .i64 0, .int .i64 0, .int .i64 0] 45)).heap.size = w.heap.size + 2 := by simp
  generalize (w.alloc (.cells #[.int .i64 S, .int .i64 B, .int .i64 s] 61)).alloc (.cells #[.int .i64 0, .int .i64 0, .int .i64 0, .int .i64 0, .int .i64 0, .int .i64 0, .int .i64 0, .int .i64 0, .int .i64 0, .int .i64 0, .int .i64 0] 45) = w1 at *
  have Hsz := Lib.hid hsz
  clear hsz
  refine (GM.out _).mono ?_
  rintro e w2 ⟨rfl, hb2⟩
  have br2 := br.below hb2 (by rw [Hsz.out]; omega)
  have hb12 := hb.trans (hb2.mono hb.size)
  clear br bc hb hb2
  have z0 : w2.cell? ⟨w.heap.size + 1, 0, none⟩ = some (.int .i64 0) := br2.cell 0
  have z1 : w2.cell? ⟨w.heap.size + 1, 1, none⟩ = some (.int .i64 0) := br2.cell 1
  have z2 : w2.cell? ⟨w.heap.size + 1, 2, none⟩ = some (.int .i64 0) := br2.cell 2
  have z3 : w2.cell? ⟨w.heap.size + 1, 3, none⟩ = some (.int .i64 0) := br2.cell 3
  have z4 : w2.cell? ⟨w.heap.size + 1, 4, none⟩ = some (.int .i64 0) := br2.cell 4
  have z5 : w2.cell? ⟨w.heap.size + 1, 5, none⟩ = some (.int .i64 0) := br2.cell 5
  have z6 : w2.cell? ⟨w.heap.size + 1, 6, none⟩ = some (.int .i64 0) := br2.cell 6
  have z7 : w2.cell? ⟨w.heap.size + 1, 7, none⟩ = some (.int .i64 0) := br2.cell 7
  have z8 : w2.cell? ⟨w.heap.size + 1, 8, none⟩ = some (.int .i64 0) := br2.cell 8
  have z9 : w2.cell? ⟨w.heap.size + 1, 9, none⟩ = some (.int .i64 0) := br2.cell 9
  have z10 : w2.cell? ⟨w.heap.size + 1, 10, none⟩ = some (.int .i64 0) := br2.cell 10
  have ff := fun i => br2.frozen i
  go_wp2_with fail
  have b9 := (((((((((((br2.set_ 0 (.int .i64 0)).set_ 1 (.int .i64 0)).set_ 2 (.int .i64 0)).set_ 3 (.int .i64 0)).set_ 4 (.int .i64 0)).set_ 5 (.int .i64 0)).set_ 6 (.int .i64 0)).set_ 7 (.int .i64 0)).set_ 8 (.int .i64 0)).set_ 9 (.int .i64 0)).set_ 10 (.int .i64 0))
  have hb9 := (((((((((((hb12.setCell (p := ⟨w.heap.size + 1, 0, none⟩) (by simp) (.int .i64 0)).setCell (p := ⟨w.heap.size + 1, 1, none⟩) (by simp) (.int .i64 0)).setCell (p := ⟨w.heap.size + 1, 2, none⟩) (by simp) (.int .i64 0)).setCell (p := ⟨w.heap.size + 1, 3, none⟩) (by simp) (.int .i64 0)).setCell (p := ⟨w.heap.size + 1, 4, none⟩) (by simp) (.int .i64 0)).setCell (p := ⟨w.heap.size + 1, 5, none⟩) (by simp) (.int .i64 0)).setCell (p := ⟨w.heap.size + 1, 6, none⟩) (by simp) (.int .i64 0)).setCell (p := ⟨w.heap.size + 1, 7, none⟩) (by simp) (.int .i64 0)).setCell (p := ⟨w.heap.size + 1, 8, none⟩) (by simp) (.int .i64 0)).setCell (p := ⟨w.heap.size + 1, 9, none⟩) (by simp) (.int .i64 0)).setCell (p := ⟨w.heap.size + 1, 10, none⟩) (by simp) (.int .i64 0))
  generalize (((((((((((w2.setCell ⟨w.heap.size + 1, 0, none⟩ (.int .i64 0)).setCell ⟨w.heap.size + 1, 1, none⟩ (.int .i64 0)).setCell ⟨w.heap.size + 1, 2, none⟩ (.int .i64 0)).setCell ⟨w.heap.size + 1, 3, none⟩ (.int .i64 0)).setCell ⟨w.heap.size + 1, 4, none⟩ (.int .i64 0)).setCell ⟨w.heap.size + 1, 5, none⟩ (.int .i64 0)).setCell ⟨w.heap.size + 1, 6, none⟩ (.int .i64 0)).setCell ⟨w.heap.size + 1, 7, none⟩ (.int .i64 0)).setCell ⟨w.heap.size + 1, 8, none⟩ (.int .i64 0)).setCell ⟨w.heap.size + 1, 9, none⟩ (.int .i64 0)).setCell ⟨w.heap.size + 1, 10, none⟩ (.int .i64 0)) = w9 at *
  have e0 : w9.cell? ⟨w.heap.size + 1, 0, none⟩ = some (.int .i64 0) := b9.cell 0
  have e1 : w9.cell? ⟨w.heap.size + 1, 1, none⟩ = some (.int .i64 0) := b9.cell 1
  have e2 : w9.cell? ⟨w.heap.size + 1, 2, none⟩ = some (.int .i64 0) := b9.cell 2
  have e3 : w9.cell? ⟨w.heap.size + 1, 3, none⟩ = some (.int .i64 0) := b9.cell 3
  have e4 : w9.cell? ⟨w.heap.size + 1, 4, none⟩ = some (.int .i64 0) := b9.cell 4
  have e5 : w9.cell? ⟨w.heap.size + 1, 5, none⟩ = some (.int .i64 0) := b9.cell 5
  have e6 : w9.cell? ⟨w.heap.size + 1, 6, none⟩ = some (.int .i64 0) := b9.cell 6
  have e7 : w9.cell? ⟨w.heap.size + 1, 7, none⟩ = some (.int .i64 0) := b9.cell 7
  have e8 : w9.cell? ⟨w.heap.size + 1, 8, none⟩ = some (.int .i64 0) := b9.cell 8
  have e9 : w9.cell? ⟨w.heap.size + 1, 9, none⟩ = some (.int .i64 0) := b9.cell 9
  have e10 : w9.cell? ⟨w.heap.size + 1, 10, none⟩ = some (.int .i64 0) := b9.cell 10
  refine bodyPost_ret (v := .tuple #[.agg #[.int .i64 0, .int .i64 0, .int .i64 0, .int .i64 0, .int .i64 0, .int .i64 0, .int .i64 0, .int .i64 0, .int .i64 0, .int .i64 0, .int .i64 0], .int .i64 1]) ?_ rfl ⟨rfl, hb9⟩
  simp [results, Tryd.results56, go_sem, e0, e1, e2, e3, e4, e5, e6, e7, e8, e9, e10]

set_option maxRecDepth 100000 in
set_option maxHeartbeats 1600000 in
theorem layout_yes (S B s q : Int) (w : World) (h : mayB S B s = true) (hq : B / S = q) : Calls Tryd.prog 56 #[.agg #[.int .i64 S, .int .i64 B, .int .i64 s]] w (Gives (.tuple #[mapV q s, .int .i64 0]) w) := by
  have gm := fun W => may_any S B s W
  obtain ⟨hS, hB, hs⟩ := may_facts h
  rw [h] at gm
  have GM := Lib.hid gm
  have gl := fun W => lay_any S B s q W hS hB hs hq
  unfold mapV at gl ⊢
  have GL := Lib.hid gl
  clear gm h gl hq hS hB hs
  have br : Block ((w.alloc (.cells #[.int .i64 S, .int .i64 B, .int .i64 s] 61)).alloc (.cells #[.int .i64 0, .int .i64 0, .int .i64 0, .int .i64 0, .int .i64 0, .int .i64 0, .int .i64 0, .int .i64 0, .int .i64 0, .int .i64 0, .int .i64 0] 45)) (w.heap.size + 1) 45 #[.int .i64 0, .int .i64 0, .int .i64 0, .int .i64 0, .int .i64 0, .int .i64 0, .int .i64 0, .int .i64 0, .int .i64 0, .int .i64 0, .int .i64 0] := by
    have := Block.new (w.alloc (.cells #[.int .i64 S, .int .i64 B, .int .i64 s] 61)) 45 #[.int .i64 0, .int .i64 0, .int .i64 0, .int .i64 0, .int .i64 0, .int .i64 0, .int .i64 0, .int .i64 0, .int .i64 0, .int .i64 0, .int .i64 0]
    simpa using this
  have bc := (Block.new w 61 #[.int .i64 S, .int .i64 B, .int .i64 s]).alloc (.cells #[.int .i64 0, .int .i64 0, .int .i64 0, .int .i64 0, .int .i64 0, .int .i64 0, .int .i64 0, .int .i64 0, .int .i64 0, .int .i64 0, .int .i64 0] 45)
  have hb : Below w.heap.size w ((w.alloc (.cells #[.int .i64 S, .int .i64 B, .int .i64 s] 61)).alloc (.cells #[.int .i64 0, .int .i64 0, .int .i64 0, .int .i64 0, .int .i64 0, .int .i64 0, .int .i64 0, .int .i64 0, .int .i64 0, .int .i64 0, .int .i64 0] 45)) := ((Below.refl _ _).alloc (Nat.le_refl _) _).alloc (by simp) _
  go_enter Tryd.func56, Tryd.ntmps56
  go_wp2_with fail
  have hsz : ((w.alloc (.cells #[.int .i64 S, .int .i64 B, .int .i64 s] 61)).alloc (.cells #[.int .i64 0, .int .i64 0, .int .i64 0, .int .i64 0, .int .i64 0, .int .i64 0, .int .i64 0, .int .i64 0, .int .i64 0, .int .i64 0, .int .i64 0] 45)).heap.size = w.heap.size + 2 := by simp
  generalize (w.alloc (.cells #[.int .i64 S, .int .i64 B, .int .i64 s] 61)).alloc (.cells #[.int .i64 0, .int .i64 0, .int .i64 0, .int .i64 0, .int .i64 0, .int .i64 0, .int .i64 0, .int .i64 0, .int .i64 0, .int .i64 0, .int .i64 0] 45) = w1 at *
  have Hsz := Lib.hid hsz
  clear hsz
  refine (GM.out _).mono ?_
  rintro e w2 ⟨rfl, hb2⟩
  have br1 := br.below hb2 (by rw [Hsz.out]; omega)
  have bc1 := bc.below hb2 (by rw [Hsz.out]; omega)
  have hb11 := hb.trans (hb2.mono hb.size)
  have hs2 : w.heap.size + 2 ≤ w2.heap.size := by have := hb2.size; rw [Hsz.out] at this; exact this
  have c0 : w2.cell? ⟨w.heap.size, 0, none⟩ = some (.int .i64 S) := bc1.cell 0
  have c1 : w2.cell? ⟨w.heap.size, 1, none⟩ = some (.int .i64 B) := bc1.cell 1
  have c2 : w2.cell? ⟨w.heap.size, 2, none⟩ = some (.int .i64 s) := bc1.cell 2
  clear br bc hb hb2 bc1
  go_wp2_with fail
  refine (GL.out _).mono ?_
  rintro e w3 ⟨rfl, hb3⟩
  have br2 := br1.below hb3 (by omega)
  have hb12 := hb11.trans (hb3.mono hb11.size)
  clear br1 hb11 hb3 c0 c1 c2
  have z0 : w3.cell? ⟨w.heap.size + 1, 0, none⟩ = some (.int .i64 0) := br2.cell 0
  have z1 : w3.cell? ⟨w.heap.size + 1, 1, none⟩ = some (.int .i64 0) := br2.cell 1
  have z2 : w3.cell? ⟨w.heap.size + 1, 2, none⟩ = some (.int .i64 0) := br2.cell 2
  have z3 : w3.cell? ⟨w.heap.size + 1, 3, none⟩ = some (.int .i64 0) := br2.cell 3
  have z4 : w3.cell? ⟨w.heap.size + 1, 4, none⟩ = some (.int .i64 0) := br2.cell 4
  have z5 : w3.cell? ⟨w.heap.size + 1, 5, none⟩ = some (.int .i64 0) := br2.cell 5
  have z6 : w3.cell? ⟨w.heap.size + 1, 6, none⟩ = some (.int .i64 0) := br2.cell 6
  have z7 : w3.cell? ⟨w.heap.size + 1, 7, none⟩ = some (.int .i64 0) := br2.cell 7
  have z8 : w3.cell? ⟨w.heap.size + 1, 8, none⟩ = some (.int .i64 0) := br2.cell 8
  have z9 : w3.cell? ⟨w.heap.size + 1, 9, none⟩ = some (.int .i64 0) := br2.cell 9
  have z10 : w3.cell? ⟨w.heap.size + 1, 10, none⟩ = some (.int .i64 0) := br2.cell 10
  have ff := fun i => br2.frozen i
  go_wp2_with fail
  have b9 := (((((((((((br2.set_ 0 (.int .i64 0)).set_ 1 (.int .i64 1)).set_ 2 (.int .i64 1)).set_ 3 (.int .i64 1)).set_ 4 (.int .i64 2)).set_ 5 (.int .i64 q)).set_ 6 (.int .i64 (2 + q))).set_ 7 (.int .i64 (s * q))).set_ 8 (.int .i64 (2 + q + s * q))).set_ 9 (.int .i64 (s * q))).set_ 10 (.int .i64 (2 + q + s * q + s * q)))
  have hb9 := (((((((((((hb12.setCell (p := ⟨w.heap.size + 1, 0, none⟩) (by simp) (.int .i64 0)).setCell (p := ⟨w.heap.size + 1, 1, none⟩) (by simp) (.int .i64 1)).setCell (p := ⟨w.heap.size + 1, 2, none⟩) (by simp) (.int .i64 1)).setCell (p := ⟨w.heap.size + 1, 3, none⟩) (by simp) (.int .i64 1)).setCell (p := ⟨w.heap.size + 1, 4, none⟩) (by simp) (.int .i64 2)).setCell (p := ⟨w.heap.size + 1, 5, none⟩) (by simp) (.int .i64 q)).setCell (p := ⟨w.heap.size + 1, 6, none⟩) (by simp) (.int .i64 (2 + q))).setCell (p := ⟨w.heap.size + 1, 7, none⟩) (by simp) (.int .i64 (s * q))).setCell (p := ⟨w.heap.size + 1, 8, none⟩) (by simp) (.int .i64 (2 + q + s * q))).setCell (p := ⟨w.heap.size + 1, 9, none⟩) (by simp) (.int .i64 (s * q))).setCell (p := ⟨w.heap.size + 1, 10, none⟩) (by simp) (.int .i64 (2 + q + s * q + s * q)))
  generalize (((((((((((w3.setCell ⟨w.heap.size + 1, 0, none⟩ (.int .i64 0)).setCell ⟨w.heap.size + 1, 1, none⟩ (.int .i64 1)).setCell ⟨w.heap.size + 1, 2, none⟩ (.int .i64 1)).setCell ⟨w.heap.size + 1, 3, none⟩ (.int .i64 1)).setCell ⟨w.heap.size + 1, 4, none⟩ (.int .i64 2)).setCell ⟨w.heap.size + 1, 5, none⟩ (.int .i64 q)).setCell ⟨w.heap.size + 1, 6, none⟩ (.int .i64 (2 + q))).setCell ⟨w.heap.size + 1, 7, none⟩ (.int .i64 (s * q))).setCell ⟨w.heap.size + 1, 8, none⟩ (.int .i64 (2 + q + s * q))).setCell ⟨w.heap.size + 1, 9, none⟩ (.int .i64 (s * q))).setCell ⟨w.heap.size + 1, 10, none⟩ (.int .i64 (2 + q + s * q + s * q))) = w9 at *
  have e0 : w9.cell? ⟨w.heap.size + 1, 0, none⟩ = some (.int .i64 0) := b9.cell 0
  have e1 : w9.cell? ⟨w.heap.size + 1, 1, none⟩ = some (.int .i64 1) := b9.cell 1
  have e2 : w9.cell? ⟨w.heap.size + 1, 2, none⟩ = some (.int .i64 1) := b9.cell 2
  have e3 : w9.cell? ⟨w.heap.size + 1, 3, none⟩ = some (.int .i64 1) := b9.cell 3
  have e4 : w9.cell? ⟨w.heap.size + 1, 4, none⟩ = some (.int .i64 2) := b9.cell 4
  have e5 : w9.cell? ⟨w.heap.size + 1, 5, none⟩ = some (.int .i64 q) := b9.cell 5
  have e6 : w9.cell? ⟨w.heap.size + 1, 6, none⟩ = some (.int .i64 (2 + q)) := b9.cell 6
  have e7 : w9.cell? ⟨w.heap.size + 1, 7, none⟩ = some (.int .i64 (s * q)) := b9.cell 7
  have e8 : w9.cell? ⟨w.heap.size + 1, 8, none⟩ = some (.int .i64 (2 + q + s * q)) := b9.cell 8
  have e9 : w9.cell? ⟨w.heap.size + 1, 9, none⟩ = some (.int .i64 (s * q)) := b9.cell 9
  have e10 : w9.cell? ⟨w.heap.size + 1, 10, none⟩ = some (.int .i64 (2 + q + s * q + s * q)) := b9.cell 10
  refine bodyPost_ret (v := .tuple #[.agg #[.int .i64 0, .int .i64 1, .int .i64 1, .int .i64 1, .int .i64 2, .int .i64 q, .int .i64 (2 + q), .int .i64 (s * q), .int .i64 (2 + q + s * q), .int .i64 (s * q), .int .i64 (2 + q + s * q + s * q)], .int .i64 0]) ?_ rfl ⟨rfl, hb9⟩
  simp [results, Tryd.results56, go_sem, e0, e1, e2, e3, e4, e5, e6, e7, e8, e9, e10]
end Go.Proofs.YtpnodocjpedcmaaDoor.Prt
