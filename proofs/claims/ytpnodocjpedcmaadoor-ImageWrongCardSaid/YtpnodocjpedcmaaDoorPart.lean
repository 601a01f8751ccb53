/-
  Layer 7, part: contracts of the layouts' functions. Conditions: as each theorem names.
-/
import Derived.Test.YtpnodocjpedcmaaDoorRows
import Derived.Test.YtpnodocjpedcmaaDoorMem
import Derived.Deep.RegionHeld3
import Derived.Deep.DeepCutAuto
import Derived.Deep.QuietTactic
import Derived.BigQuiet
import Derived.Lib.QuietBelow
namespace Go.Proofs.YtpnodocjpedcmaaDoor.Prt
open Go.ChangeShapes Go.WideShapes Go.ChangeAt Go.RowKit Go.Proofs.YtpnodocjpedcmaaDoor.Kit

theorem isin_any (x a b : Int) (w : World) : Calls Tryd.prog 96 #[.int .i64 x, .int .i64 a, .int .i64 b] w fun e w' => e = .returned (.bool (decide (a ≤ x ∧ x ≤ b))) ∧ w = w' := by
  by_cases h1 : a ≤ x
  · by_cases h2 : x ≤ b
    · rw [decide_eq_true (show a ≤ x ∧ x ≤ b from ⟨h1, h2⟩)]
      have q : decide (x ≤ b) = true := by simpa using h2
      go_enter Tryd.func96, Tryd.ntmps96
      go_wp2
      go_ret
      exact ⟨rfl, rfl⟩
    · rw [decide_eq_false (show ¬ (a ≤ x ∧ x ≤ b) from fun h => h2 h.2)]
      have q : decide (x ≤ b) = false := by simpa using h2
      go_enter Tryd.func96, Tryd.ntmps96
      go_wp2
      go_ret
      exact ⟨rfl, rfl⟩
  · rw [decide_eq_false (show ¬ (a ≤ x ∧ x ≤ b) from fun h => h1 h.1)]
    go_enter Tryd.func96, Tryd.ntmps96
    go_wp2
    go_ret
    exact ⟨rfl, rfl⟩

theorem grown_alloc {w w' : World} {row : Option Nat} (h : w.grownBy w' row) (o : Obj) : w.grownBy (w'.alloc o) row :=
  ⟨h.os, h.tape, h.output, Nat.le_trans h.size (by simp), fun k hk hne => (Below.heap_alloc w' o k (Nat.lt_of_lt_of_le hk h.size)).trans (h.block k hk hne)⟩
theorem grown_set {w w' : World} {g : Nat} (h : w.grownBy w' (some g)) (i : Nat) (u : Value) : w.grownBy (w'.setCell ⟨g, i, none⟩ u) (some g) :=
  ⟨h.os, h.tape, h.output, by simpa using h.size, fun k hk hne => (Below.heap_setCell w' _ u k (fun e => hne (by rw [e]))).trans (h.block k hk hne)⟩

theorem next_any (g : Nat) (v0 v1 v2 v3 v4 v5 v6 v7 v8 v9 : Value) (a n : Int) (w : World) (hb : Block w g 45 #[v0, v1, v2, v3, v4, v5, v6, v7, v8, v9, .int .i64 a])
    (ha : 0 ≤ a ∧ a ≤ 100000000) (hn : 0 ≤ n ∧ n ≤ 100000000) :
    Calls Tryd.prog 102 #[.int .i64 n, .pointer (some ⟨g, 0, none⟩)] w fun e w' => e = .returned (.agg #[.int .i64 a, .int .i64 n]) ∧ Block w' g 45 #[v0, v1, v2, v3, v4, v5, v6, v7, v8, v9, .int .i64 (a + n)] ∧ w.grownBy w' (some g) := by
  have c10 : w.cell? ⟨g, 10, none⟩ = some (.int .i64 a) := hb.cell 10
  have f10 := hb.frozen 10
  have hlt := hb.lt
  go_enter Tryd.func102, Tryd.ntmps102
  go_wp2
  refine bodyPost_ret (v := .agg #[.int .i64 a, .int .i64 n]) (by simp [results, Tryd.results102, go_sem]) rfl ⟨rfl, ?_, ?_⟩
  · have := ((hb.set_ 10 (.int .i64 (a + n))).alloc (.cells #[.int .i64 a, .int .i64 n] 42)).alloc (.cells #[.int .i64 a, .int .i64 n] 42)
    simpa using this
  · exact grown_alloc (grown_alloc (grown_set (World.grownBy.refl w _) 10 _) _) _

/-- The map of a layout: q sectors a block, s blocks a slot. -/
def mapV (q s : Int) : Value :=
  .agg #[.int .i64 0, .int .i64 1, .int .i64 1, .int .i64 1, .int .i64 2, .int .i64 q, .int .i64 (2 + q), .int .i64 (s * q), .int .i64 (2 + q + s * q), .int .i64 (s * q), .int .i64 (2 + q + s * q + s * q)]

def Gives (v : Value) (w : World) (e : Ending) (w' : World) : Prop := e = .returned v ∧ Below w.heap.size w w'

set_option maxHeartbeats 3200000 in
theorem lay_any (S B s q : Int) (w : World) (hS : 128 ≤ S ∧ S ≤ 4096) (hB : 128 ≤ B ∧ B ≤ 4096) (hs : 1 ≤ s ∧ s ≤ 4096) (hq : B / S = q) :
    Calls Tryd.prog 84 #[.agg #[.int .i64 S, .int .i64 B, .int .i64 s]] w (Gives (mapV q s) w) := by
  have hqb : 0 ≤ q ∧ q ≤ 32 := by
    have h0 : 0 ≤ q := by rw [← hq]; exact Int.ediv_nonneg (by omega) (by omega)
    have h1 : q * S ≤ B := by rw [← hq]; exact Int.ediv_mul_le B (by omega)
    have h2 : q * 128 ≤ q * S := Int.mul_le_mul_of_nonneg_left hS.1 h0
    omega
  have hsq : 0 ≤ s * q ∧ s * q ≤ 131072 := by
    have h1 : s * q ≤ s * 32 := Int.mul_le_mul_of_nonneg_left hqb.2 (by omega)
    exact ⟨Int.mul_nonneg (by omega) hqb.1, by omega⟩
  have hqi : B / S = q := hq
  have hwq : IntKind.i64.wrap (s * q) = s * q := IntWalk.i64_in _ (by omega)
  have bc := ((Block.new w 61 #[.int .i64 S, .int .i64 B, .int .i64 s]).alloc (.cells #[.int .i64 0, .int .i64 0, .int .i64 0, .int .i64 0, .int .i64 0, .int .i64 0, .int .i64 0, .int .i64 0, .int .i64 0, .int .i64 0, .int .i64 0] 45)).alloc (.cells #[.int .i64 0, .int .i64 0, .int .i64 0, .int .i64 0, .int .i64 0, .int .i64 0, .int .i64 0, .int .i64 0, .int .i64 0, .int .i64 0, .int .i64 0] 45)
  have br : Block (((w.alloc (.cells #[.int .i64 S, .int .i64 B, .int .i64 s] 61)).alloc (.cells #[.int .i64 0, .int .i64 0, .int .i64 0, .int .i64 0, .int .i64 0, .int .i64 0, .int .i64 0, .int .i64 0, .int .i64 0, .int .i64 0, .int .i64 0] 45)).alloc (.cells #[.int .i64 0, .int .i64 0, .int .i64 0, .int .i64 0, .int .i64 0, .int .i64 0, .int .i64 0, .int .i64 0, .int .i64 0, .int .i64 0, .int .i64 0] 45)) (w.heap.size + 1) 45 #[.int .i64 0, .int .i64 0, .int .i64 0, .int .i64 0, .int .i64 0, .int .i64 0, .int .i64 0, .int .i64 0, .int .i64 0, .int .i64 0, .int .i64 0] := by
    have := (Block.new (w.alloc (.cells #[.int .i64 S, .int .i64 B, .int .i64 s] 61)) 45 #[.int .i64 0, .int .i64 0, .int .i64 0, .int .i64 0, .int .i64 0, .int .i64 0, .int .i64 0, .int .i64 0, .int .i64 0, .int .i64 0, .int .i64 0]).alloc (.cells #[.int .i64 0, .int .i64 0, .int .i64 0, .int .i64 0, .int .i64 0, .int .i64 0, .int .i64 0, .int .i64 0, .int .i64 0, .int .i64 0, .int .i64 0] 45)
    simpa using this
  have bm : Block (((w.alloc (.cells #[.int .i64 S, .int .i64 B, .int .i64 s] 61)).alloc (.cells #[.int .i64 0, .int .i64 0, .int .i64 0, .int .i64 0, .int .i64 0, .int .i64 0, .int .i64 0, .int .i64 0, .int .i64 0, .int .i64 0, .int .i64 0] 45)).alloc (.cells #[.int .i64 0, .int .i64 0, .int .i64 0, .int .i64 0, .int .i64 0, .int .i64 0, .int .i64 0, .int .i64 0, .int .i64 0, .int .i64 0, .int .i64 0] 45)) (w.heap.size + 1 + 1) 45 #[.int .i64 0, .int .i64 0, .int .i64 0, .int .i64 0, .int .i64 0, .int .i64 0, .int .i64 0, .int .i64 0, .int .i64 0, .int .i64 0, .int .i64 0] := by
    have := Block.new ((w.alloc (.cells #[.int .i64 S, .int .i64 B, .int .i64 s] 61)).alloc (.cells #[.int .i64 0, .int .i64 0, .int .i64 0, .int .i64 0, .int .i64 0, .int .i64 0, .int .i64 0, .int .i64 0, .int .i64 0, .int .i64 0, .int .i64 0] 45)) 45 #[.int .i64 0, .int .i64 0, .int .i64 0, .int .i64 0, .int .i64 0, .int .i64 0, .int .i64 0, .int .i64 0, .int .i64 0, .int .i64 0, .int .i64 0]
    simpa using this
  have hb0 : Below w.heap.size w (((w.alloc (.cells #[.int .i64 S, .int .i64 B, .int .i64 s] 61)).alloc (.cells #[.int .i64 0, .int .i64 0, .int .i64 0, .int .i64 0, .int .i64 0, .int .i64 0, .int .i64 0, .int .i64 0, .int .i64 0, .int .i64 0, .int .i64 0] 45)).alloc (.cells #[.int .i64 0, .int .i64 0, .int .i64 0, .int .i64 0, .int .i64 0, .int .i64 0, .int .i64 0, .int .i64 0, .int .i64 0, .int .i64 0, .int .i64 0] 45)) := (((Below.refl _ _).alloc (Nat.le_refl _) _).alloc (by simp) _).alloc (by simp; omega) _
  have HQ := Lib.hid hq
  clear hq
  go_enter Tryd.func84, Tryd.ntmps84
  go_wp2_with fail
  generalize (((w.alloc (.cells #[.int .i64 S, .int .i64 B, .int .i64 s] 61)).alloc (.cells #[.int .i64 0, .int .i64 0, .int .i64 0, .int .i64 0, .int .i64 0, .int .i64 0, .int .i64 0, .int .i64 0, .int .i64 0, .int .i64 0, .int .i64 0] 45)).alloc (.cells #[.int .i64 0, .int .i64 0, .int .i64 0, .int .i64 0, .int .i64 0, .int .i64 0, .int .i64 0, .int .i64 0, .int .i64 0, .int .i64 0, .int .i64 0] 45)) = w0 at *
  refine (next_any _ _ _ _ _ _ _ _ _ _ _ 0 1 w0 bm (by omega) (by omega)).mono ?_
  rintro e w1 ⟨rfl, b1, g1⟩
  have bc1 := bc.grown g1 (by intro h; injection h with h; omega)
  have br1 := br.grown g1 (by intro h; injection h with h; omega)
  have hb1 := hb0.grown g1 hb0.size (fun k hk => by injection hk with hk; omega)
  clear bm bc br hb0 g1
  go_wp2_with fail
  refine (next_any _ _ _ _ _ _ _ _ _ _ _ (0 + 1) 1 w1 b1 (by omega) (by omega)).mono ?_
  rintro e w2 ⟨rfl, b2, g2⟩
  have bc2 := bc1.grown g2 (by intro h; injection h with h; omega)
  have br2 := br1.grown g2 (by intro h; injection h with h; omega)
  have hb2 := hb1.grown g2 hb1.size (fun k hk => by injection hk with hk; omega)
  clear b1 bc1 br1 hb1 g2
  have k0 : w2.cell? ⟨w.heap.size + 1 + 1, 0, none⟩ = some (.int .i64 0) := b2.cell 0
  have k1 : w2.cell? ⟨w.heap.size + 1 + 1, 1, none⟩ = some (.int .i64 0) := b2.cell 1
  have k2 : w2.cell? ⟨w.heap.size + 1 + 1, 2, none⟩ = some (.int .i64 0) := b2.cell 2
  have k3 : w2.cell? ⟨w.heap.size + 1 + 1, 3, none⟩ = some (.int .i64 0) := b2.cell 3
  have ff := fun i => b2.frozen i
  have q0 : w2.cell? ⟨w.heap.size, 0, none⟩ = some (.int .i64 S) := bc2.cell 0
  have q1 : w2.cell? ⟨w.heap.size, 1, none⟩ = some (.int .i64 B) := bc2.cell 1
  have q2 : w2.cell? ⟨w.heap.size, 2, none⟩ = some (.int .i64 s) := bc2.cell 2
  go_wp2_with fail
  have b3 := (((b2.set_ 0 (.int .i64 0)).set_ 1 (.int .i64 1)).set_ 2 (.int .i64 1)).set_ 3 (.int .i64 1)
  have bc3 := (((bc2.far (p := ⟨w.heap.size + 1 + 1, 0, none⟩) (by simp; omega) (.int .i64 0)).far (p := ⟨w.heap.size + 1 + 1, 1, none⟩) (by simp; omega) (.int .i64 1)).far (p := ⟨w.heap.size + 1 + 1, 2, none⟩) (by simp; omega) (.int .i64 1)).far (p := ⟨w.heap.size + 1 + 1, 3, none⟩) (by simp; omega) (.int .i64 1)
  have br3 := (((br2.far (p := ⟨w.heap.size + 1 + 1, 0, none⟩) (by simp) (.int .i64 0)).far (p := ⟨w.heap.size + 1 + 1, 1, none⟩) (by simp) (.int .i64 1)).far (p := ⟨w.heap.size + 1 + 1, 2, none⟩) (by simp) (.int .i64 1)).far (p := ⟨w.heap.size + 1 + 1, 3, none⟩) (by simp) (.int .i64 1)
  have hb3 := (((hb2.setCell (p := ⟨w.heap.size + 1 + 1, 0, none⟩) (by simp; omega) (.int .i64 0)).setCell (p := ⟨w.heap.size + 1 + 1, 1, none⟩) (by simp; omega) (.int .i64 1)).setCell (p := ⟨w.heap.size + 1 + 1, 2, none⟩) (by simp; omega) (.int .i64 1)).setCell (p := ⟨w.heap.size + 1 + 1, 3, none⟩) (by simp; omega) (.int .i64 1)
  generalize (((w2.setCell ⟨w.heap.size + 1 + 1, 0, none⟩ (.int .i64 0)).setCell ⟨w.heap.size + 1 + 1, 1, none⟩ (.int .i64 1)).setCell ⟨w.heap.size + 1 + 1, 2, none⟩ (.int .i64 1)).setCell ⟨w.heap.size + 1 + 1, 3, none⟩ (.int .i64 1) = w3 at *
  clear b2 bc2 br2 hb2 k0 k1 k2 k3 ff q0 q1 q2
  refine (next_any _ _ _ _ _ _ _ _ _ _ _ (0 + 1 + 1) q w3 b3 (by omega) (by omega)).mono ?_
  rintro e w4 ⟨rfl, b4, g4⟩
  have bc4 := bc3.grown g4 (by intro h; injection h with h; omega)
  have br4 := br3.grown g4 (by intro h; injection h with h; omega)
  have hb4 := hb3.grown g4 hb3.size (fun k hk => by injection hk with hk; omega)
  clear b3 bc3 br3 hb3 g4
  have k4 : w4.cell? ⟨w.heap.size + 1 + 1, 4, none⟩ = some (.int .i64 0) := b4.cell 4
  have k5 : w4.cell? ⟨w.heap.size + 1 + 1, 5, none⟩ = some (.int .i64 0) := b4.cell 5
  have ff := fun i => b4.frozen i
  go_wp2_with fail
  have b5 := (b4.set_ 4 (.int .i64 2)).set_ 5 (.int .i64 q)
  have bc5 := (bc4.far (p := ⟨w.heap.size + 1 + 1, 4, none⟩) (by simp; omega) (.int .i64 2)).far (p := ⟨w.heap.size + 1 + 1, 5, none⟩) (by simp; omega) (.int .i64 q)
  have br5 := (br4.far (p := ⟨w.heap.size + 1 + 1, 4, none⟩) (by simp) (.int .i64 2)).far (p := ⟨w.heap.size + 1 + 1, 5, none⟩) (by simp) (.int .i64 q)
  have hb5 := (hb4.setCell (p := ⟨w.heap.size + 1 + 1, 4, none⟩) (by simp; omega) (.int .i64 2)).setCell (p := ⟨w.heap.size + 1 + 1, 5, none⟩) (by simp; omega) (.int .i64 q)
  generalize (w4.setCell ⟨w.heap.size + 1 + 1, 4, none⟩ (.int .i64 2)).setCell ⟨w.heap.size + 1 + 1, 5, none⟩ (.int .i64 q) = w5 at *
  clear b4 bc4 br4 hb4 k4 k5 ff
  have q2 : w5.cell? ⟨w.heap.size, 2, none⟩ = some (.int .i64 s) := bc5.cell 2
  have b5' := b5.drewN 1
  have bc5' := bc5.drewN 1
  have br5' := br5.drewN 1
  have hb5' := below_draws hb5 1
  go_region_held3 (fun W' => W'.cell? ⟨w.heap.size, 2, none⟩ = some (.int .i64 s))
    (first | exact q2 | exact bc6.cell 2 | exact bc7.cell 2 | (rw [World.cell?_setCell_far _ _ _ _ (by simp; omega), World.cell?_setCell_far _ _ _ _ (by simp; omega), World.cell?_setCell_far _ _ _ _ (by simp; omega), World.cell?_setCell_far _ _ _ _ (by simp; omega)]; exact q7))
    (first
      | (go_at_call 102; have _t := b6; refine (next_any _ _ _ _ _ _ _ _ _ _ _ (0 + 1 + 1 + q + s * q) (s * q) w6 b6 (by omega) (by omega)).mono ?_; clear _t; rintro e w7 ⟨rfl, b7, g7⟩; have bc7 := bc6.grown g7 (by intro h; injection h with h; omega); have q7 : w7.cell? ⟨w.heap.size, 2, none⟩ = some (.int .i64 s) := bc7.cell 2; have k6 : w7.cell? ⟨w.heap.size + 1 + 1, 6, none⟩ = some (.int .i64 0) := b7.cell 6; have k7 : w7.cell? ⟨w.heap.size + 1 + 1, 7, none⟩ = some (.int .i64 0) := b7.cell 7; have k8 : w7.cell? ⟨w.heap.size + 1 + 1, 8, none⟩ = some (.int .i64 0) := b7.cell 8; have k9 : w7.cell? ⟨w.heap.size + 1 + 1, 9, none⟩ = some (.int .i64 0) := b7.cell 9; have ff7 := fun i => b7.frozen i)
      | (go_at_call 102; refine (next_any _ _ _ _ _ _ _ _ _ _ _ (0 + 1 + 1 + q) (s * q) w5.drew b5' (by omega) (by omega)).mono ?_; rintro e w6 ⟨rfl, b6, g6⟩; have bc6 := bc5'.grown g6 (by intro h; injection h with h; omega)))
  have br7 := (br5'.grown g6 (by intro h; injection h with h; omega)).grown g7 (by intro h; injection h with h; omega)
  have hb6 := hb5'.grown g6 hb5'.size (fun k hk => by injection hk with hk; omega)
  have hb7 := hb6.grown g7 hb6.size (fun k hk => by injection hk with hk; omega)
  have b8 := (((b7.set_ 6 (.int .i64 (2 + q))).set_ 7 (.int .i64 (s * q))).set_ 8 (.int .i64 (2 + q + s * q))).set_ 9 (.int .i64 (s * q))
  have br8 := (((br7.far (p := ⟨w.heap.size + 1 + 1, 6, none⟩) (by simp) (.int .i64 (2 + q))).far (p := ⟨w.heap.size + 1 + 1, 7, none⟩) (by simp) (.int .i64 (s * q))).far (p := ⟨w.heap.size + 1 + 1, 8, none⟩) (by simp) (.int .i64 (2 + q + s * q))).far (p := ⟨w.heap.size + 1 + 1, 9, none⟩) (by simp) (.int .i64 (s * q))
  have hb8 := (((hb7.setCell (p := ⟨w.heap.size + 1 + 1, 6, none⟩) (by simp; omega) (.int .i64 (2 + q))).setCell (p := ⟨w.heap.size + 1 + 1, 7, none⟩) (by simp; omega) (.int .i64 (s * q))).setCell (p := ⟨w.heap.size + 1 + 1, 8, none⟩) (by simp; omega) (.int .i64 (2 + q + s * q))).setCell (p := ⟨w.heap.size + 1 + 1, 9, none⟩) (by simp; omega) (.int .i64 (s * q))
  generalize (((w7.setCell ⟨w.heap.size + 1 + 1, 6, none⟩ (.int .i64 (2 + q))).setCell ⟨w.heap.size + 1 + 1, 7, none⟩ (.int .i64 (s * q))).setCell ⟨w.heap.size + 1 + 1, 8, none⟩ (.int .i64 (2 + q + s * q))).setCell ⟨w.heap.size + 1 + 1, 9, none⟩ (.int .i64 (s * q)) = w8 at *
  clear b5 bc5 br5 hb5 b5' bc5' br5' hb5' q2 b6 bc6 g6 b7 bc7 g7 q7 k6 k7 k8 k9 ff7 br7 hb6 hb7
  have m0 : w8.cell? ⟨w.heap.size + 1 + 1, 0, none⟩ = some (.int .i64 0) := b8.cell 0
  have m1 : w8.cell? ⟨w.heap.size + 1 + 1, 1, none⟩ = some (.int .i64 1) := b8.cell 1
  have m2 : w8.cell? ⟨w.heap.size + 1 + 1, 2, none⟩ = some (.int .i64 1) := b8.cell 2
  have m3 : w8.cell? ⟨w.heap.size + 1 + 1, 3, none⟩ = some (.int .i64 1) := b8.cell 3
  have m4 : w8.cell? ⟨w.heap.size + 1 + 1, 4, none⟩ = some (.int .i64 2) := b8.cell 4
  have m5 : w8.cell? ⟨w.heap.size + 1 + 1, 5, none⟩ = some (.int .i64 q) := b8.cell 5
  have m6 : w8.cell? ⟨w.heap.size + 1 + 1, 6, none⟩ = some (.int .i64 (2 + q)) := b8.cell 6
  have m7 : w8.cell? ⟨w.heap.size + 1 + 1, 7, none⟩ = some (.int .i64 (s * q)) := b8.cell 7
  have m8 : w8.cell? ⟨w.heap.size + 1 + 1, 8, none⟩ = some (.int .i64 (2 + q + s * q)) := b8.cell 8
  have m9 : w8.cell? ⟨w.heap.size + 1 + 1, 9, none⟩ = some (.int .i64 (s * q)) := b8.cell 9
  have m10 : w8.cell? ⟨w.heap.size + 1 + 1, 10, none⟩ = some (.int .i64 (2 + q + s * q + s * q)) := by have := b8.cell 10; simpa using this
  have r0 : w8.cell? ⟨w.heap.size + 1, 0, none⟩ = some (.int .i64 0) := br8.cell 0
  have r1 : w8.cell? ⟨w.heap.size + 1, 1, none⟩ = some (.int .i64 0) := br8.cell 1
  have r2 : w8.cell? ⟨w.heap.size + 1, 2, none⟩ = some (.int .i64 0) := br8.cell 2
  have r3 : w8.cell? ⟨w.heap.size + 1, 3, none⟩ = some (.int .i64 0) := br8.cell 3
  have r4 : w8.cell? ⟨w.heap.size + 1, 4, none⟩ = some (.int .i64 0) := br8.cell 4
  have r5 : w8.cell? ⟨w.heap.size + 1, 5, none⟩ = some (.int .i64 0) := br8.cell 5
  have r6 : w8.cell? ⟨w.heap.size + 1, 6, none⟩ = some (.int .i64 0) := br8.cell 6
  have r7 : w8.cell? ⟨w.heap.size + 1, 7, none⟩ = some (.int .i64 0) := br8.cell 7
  have r8 : w8.cell? ⟨w.heap.size + 1, 8, none⟩ = some (.int .i64 0) := br8.cell 8
  have r9 : w8.cell? ⟨w.heap.size + 1, 9, none⟩ = some (.int .i64 0) := br8.cell 9
  have r10 : w8.cell? ⟨w.heap.size + 1, 10, none⟩ = some (.int .i64 0) := br8.cell 10
  have fr := fun i => br8.frozen i
  clear b8
  go_wp2_with fail
  have b9 := (((((((((((br8.set_ 0 (.int .i64 0)).set_ 1 (.int .i64 1)).set_ 2 (.int .i64 1)).set_ 3 (.int .i64 1)).set_ 4 (.int .i64 2)).set_ 5 (.int .i64 q)).set_ 6 (.int .i64 (2 + q))).set_ 7 (.int .i64 (s * q))).set_ 8 (.int .i64 (2 + q + s * q))).set_ 9 (.int .i64 (s * q))).set_ 10 (.int .i64 (2 + q + s * q + s * q)))
  have hb9 := (((((((((((hb8.setCell (p := ⟨w.heap.size + 1, 0, none⟩) (by simp) (.int .i64 0)).setCell (p := ⟨w.heap.size + 1, 1, none⟩) (by simp) (.int .i64 1)).setCell (p := ⟨w.heap.size + 1, 2, none⟩) (by simp) (.int .i64 1)).setCell (p := ⟨w.heap.size + 1, 3, none⟩) (by simp) (.int .i64 1)).setCell (p := ⟨w.heap.size + 1, 4, none⟩) (by simp) (.int .i64 2)).setCell (p := ⟨w.heap.size + 1, 5, none⟩) (by simp) (.int .i64 q)).setCell (p := ⟨w.heap.size + 1, 6, none⟩) (by simp) (.int .i64 (2 + q))).setCell (p := ⟨w.heap.size + 1, 7, none⟩) (by simp) (.int .i64 (s * q))).setCell (p := ⟨w.heap.size + 1, 8, none⟩) (by simp) (.int .i64 (2 + q + s * q))).setCell (p := ⟨w.heap.size + 1, 9, none⟩) (by simp) (.int .i64 (s * q))).setCell (p := ⟨w.heap.size + 1, 10, none⟩) (by simp) (.int .i64 (2 + q + s * q + s * q)))
  generalize (((((((((((w8.setCell ⟨w.heap.size + 1, 0, none⟩ (.int .i64 0)).setCell ⟨w.heap.size + 1, 1, none⟩ (.int .i64 1)).setCell ⟨w.heap.size + 1, 2, none⟩ (.int .i64 1)).setCell ⟨w.heap.size + 1, 3, none⟩ (.int .i64 1)).setCell ⟨w.heap.size + 1, 4, none⟩ (.int .i64 2)).setCell ⟨w.heap.size + 1, 5, none⟩ (.int .i64 q)).setCell ⟨w.heap.size + 1, 6, none⟩ (.int .i64 (2 + q))).setCell ⟨w.heap.size + 1, 7, none⟩ (.int .i64 (s * q))).setCell ⟨w.heap.size + 1, 8, none⟩ (.int .i64 (2 + q + s * q))).setCell ⟨w.heap.size + 1, 9, none⟩ (.int .i64 (s * q))).setCell ⟨w.heap.size + 1, 10, none⟩ (.int .i64 (2 + q + s * q + s * q))) = w9 at *
  have e0 : w9.cell? ⟨w.heap.size + 1, 0, none⟩ = some (.int .i64 0) := b9.cell 0
  have e1 : w9.cell? ⟨w.heap.size + 1, 1, none⟩ = some (.int .i64 1) := b9.cell 1
  have e2 : w9.cell? ⟨w.heap.size + 1, 2, none⟩ = some (.int .i64 1) := b9.cell 2
  have e3 : w9.cell? ⟨w.heap.size + 1, 3, none⟩ = some (.int .i64 1) := b9.cell 3
  have e4 : w9.cell? ⟨w.heap.size + 1, 4, none⟩ = some (.int .i64 2) := b9.cell 4
  have e5 : w9.cell? ⟨w.heap.size + 1, 5, none⟩ = some (.int .i64 q) := b9.cell 5
  have e6 : w9.cell? ⟨w.heap.size + 1, 6, none⟩ = some (.int .i64 (2 + q)) := b9.cell 6
  have e7 : w9.cell? ⟨w.heap.size + 1, 7, none⟩ = some (.int .i64 (s * q)) := b9.cell 7
  have e8 : w9.cell? ⟨w.heap.size + 1, 8, none⟩ = some (.int .i64 (2 + q + s * q)) := b9.cell 8
  have e9 : w9.cell? ⟨w.heap.size + 1, 9, none⟩ = some (.int .i64 (s * q)) := b9.cell 9
  have e10 : w9.cell? ⟨w.heap.size + 1, 10, none⟩ = some (.int .i64 (2 + q + s * q + s * q)) := b9.cell 10
  refine bodyPost_ret (v := mapV q s) ?_ rfl ⟨rfl, hb9⟩
  unfold mapV
  simp [results, Tryd.results84, go_sem, e0, e1, e2, e3, e4, e5, e6, e7, e8, e9, e10]
end Go.Proofs.YtpnodocjpedcmaaDoor.Prt
