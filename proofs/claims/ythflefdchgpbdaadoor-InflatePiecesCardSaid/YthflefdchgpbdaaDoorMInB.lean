/-
  Layer 13, inflate: room for what is told: the program's contracts. Conditions: as each theorem names.
-/
import Derived.Test.YthflefdchgpbdaaDoorMInA
import Derived.Test.YthflefdchgpbdaaDoorMGIces0
import Derived.Deep.Cut
import Derived.Deep.DeepAppendRoom
namespace Go.Proofs.YthflefdchgpbdaaDoor.Inf
open Go.ChangeShapes Go.WideShapes Go.ChangeAt Go.RowKit Go.Proofs.YthflefdchgpbdaaDoor.Kit Go.Proofs.YthflefdchgpbdaaDoor.Bits Go.Proofs.YthflefdchgpbdaaDoor.Huf Go.Proofs.YthflefdchgpbdaaDoor.Df

/-- An inflater's cells. -/
structure Ic where
  most : Int
  vr : Value
  skip : Int
  ph : Int
  last : Bool
  left : Int
  vs : Value
  vd : Value
  err : Int
def Ic.cells (k : Ic) (vo : Value) : Array Value := #[.int .i64 k.most, vo, k.vr, .int .i64 k.skip, .int .u8 k.ph, .bool k.last, .int .i64 k.left, k.vs, k.vd, .int .i64 k.err]
/-- An inflater lies at x, and what it told, xs, in a row of its own with room for c. -/
structure IAt (w : World) (B x : Nat) (k : Ic) (xs : List Int) (A : Option Addr) (c : Nat) : Prop where
  blk : Block w x 40 (k.cells (.slice A xs.length c))
  own : Own w B 5 .u8 (.slice A xs.length c) xs
  most : (c : Int) ≤ k.most ∧ k.most ≤ 1000000
def RoomTo (B x : Nat) (k : Ic) (xs : List Int) (A : Option Addr) (c n : Nat) (w : World) (e : Ending) (w' : World) : Prop :=
  e = .returned (.tuple #[]) ∧ TurnsIn (· = x) w w' ∧ ∃ A' c', IAt w' B x k xs A' c' ∧ xs.length + n ≤ c' ∧ Newer w (.slice A xs.length c) (.slice A' xs.length c')

set_option maxRecDepth 100000 in
set_option maxHeartbeats 6400000 in
theorem room_any (B x : Nat) (k : Ic) (xs : List Int) (A : Option Addr) (c n : Nat) (w : World) (hB : B ≤ w.heap.size) (h : IAt w B x k xs A c) (hn : ((xs.length + n : Nat) : Int) ≤ k.most) :
    Calls Tryd.prog 61 #[.pointer (some ⟨x, 0, none⟩), .int .i64 (n : Int)] w (RoomTo B x k xs A c n w) := by
  have HI := Lib.hid h
  have hm := h.most
  have x0 : w.cell? ⟨x, 0, none⟩ = some (.int .i64 k.most) := h.blk.cell 0
  have x1 : w.cell? ⟨x, 1, none⟩ = some (.slice A xs.length c) := h.blk.cell 1
  have z1 := h.blk.frozen 1
  have hw1 : IntKind.i64.wrap ((xs.length : Int) + (n : Int)) = ((xs.length + n : Nat) : Int) := by rw [IntKind.wrap_i64]; omega
  obtain ⟨N, hN⟩ : ∃ N, xs.length + n = N := ⟨_, rfl⟩
  rw [hN] at hn hw1
  have HN := Lib.hid hN
  clear hN h
  by_cases hc : N ≤ c
  · have d1 : decide ((N : Int) ≤ (c : Int)) = true := decide_eq_true (by omega)
    have d2 : decide (N ≤ c) = true := decide_eq_true hc
    go_enter Tryd.func61, Tryd.ntmps61
    go_wp2_with fail
    go_end0
    exact ⟨rfl, TurnsIn.refl _ _, A, c, HI.out, by have := HN.out; omega, Newer.refl _ _⟩
  have d1 : decide ((N : Int) ≤ (c : Int)) = false := decide_eq_false (by omega)
  have d2 : decide (N ≤ c) = false := decide_eq_false hc
  obtain ⟨m, hM⟩ : ∃ m : Nat, (if (N : Int) < 2 * (c : Int) then 2 * (c : Int) else (N : Int)) = m := ⟨(if (N : Int) < 2 * (c : Int) then 2 * (c : Int) else (N : Int)).toNat, by split <;> omega⟩
  have hMb : N ≤ m := by split at hM <;> omega
  obtain ⟨q, hq⟩ : ∃ q : Nat, (if k.most < (m : Int) then k.most else (m : Int)) = q := ⟨(if k.most < (m : Int) then k.most else (m : Int)).toNat, by split <;> omega⟩
  have hKb : N ≤ q ∧ (q : Int) ≤ k.most := by split at hq <;> omega
  have HMM := Lib.hid hM
  have HKK := Lib.hid hq
  clear hM hq
  have hw2 : IntKind.i64.wrap (2 * (c : Int)) = 2 * (c : Int) := by rw [IntKind.wrap_i64]; omega
  go_enter Tryd.func61, Tryd.ntmps61
  go_wp2_with fail
  refine wp_region_held_drew (S := (fun W' : World => Block W' x 40 (k.cells (.slice A xs.length c)))) (by kernel_rfl) HI.out.blk (fun hS => ?_)
  refine wpAnyH_take (i := 0) (oi := ⟨some 20, _, _, _, _, _⟩) (v := .pointer (some ⟨x, 0, none⟩)) rfl (by kernel_rfl) (by kernel_rfl) (by kernel_rfl) (fun _ _ _ h => h) (Or.inl ⟨by rfl, fun W hW => by go_simp⟩) hS ?_
  try simp only [Act.put, List.setIfInBounds_toArray, List.set_cons_zero, List.set_cons_succ]
  refine wpAnyH_take (i := 6) (oi := ⟨some 26, _, _, _, _, _⟩) (v := .pointer (some ⟨x, 0, none⟩)) rfl (by kernel_rfl) (by kernel_rfl) (by kernel_rfl) (fun _ _ _ h => h) (Or.inl ⟨by rfl, fun W hW => by go_simp⟩) hS ?_
  try simp only [Act.put, List.setIfInBounds_toArray, List.set_cons_zero, List.set_cons_succ]
  refine wpAnyH_take (i := 13) (oi := ⟨some 33, _, _, _, _, _⟩) (v := .pointer (some ⟨x, 0, none⟩)) rfl (by kernel_rfl) (by kernel_rfl) (by kernel_rfl) (fun _ _ _ h => h) (Or.inl ⟨by rfl, fun W hW => by go_simp⟩) hS ?_
  try simp only [Act.put, List.setIfInBounds_toArray, List.set_cons_zero, List.set_cons_succ]
  refine wpAnyH_take (i := 5) (oi := ⟨some 25, _, _, _, _, _⟩) (v := .int .i64 N) rfl (by kernel_rfl) (by kernel_rfl) (by kernel_rfl) (fun _ _ _ h => h) (Or.inl ⟨by rfl, fun W hW => by go_simp⟩) hS ?_
  try simp only [Act.put, List.setIfInBounds_toArray, List.set_cons_zero, List.set_cons_succ]
  refine wpAnyH_take (i := 1) (oi := ⟨some 21, _, _, _, _, _⟩) (v := .pointer (some ⟨x, 0, none⟩)) rfl (by kernel_rfl) (by kernel_rfl) (by kernel_rfl) (fun _ _ _ h => h) (Or.inl ⟨by rfl, fun W hW => by go_simp⟩) hS ?_
  try simp only [Act.put, List.setIfInBounds_toArray, List.set_cons_zero, List.set_cons_succ]
  refine wpAnyH_take (i := 7) (oi := ⟨some 27, _, _, _, _, _⟩) (v := .pointer (some ⟨x, 0, none⟩)) rfl (by kernel_rfl) (by kernel_rfl) (by kernel_rfl) (fun _ _ _ h => h) (Or.inl ⟨by rfl, fun W hW => by go_simp⟩) hS ?_
  try simp only [Act.put, List.setIfInBounds_toArray, List.set_cons_zero, List.set_cons_succ]
  refine wpAnyH_take (i := 14) (oi := ⟨some 34, _, _, _, _, _⟩) (v := .pointer (some ⟨x, 0, none⟩)) rfl (by kernel_rfl) (by kernel_rfl) (by kernel_rfl) (fun _ _ _ h => h) (Or.inl ⟨by rfl, fun W hW => by go_simp⟩) hS ?_
  try simp only [Act.put, List.setIfInBounds_toArray, List.set_cons_zero, List.set_cons_succ]
  refine wpAnyH_take (i := 2) (oi := ⟨some 22, _, _, _, _, _⟩) (v := .pointer (some ⟨x, 1, none⟩)) rfl (by kernel_rfl) (by kernel_rfl) (by kernel_rfl) (fun _ _ _ h => h) (Or.inl ⟨by rfl, fun W hW => by go_simp⟩) hS ?_
  try simp only [Act.put, List.setIfInBounds_toArray, List.set_cons_zero, List.set_cons_succ]
  refine wpAnyH_take (i := 8) (oi := ⟨some 28, _, _, _, _, _⟩) (v := .pointer (some ⟨x, 1, none⟩)) rfl (by kernel_rfl) (by kernel_rfl) (by kernel_rfl) (fun _ _ _ h => h) (Or.inl ⟨by rfl, fun W hW => by go_simp⟩) hS ?_
  try simp only [Act.put, List.setIfInBounds_toArray, List.set_cons_zero, List.set_cons_succ]
  refine wpAnyH_take (i := 15) (oi := ⟨some 35, _, _, _, _, _⟩) (v := .pointer (some ⟨x, 0, none⟩)) rfl (by kernel_rfl) (by kernel_rfl) (by kernel_rfl) (fun _ _ _ h => h) (Or.inl ⟨by rfl, fun W hW => by go_simp⟩) hS ?_
  try simp only [Act.put, List.setIfInBounds_toArray, List.set_cons_zero, List.set_cons_succ]
  refine wpAnyH_take (i := 3) (oi := ⟨some 23, _, _, _, _, _⟩) (v := .slice A xs.length c) rfl (by kernel_rfl) (by kernel_rfl) (by kernel_rfl) (fun _ _ _ h => h) (Or.inl ⟨by rfl, fun W hW => by have k1 : W.cell? ⟨x, 1, none⟩ = some (.slice A xs.length c) := hW.cell 1; go_simp⟩) hS ?_
  try simp only [Act.put, List.setIfInBounds_toArray, List.set_cons_zero, List.set_cons_succ]
  refine wpAnyH_take (i := 9) (oi := ⟨some 29, _, _, _, _, _⟩) (v := .slice A xs.length c) rfl (by kernel_rfl) (by kernel_rfl) (by kernel_rfl) (fun _ _ _ h => h) (Or.inl ⟨by rfl, fun W hW => by have k1 : W.cell? ⟨x, 1, none⟩ = some (.slice A xs.length c) := hW.cell 1; go_simp⟩) hS ?_
  try simp only [Act.put, List.setIfInBounds_toArray, List.set_cons_zero, List.set_cons_succ]
  refine wpAnyH_take (i := 16) (oi := ⟨some 36, _, _, _, _, _⟩) (v := .int .i64 k.most) rfl (by kernel_rfl) (by kernel_rfl) (by kernel_rfl) (fun _ _ _ h => h) (Or.inl ⟨by rfl, fun W hW => by have k0 : W.cell? ⟨x, 0, none⟩ = some (.int .i64 k.most) := hW.cell 0; go_simp⟩) hS ?_
  try simp only [Act.put, List.setIfInBounds_toArray, List.set_cons_zero, List.set_cons_succ]
  refine wpAnyH_take (i := 4) (oi := ⟨some 24, _, _, _, _, _⟩) (v := .int .i64 xs.length) rfl (by kernel_rfl) (by kernel_rfl) (by kernel_rfl) (fun _ _ _ h => h) (Or.inl ⟨by rfl, fun W hW => by go_simp⟩) hS ?_
  try simp only [Act.put, List.setIfInBounds_toArray, List.set_cons_zero, List.set_cons_succ]
  refine wpAnyH_take (i := 10) (oi := ⟨some 30, _, _, _, _, _⟩) (v := .int .i64 c) rfl (by kernel_rfl) (by kernel_rfl) (by kernel_rfl) (fun _ _ _ h => h) (Or.inl ⟨by rfl, fun W hW => by go_simp⟩) hS ?_
  try simp only [Act.put, List.setIfInBounds_toArray, List.set_cons_zero, List.set_cons_succ]
  refine wpAnyH_take (i := 11) (oi := ⟨some 31, _, _, _, _, _⟩) (v := .int .i64 (2 * (c : Int))) rfl (by kernel_rfl) (by kernel_rfl) (by kernel_rfl) (fun _ _ _ h => h) (Or.inl ⟨by rfl, fun W hW => by go_simp⟩) hS ?_
  try simp only [Act.put, List.setIfInBounds_toArray, List.set_cons_zero, List.set_cons_succ]
  refine wpAnyH_ready (rs := [12]) (by kernel_rfl) (by simp) ?_
  refine AllReadyH.cons rfl (fun K hK => ?_) AllReadyH.nil
  go_simp
  rw [HMM.out]
  refine hK.out _ _ hS (fun hS => ?_)
  clear hK K
  try simp only [Act.put, List.setIfInBounds_toArray, List.set_cons_zero, List.set_cons_succ]
  refine wpAnyH_ready (rs := [17]) (by kernel_rfl) (by simp) ?_
  refine AllReadyH.cons rfl (fun K hK => ?_) AllReadyH.nil
  go_simp
  rw [HKK.out]
  refine hK.out _ _ hS (fun hS => ?_)
  clear hK K
  try simp only [Act.put, List.setIfInBounds_toArray, List.set_cons_zero, List.set_cons_succ]
  refine wpAnyH_ready (rs := [18]) (by kernel_rfl) (by simp) ?_
  refine AllReadyH.cons rfl (fun K hK => ?_) AllReadyH.nil
  refine step_of_list (by simp [Region.wanted]) fun Q9 hn9 => ?_
  refine wpList_make_ints _ rfl _ _ _ rfl elem8 xs.length q rfl rfl rfl rfl (by have := HN.out; omega) (by omega) ?_
  intro w8 o8 b8 l8
  refine hn9 _ _ ?_
  clear hn9 Q9
  change K (Act.put _ (some 38) _) _
  have hS8 : Block w8 x 40 (k.cells (.slice A xs.length c)) := Block.below (w := w.drew) HI.out.blk b8 HI.out.blk.lt
  refine hK.out _ _ hS8 (fun hS => ?_)
  clear hK K
  try simp only [Act.put, List.setIfInBounds_toArray, List.set_cons_zero, List.set_cons_succ]
  refine wpAnyH_ready (rs := [19]) (by kernel_rfl) (by simp) ?_
  refine AllReadyH.cons rfl (fun K hK => ?_) AllReadyH.nil
  go_simp
  refine hK.out _ _ hS8 (fun hS => ?_)
  clear hK K
  try simp only [Act.put, List.setIfInBounds_toArray, List.set_cons_zero, List.set_cons_succ]
  refine wpAnyH_done (by kernel_rfl) ?_ _
  have hs8 : w.heap.size < w8.heap.size := l8
  have bw8 : Below w.heap.size w w8 := ⟨b8.os, b8.tape, b8.output, b8.size, b8.block⟩
  have o8' : Own w8 w.heap.size 5 .u8 (.slice (some ⟨w.heap.size, 0, none⟩) xs.length q) (List.replicate xs.length 0) := o8
  have os8 := HI.out.own.below bw8
  have hr8 : Holds w8 w8.heap.size .u8 A xs := by obtain ⟨_, _, e, _, _, h⟩ := os8.opened; injection e with e1 e2 e3; subst e1; exact h
  have y1 : w8.cell? ⟨x, 1, none⟩ = some (.slice A xs.length c) := hS8.cell 1
  have HO8 := Lib.hid os8
  have HB8 := Lib.hid hS8
  have HW8 := Lib.hid bw8
  clear os8 hS8 bw8 b8 o8 l8
  go_wp2_with (have _t := o8'; (refine wpList_copy_ints _ rfl (.tmp 39) (.tmp 43) 22 rfl elem8 o8' rfl rfl hr8 (by simp) (by omega) ?_; intro w9 o9 g9 b9; have B9 := HB8.out.out (S := fun y => y = w.heap.size) (.ofGrown g9 (fun b hb => by simp [Value.ownBlock] at hb; exact hb.symm)) (fun e => by have := HI.out.blk.lt; omega); have y9 : w9.cell? ⟨x, 1, none⟩ = some (.slice A xs.length c) := B9.cell 1; have z9 := B9.frozen 1; have H9 := Lib.hid B9; have O9 := Lib.hid o9; have G9 := Lib.hid g9; clear B9 o9 g9 _t))
  go_end0
  have t9 : TurnsIn (· = x) w w9 := (TurnsIn.ofNew HW8.out).then_ (TurnsIn.ofBelow (S := fun b => w.heap.size ≤ b) b9 (fun b _ h => h)) (fun b hb h => absurd h (by omega))
  have e9 : xs ++ (List.replicate xs.length (0 : Int)).drop xs.length = xs := by simp
  have o10 := O9.out
  rw [e9] at o10
  have o11 := o10.out ((TurnsIn.refl (· = x) w9).setCell (p := ⟨x, 1, none⟩) (.inl rfl) (.slice (some ⟨w.heap.size, 0, none⟩) xs.length q)) (fun b hb he => o10.ne_block H9.out (by decide) (by rw [hb, he]))
  exact ⟨rfl, t9.setCell (p := ⟨x, 1, none⟩) (.inl rfl) _, some ⟨w.heap.size, 0, none⟩, q, ⟨H9.out.set_ 1 _, o11.mono hB, by omega⟩, by have := HN.out; omega, .inr fun g hg => by simp [Value.ownBlock] at hg; omega⟩
end Go.Proofs.YthflefdchgpbdaaDoor.Inf
