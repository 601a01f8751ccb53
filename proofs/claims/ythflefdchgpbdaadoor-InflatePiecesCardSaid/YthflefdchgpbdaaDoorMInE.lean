/-
  Layer 13, inflate: a block is left behind; room for all of it: the program's contracts. Conditions: as each theorem names.
-/
import Derived.Test.YthflefdchgpbdaaDoorMInD
namespace Go.Proofs.YthflefdchgpbdaaDoor.Inf
open Go.ChangeShapes Go.WideShapes Go.ChangeAt Go.RowKit Go.Proofs.YthflefdchgpbdaaDoor.Kit Go.Proofs.YthflefdchgpbdaaDoor.Bits Go.Proofs.YthflefdchgpbdaaDoor.Huf Go.Proofs.YthflefdchgpbdaaDoor.Df

theorem IAt.to {w w' : World} {B x : Nat} {k k' : Ic} {xs : List Int} {A : Option Addr} {c : Nat} (h : IAt w B x k xs A c) (t : TurnsIn (· = x) w w') (b : Block w' x 40 (k'.cells (.slice A xs.length c))) (hm : k'.most = k.most) : IAt w' B x k' xs A c :=
  ⟨b, h.own.out t (fun _ hb he => h.own.ne_block h.blk (by decide) (by rw [← he]; exact hb)), by rw [hm]; exact h.most⟩
/-- What closeBlock leaves. -/
def Ic.closed (k : Ic) : Ic := { k with vs := .slice none 0 0, vd := .slice none 0 0, ph := if k.last then 3 else 0 }
def CloseTo (B x : Nat) (k : Ic) (xs : List Int) (A : Option Addr) (c : Nat) (w : World) (e : Ending) (w' : World) : Prop := e = .returned (.tuple #[]) ∧ TurnsIn (· = x) w w' ∧ IAt w' B x k.closed xs A c

set_option maxRecDepth 100000 in
set_option maxHeartbeats 6400000 in
theorem close_any (B x : Nat) (k : Ic) (xs : List Int) (A : Option Addr) (c : Nat) (w : World) (h : IAt w B x k xs A c) :
    Calls Tryd.prog 49 #[.pointer (some ⟨x, 0, none⟩)] w (CloseTo B x k xs A c w) := by
  have HI := Lib.hid h
  have b0 := h.blk
  have b7 := b0.set_ 7 (.slice none 0 0)
  have b8 := b7.set_ 8 (.slice none 0 0)
  have b4 := b8.set_ 4 (.int .u8 0)
  have z7 := b0.frozen 7
  have z8 := b7.frozen 8
  have z4 := b8.frozen 4
  have z5 := b4.frozen 4
  obtain ⟨most, vr, skip, ph, last, left, vs, vd, err⟩ := k
  have x7 : w.cell? ⟨x, 7, none⟩ = some vs := b0.cell 7
  have x8 : (w.setCell ⟨x, 7, none⟩ (.slice none 0 0)).cell? ⟨x, 8, none⟩ = some vd := b7.cell 8
  have x4 : ((w.setCell ⟨x, 7, none⟩ (.slice none 0 0)).setCell ⟨x, 8, none⟩ (.slice none 0 0)).cell? ⟨x, 4, none⟩ = some (.int .u8 ph) := b8.cell 4
  have y4 : (((w.setCell ⟨x, 7, none⟩ (.slice none 0 0)).setCell ⟨x, 8, none⟩ (.slice none 0 0)).setCell ⟨x, 4, none⟩ (.int .u8 0)).cell? ⟨x, 4, none⟩ = some (.int .u8 0) := b4.cell 4
  have y5 : (((w.setCell ⟨x, 7, none⟩ (.slice none 0 0)).setCell ⟨x, 8, none⟩ (.slice none 0 0)).setCell ⟨x, 4, none⟩ (.int .u8 0)).cell? ⟨x, 5, none⟩ = some (.bool last) := b4.cell 5
  have T4 := Lib.hid ((((TurnsIn.refl (· = x) w).setCell (p := ⟨x, 7, none⟩) (.inl rfl) (.slice none 0 0)).setCell (p := ⟨x, 8, none⟩) (.inl rfl) (.slice none 0 0)).setCell (p := ⟨x, 4, none⟩) (.inl rfl) (.int .u8 0))
  have B4 := Lib.hid b4
  have B5 := Lib.hid (b4.set_ 4 (.int .u8 3))
  clear b0 b7 b8 b4 h
  cases last with
  | false =>
    go_enter Tryd.func49, Tryd.ntmps49
    go_wp2_with fail
    go_end0
    exact ⟨rfl, T4.out, HI.out.to T4.out B4.out rfl⟩
  | true =>
    go_enter Tryd.func49, Tryd.ntmps49
    go_wp2_with fail
    go_end0
    have t5 := T4.out.setCell (p := ⟨x, 4, none⟩) (.inl rfl) (.int .u8 3)
    exact ⟨rfl, t5, HI.out.to t5 B5.out rfl⟩
/-- Room for n more: all is well, or it is told that it is too much. -/
def FullTo (ok : Prop) [Decidable ok] (w : World) (e : Ending) (w' : World) : Prop := TurnsIn (fun _ => False) w w' ∧ if ok then e = .returned (.tuple #[]) else e = brokenE 12
set_option maxRecDepth 100000 in
set_option maxHeartbeats 6400000 in
theorem full_any (B x : Nat) (k : Ic) (xs : List Int) (A : Option Addr) (c n : Nat) (w : World) (h : IAt w B x k xs A c) (hn : n ≤ 100000) :
    Calls Tryd.prog 44 #[.pointer (some ⟨x, 0, none⟩), .int .i64 (n : Int)] w (FullTo (((xs.length + n : Nat) : Int) ≤ k.most) w) := by
  have hm := h.most
  have x0 : w.cell? ⟨x, 0, none⟩ = some (.int .i64 k.most) := h.blk.cell 0
  have x1 : w.cell? ⟨x, 1, none⟩ = some (.slice A xs.length c) := h.blk.cell 1
  have hlc : xs.length ≤ c := by
    rcases h.own.2 with ⟨e, h1⟩ | ⟨g, cap, cur, e, _, _, hnc, _⟩
    · injection e with e1 e2 e3
      omega
    · injection e with e1 e2 e3
      omega
  have hw : IntKind.i64.wrap (k.most - (xs.length : Int)) = k.most - (xs.length : Int) := by rw [IntKind.wrap_i64]; omega
  have GN := Lib.hid (fun W => refuse_no 12 W)
  have GY := Lib.hid (fun W => refuse_yes 12 W)
  unfold FullTo
  clear h
  by_cases hk : ((xs.length + n : Nat) : Int) ≤ k.most
  · have d1 : decide (k.most - (xs.length : Int) < (n : Int)) = false := decide_eq_false (by omega)
    simp only [if_pos hk]
    clear hk
    go_enter Tryd.func44, Tryd.ntmps44
    go_wp2_with fail
    go_region_law (go_simp; go_at_call 35; refine (GN.out _).mono ?_; rintro e w2 ⟨rfl, hw2⟩; have hw2' := hw2.symm; clear hw2; subst hw2')
    all_goals
      go_wp2_with fail
      go_end0
      exact ⟨(TurnsIn.refl _ w).drewN 1, rfl⟩
  · have d1 : decide (k.most - (xs.length : Int) < (n : Int)) = true := decide_eq_true (by omega)
    simp only [if_neg hk]
    clear hk
    unfold brokenE at GY ⊢
    go_enter Tryd.func44, Tryd.ntmps44
    go_wp2_with fail
    refine wp_region_held_drew (S := (fun W' : World => W'.cell? ⟨x, 0, none⟩ = some (.int .i64 k.most) ∧ W'.cell? ⟨x, 1, none⟩ = some (.slice A xs.length c))) (by kernel_rfl) ⟨x0, x1⟩ (fun hS => ?_)
    refine wpAnyH_take (i := 0) (oi := ⟨some 4, _, _, _, _, _⟩) (v := .int .i64 (n : Int)) rfl (by kernel_rfl) (by kernel_rfl) (by kernel_rfl) (fun _ _ _ h => h) (Or.inl ⟨by rfl, fun W hW => by go_simp⟩) hS ?_
    try simp only [Act.put, List.setIfInBounds_toArray, List.set_cons_zero, List.set_cons_succ]
    refine wpAnyH_take (i := 1) (oi := ⟨some 5, _, _, _, _, _⟩) (v := .pointer (some ⟨x, 0, none⟩)) rfl (by kernel_rfl) (by kernel_rfl) (by kernel_rfl) (fun _ _ _ h => h) (Or.inl ⟨by rfl, fun W hW => by go_simp⟩) hS ?_
    try simp only [Act.put, List.setIfInBounds_toArray, List.set_cons_zero, List.set_cons_succ]
    refine wpAnyH_take (i := 5) (oi := ⟨some 9, _, _, _, _, _⟩) (v := .pointer (some ⟨x, 0, none⟩)) rfl (by kernel_rfl) (by kernel_rfl) (by kernel_rfl) (fun _ _ _ h => h) (Or.inl ⟨by rfl, fun W hW => by go_simp⟩) hS ?_
    try simp only [Act.put, List.setIfInBounds_toArray, List.set_cons_zero, List.set_cons_succ]
    refine wpAnyH_take (i := 2) (oi := ⟨some 6, _, _, _, _, _⟩) (v := .pointer (some ⟨x, 0, none⟩)) rfl (by kernel_rfl) (by kernel_rfl) (by kernel_rfl) (fun _ _ _ h => h) (Or.inl ⟨by rfl, fun W hW => by go_simp⟩) hS ?_
    try simp only [Act.put, List.setIfInBounds_toArray, List.set_cons_zero, List.set_cons_succ]
    refine wpAnyH_take (i := 6) (oi := ⟨some 10, _, _, _, _, _⟩) (v := .pointer (some ⟨x, 0, none⟩)) rfl (by kernel_rfl) (by kernel_rfl) (by kernel_rfl) (fun _ _ _ h => h) (Or.inl ⟨by rfl, fun W hW => by go_simp⟩) hS ?_
    try simp only [Act.put, List.setIfInBounds_toArray, List.set_cons_zero, List.set_cons_succ]
    refine wpAnyH_take (i := 3) (oi := ⟨some 7, _, _, _, _, _⟩) (v := .pointer (some ⟨x, 0, none⟩)) rfl (by kernel_rfl) (by kernel_rfl) (by kernel_rfl) (fun _ _ _ h => h) (Or.inl ⟨by rfl, fun W hW => by go_simp⟩) hS ?_
    try simp only [Act.put, List.setIfInBounds_toArray, List.set_cons_zero, List.set_cons_succ]
    refine wpAnyH_take (i := 7) (oi := ⟨some 11, _, _, _, _, _⟩) (v := .pointer (some ⟨x, 1, none⟩)) rfl (by kernel_rfl) (by kernel_rfl) (by kernel_rfl) (fun _ _ _ h => h) (Or.inl ⟨by rfl, fun W hW => by go_simp⟩) hS ?_
    try simp only [Act.put, List.setIfInBounds_toArray, List.set_cons_zero, List.set_cons_succ]
    refine wpAnyH_take (i := 4) (oi := ⟨some 8, _, _, _, _, _⟩) (v := .int .i64 k.most) rfl (by kernel_rfl) (by kernel_rfl) (by kernel_rfl) (fun _ _ _ h => h) (Or.inl ⟨by rfl, fun W hW => by have k1 := hW.1; go_simp⟩) hS ?_
    try simp only [Act.put, List.setIfInBounds_toArray, List.set_cons_zero, List.set_cons_succ]
    refine wpAnyH_take (i := 8) (oi := ⟨some 12, _, _, _, _, _⟩) (v := .slice A xs.length c) rfl (by kernel_rfl) (by kernel_rfl) (by kernel_rfl) (fun _ _ _ h => h) (Or.inl ⟨by rfl, fun W hW => by have k1 := hW.2; go_simp⟩) hS ?_
    try simp only [Act.put, List.setIfInBounds_toArray, List.set_cons_zero, List.set_cons_succ]
    refine wpAnyH_take (i := 9) (oi := ⟨some 13, _, _, _, _, _⟩) (v := .int .i64 (xs.length : Int)) rfl (by kernel_rfl) (by kernel_rfl) (by kernel_rfl) (fun _ _ _ h => h) (Or.inl ⟨by rfl, fun W hW => by go_simp⟩) hS ?_
    try simp only [Act.put, List.setIfInBounds_toArray, List.set_cons_zero, List.set_cons_succ]
    refine wpAnyH_take (i := 10) (oi := ⟨some 14, _, _, _, _, _⟩) (v := .int .i64 (k.most - (xs.length : Int))) rfl (by kernel_rfl) (by kernel_rfl) (by kernel_rfl) (fun _ _ _ h => h) (Or.inl ⟨by rfl, fun W hW => by go_simp⟩) hS ?_
    try simp only [Act.put, List.setIfInBounds_toArray, List.set_cons_zero, List.set_cons_succ]
    refine wpAnyH_take (i := 11) (oi := ⟨some 15, _, _, _, _, _⟩) (v := .bool true) rfl (by kernel_rfl) (by kernel_rfl) (by kernel_rfl) (fun _ _ _ h => h) (Or.inl ⟨by rfl, fun W hW => by go_simp⟩) hS ?_
    try simp only [Act.put, List.setIfInBounds_toArray, List.set_cons_zero, List.set_cons_succ]
    refine wpAnyH_ready (rs := [12]) (by kernel_rfl) (by simp) ?_
    refine AllReadyH.cons rfl (fun K hK => ?_) AllReadyH.nil
    go_simp
    go_at_call 35
    refine (GY.out _).mono ?_
    rintro e w2 ⟨rfl, rfl⟩
    exact ⟨rfl, (TurnsIn.refl _ w).drewN 1, rfl⟩
end Go.Proofs.YthflefdchgpbdaaDoor.Inf
