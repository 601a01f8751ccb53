/-
  Layer 13, inflate: a stored block's bytes: the program's contracts. Conditions: as each theorem names.
-/
import Derived.Test.YthflefdchgpbdaaDoorMInE
import Derived.Test.YthflefdchgpbdaaDoorMBitH
namespace Go.Proofs.YthflefdchgpbdaaDoor.Inf
open Go.ChangeShapes Go.WideShapes Go.ChangeAt Go.RowKit Go.Proofs.YthflefdchgpbdaaDoor.Kit Go.Proofs.YthflefdchgpbdaaDoor.Bits Go.Proofs.YthflefdchgpbdaaDoor.Huf Go.Proofs.YthflefdchgpbdaaDoor.Df

theorem Block.ne_of {w : World} {a b : Nat} {t u : TypeId} {cs ds : Array Value} (h : Block w a t cs) (h' : Block w b u ds) (ht : t ≠ u) : a ≠ b := by
  intro e
  subst e
  unfold Block at h h'
  rw [h] at h'
  injection h' with h'
  injection h' with _ h2
  exact ht h2
theorem own_apart {w : World} {B n c x : Nat} {A : Option Addr} {xs : List Int} (h : Own w B 5 .u8 (.slice A n c) xs) (hx : x < B) : ∀ b, A.map (·.block) = some b → b ≠ x := by
  intro b hb he
  rcases h.2 with ⟨e, _⟩ | ⟨g, cap, cur, e, hbg, _⟩
  · injection e with e1
    subst e1
    cases hb
  · injection e with e1
    subst e1
    injection hb with hb
    have hb' : g = b := hb
    omega
theorem IAt.far {S : Nat → Prop} {w w' : World} {B x : Nat} {k : Ic} {xs : List Int} {A : Option Addr} {c : Nat} (h : IAt w B x k xs A c) (t : TurnsIn S w w') (hx : ¬ S x) (ho : ∀ b, (Value.slice A xs.length c).ownBlock = some b → ¬ S b) : IAt w' B x k xs A c := ⟨h.blk.out t hx, h.own.out t ho, h.most⟩

set_option maxRecDepth 100000 in
set_option maxHeartbeats 6400000 in
theorem copy_none (B B' x gp g : Nat) (k : Ic) (xs : List Int) (A : Option Addr) (c : Nat) (v u1 u2 : Value) (bs : List Int) (p lf : Nat) (w : World) (h : IAt w B x k xs A c) (hp : Block w gp 76 #[.pointer (some ⟨g, 0, none⟩), u1, u2]) (R : Rd w B' g v bs (8 * p)) (hl : bs.length ≤ 1000000) (hk : k.left = (lf : Int)) (h0 : p = bs.length) (h1 : 0 < lf) (hlf : lf ≤ 65535) :
    Calls Tryd.prog 32 #[.pointer (some ⟨x, 0, none⟩), .pointer (some ⟨gp, 0, none⟩)] w fun e w' => TurnsIn (fun _ => False) w w' ∧ e = missingE := by
  have HI := Lib.hid h
  have HP := Lib.hid hp
  have HR := Lib.hid R
  have x6 : w.cell? ⟨x, 6, none⟩ = some (.int .i64 (lf : Int)) := by rw [← hk]; exact h.blk.cell 6
  have y0 : w.cell? ⟨gp, 0, none⟩ = some (.pointer (some ⟨g, 0, none⟩)) := hp.cell 0
  obtain ⟨D, hD⟩ : ∃ D : Nat, 8 * (bs.length : Int) - ((8 * p : Nat) : Int) = D := ⟨8 * bs.length - 8 * p, by have := R.le; omega⟩
  have gl := left_any B' g v bs (8 * p) w.drew ⟨R.blk.drewN 1, R.own.drewN 1, R.le⟩ hl
  rw [hD] at gl
  have GL := Lib.hid gl
  obtain ⟨r, hr⟩ : ∃ r : Nat, r = 0 := ⟨0, rfl⟩
  obtain ⟨n, hn⟩ : ∃ n : Nat, n = 0 := ⟨0, rfl⟩
  have hq1 : Int.tdiv (D : Int) 8 = (r : Int) := by
    have : D = 0 := by omega
    subst this hr
    rfl
  have hq2 : IntKind.i64.wrap (r : Int) = (r : Int) := by rw [IntKind.wrap_i64]; omega
  have hmin : (if (r : Int) < (lf : Int) then (r : Int) else (lf : Int)) = (n : Int) := by subst hr hn; rw [if_pos (by omega)]
  have hmin2 : (if r < lf then (r : Int) else (lf : Int)) = (n : Int) := by subst hr hn; rw [if_pos (by omega)]
  have d1 : ((n : Int) == 0) = true := by subst hn; rfl
  have d2 : decide (0 < (lf : Int)) = true := decide_eq_true (by omega)
  clear gl hD h hp R hr hn
  go_enter Tryd.func32, Tryd.ntmps32
  go_wp2_with fail
  refine wp_region_held_drew (S := (fun W' : World => W'.cell? ⟨x, 6, none⟩ = some (.int .i64 (lf : Int)) ∧ W'.cell? ⟨gp, 0, none⟩ = some (.pointer (some ⟨g, 0, none⟩)))) (by kernel_rfl) ⟨x6, y0⟩ (fun hS => ?_)
  refine wpAnyH_take (i := 0) (oi := ⟨some 7, _, _, _, _, _⟩) (v := .pointer (some ⟨x, 0, none⟩)) rfl (by kernel_rfl) (by kernel_rfl) (by kernel_rfl) (fun _ _ _ h => h) (Or.inl ⟨by rfl, fun W hW => by go_simp⟩) hS ?_
  try simp only [Act.put, List.setIfInBounds_toArray, List.set_cons_zero, List.set_cons_succ]
  refine wpAnyH_take (i := 4) (oi := ⟨some 11, _, _, _, _, _⟩) (v := .pointer (some ⟨gp, 0, none⟩)) rfl (by kernel_rfl) (by kernel_rfl) (by kernel_rfl) (fun _ _ _ h => h) (Or.inl ⟨by rfl, fun W hW => by go_simp⟩) hS ?_
  try simp only [Act.put, List.setIfInBounds_toArray, List.set_cons_zero, List.set_cons_succ]
  refine wpAnyH_take (i := 1) (oi := ⟨some 8, _, _, _, _, _⟩) (v := .pointer (some ⟨x, 0, none⟩)) rfl (by kernel_rfl) (by kernel_rfl) (by kernel_rfl) (fun _ _ _ h => h) (Or.inl ⟨by rfl, fun W hW => by go_simp⟩) hS ?_
  try simp only [Act.put, List.setIfInBounds_toArray, List.set_cons_zero, List.set_cons_succ]
  refine wpAnyH_take (i := 5) (oi := ⟨some 12, _, _, _, _, _⟩) (v := .pointer (some ⟨gp, 0, none⟩)) rfl (by kernel_rfl) (by kernel_rfl) (by kernel_rfl) (fun _ _ _ h => h) (Or.inl ⟨by rfl, fun W hW => by go_simp⟩) hS ?_
  try simp only [Act.put, List.setIfInBounds_toArray, List.set_cons_zero, List.set_cons_succ]
  refine wpAnyH_take (i := 2) (oi := ⟨some 9, _, _, _, _, _⟩) (v := .pointer (some ⟨x, 6, none⟩)) rfl (by kernel_rfl) (by kernel_rfl) (by kernel_rfl) (fun _ _ _ h => h) (Or.inl ⟨by rfl, fun W hW => by go_simp⟩) hS ?_
  try simp only [Act.put, List.setIfInBounds_toArray, List.set_cons_zero, List.set_cons_succ]
  refine wpAnyH_take (i := 6) (oi := ⟨some 13, _, _, _, _, _⟩) (v := .pointer (some ⟨gp, 0, none⟩)) rfl (by kernel_rfl) (by kernel_rfl) (by kernel_rfl) (fun _ _ _ h => h) (Or.inl ⟨by rfl, fun W hW => by go_simp⟩) hS ?_
  try simp only [Act.put, List.setIfInBounds_toArray, List.set_cons_zero, List.set_cons_succ]
  refine wpAnyH_take (i := 3) (oi := ⟨some 10, _, _, _, _, _⟩) (v := .int .i64 (lf : Int)) rfl (by kernel_rfl) (by kernel_rfl) (by kernel_rfl) (fun _ _ _ h => h) (Or.inl ⟨by rfl, fun W hW => by have k1 := hW.1; go_simp⟩) hS ?_
  try simp only [Act.put, List.setIfInBounds_toArray, List.set_cons_zero, List.set_cons_succ]
  refine wpAnyH_take (i := 7) (oi := ⟨some 14, _, _, _, _, _⟩) (v := .pointer (some ⟨g, 0, none⟩)) rfl (by kernel_rfl) (by kernel_rfl) (by kernel_rfl) (fun _ _ _ h => h) (Or.inl ⟨by rfl, fun W hW => by have k1 := hW.2; go_simp⟩) hS ?_
  try simp only [Act.put, List.setIfInBounds_toArray, List.set_cons_zero, List.set_cons_succ]
  refine wpAnyH_ready (rs := [8]) (by kernel_rfl) (by simp) ?_
  refine AllReadyH.cons rfl (fun K hK => ?_) AllReadyH.nil
  go_simp
  go_at_call 36
  refine GL.out.mono ?_
  rintro e w1 ⟨rfl, b0⟩
  have b1 : Below w.heap.size w w1 := ⟨b0.os, b0.tape, b0.output, b0.size, b0.block⟩
  have HB1 := Lib.hid b1
  have x61 : w1.cell? ⟨x, 6, none⟩ = some (.int .i64 (lf : Int)) := (b1.cell (p := ⟨x, 6, none⟩) HI.out.blk.lt).trans x6
  have y01 : w1.cell? ⟨gp, 0, none⟩ = some (.pointer (some ⟨g, 0, none⟩)) := (b1.cell (p := ⟨gp, 0, none⟩) HP.out.lt).trans y0
  clear b0 b1
  refine hK.out _ _ ⟨x61, y01⟩ (fun hS => ?_)
  clear hK K
  try simp only [Act.put, List.setIfInBounds_toArray, List.set_cons_zero, List.set_cons_succ]
  refine wpAnyH_take (i := 9) (oi := ⟨some 16, _, _, _, _, _⟩) (v := .int .i64 (r : Int)) rfl (by kernel_rfl) (by kernel_rfl) (by kernel_rfl) (fun _ _ _ h => h) (Or.inl ⟨by rfl, fun W hW => by go_simp⟩) hS ?_
  try simp only [Act.put, List.setIfInBounds_toArray, List.set_cons_zero, List.set_cons_succ]
  refine wpAnyH_take (i := 10) (oi := ⟨some 17, _, _, _, _, _⟩) (v := .int .i64 (n : Int)) rfl (by kernel_rfl) (by kernel_rfl) (by kernel_rfl) (fun _ _ _ h => h) (Or.inl ⟨by rfl, fun W hW => by go_simp⟩) hS ?_
  try simp only [Act.put, List.setIfInBounds_toArray, List.set_cons_zero, List.set_cons_succ]
  refine wpAnyH_ready (rs := [11]) (by kernel_rfl) (by simp) ?_
  refine AllReadyH.cons rfl (fun K hK => ?_) AllReadyH.nil
  go_simp
  refine hK.out _ _ ⟨x61, y01⟩ (fun hS => ?_)
  clear hK K
  try simp only [Act.put, List.setIfInBounds_toArray, List.set_cons_zero, List.set_cons_succ]
  refine wpAnyH_done (by kernel_rfl) ?_ _
  go_wp2_with fail
  exact ⟨rfl, TurnsIn.ofNew HB1.out, rfl⟩

/-- What is left behind n more bytes. -/
def Ic.took (k : Ic) (m : Nat) : Ic := if m = 0 then Ic.closed { k with left := 0 } else { k with left := (m : Int) }
def CopyTo (B B' x g : Nat) (k : Ic) (xs ys : List Int) (A : Option Addr) (c : Nat) (v : Value) (bs : List Int) (q m : Nat) (w : World) (e : Ending) (w' : World) : Prop :=
  e = .returned (.tuple #[]) ∧ TurnsIn (fun b => b = g ∨ b = x ∨ (Value.slice A xs.length c).ownBlock = some b) w w' ∧ Rd w' B' g v bs q ∧ ∃ A' c', IAt w' B x (k.took m) (xs ++ ys) A' c' ∧ Newer w (.slice A xs.length c) (.slice A' (xs ++ ys).length c')
set_option maxRecDepth 100000 in
set_option maxHeartbeats 12800000 in
theorem copy_some (B B' x gp g : Nat) (k : Ic) (xs : List Int) (A : Option Addr) (c : Nat) (v u1 u2 : Value) (bs : List Int) (p lf n : Nat) (w : World) (hB : B ≤ w.heap.size) (h : IAt w B x k xs A c) (hp : Block w gp 76 #[.pointer (some ⟨g, 0, none⟩), u1, u2]) (R : Rd w B' g v bs (8 * p)) (hva : ∀ b, v.ownBlock = some b → (Value.slice A xs.length c).ownBlock ≠ some b) (hl : bs.length ≤ 1000000) (hk : k.left = (lf : Int)) (hn : n = if bs.length - p < lf then bs.length - p else lf) (h1 : n = 0 → lf = 0) (hlf : lf ≤ 65535) (hq : ((xs.length + lf : Nat) : Int) ≤ k.most) :
    Calls Tryd.prog 32 #[.pointer (some ⟨x, 0, none⟩), .pointer (some ⟨gp, 0, none⟩)] w (CopyTo B B' x g k xs ((bs.drop p).take n) A c v bs (8 * (p + n)) (lf - n) w) := by
  have HI := Lib.hid h
  have HP := Lib.hid hp
  have HR := Lib.hid R
  have x6 : w.cell? ⟨x, 6, none⟩ = some (.int .i64 (lf : Int)) := by rw [← hk]; exact h.blk.cell 6
  have y0 : w.cell? ⟨gp, 0, none⟩ = some (.pointer (some ⟨g, 0, none⟩)) := hp.cell 0
  have hle := R.le
  obtain ⟨D, hD⟩ : ∃ D : Nat, 8 * (bs.length : Int) - ((8 * p : Nat) : Int) = D := ⟨8 * bs.length - 8 * p, by omega⟩
  have gl := left_any B' g v bs (8 * p) w.drew ⟨R.blk.drewN 1, R.own.drewN 1, R.le⟩ hl
  rw [hD] at gl
  have GL := Lib.hid gl
  obtain ⟨r, hr⟩ : ∃ r : Nat, bs.length - p = r := ⟨_, rfl⟩
  rw [hr] at hn
  have hnr : n ≤ r ∧ n ≤ lf := by split at hn <;> omega
  have hq1 : Int.tdiv (D : Int) 8 = (r : Int) := by
    have : D = r * 8 := by omega
    subst this
    rw [Int.tdiv_eq_ediv_of_nonneg (by omega)]
    omega
  have hq2 : IntKind.i64.wrap (r : Int) = (r : Int) := by rw [IntKind.wrap_i64]; omega
  have hmin : (if r < lf then (r : Int) else (lf : Int)) = (n : Int) := by rw [hn]; split <;> rfl
  obtain ⟨m, hm⟩ : ∃ m : Nat, lf - n = m := ⟨_, rfl⟩
  have hw : IntKind.i64.wrap ((lf : Int) - (n : Int)) = (m : Int) := by rw [IntKind.wrap_i64]; omega
  obtain ⟨ys, hys⟩ : ∃ ys, (bs.drop p).take n = ys := ⟨_, rfl⟩
  have hyl : ys.length = n := by rw [← hys, List.length_take, List.length_drop]; omega
  have graw : ∀ W, Rd W B' g v bs (8 * p) → Calls Tryd.prog 47 #[.pointer (some ⟨g, 0, none⟩), .int .i64 (n : Int)] W (RawOk B' g v bs ys (8 * (p + n)) W) := fun W hW => by
    have := rraw_ok B' g v bs (8 * p) n W hW hl (by omega)
    rw [show (8 * p + 7) / 8 = p by omega, show p * 8 + 8 * n = 8 * (p + n) by omega, hys] at this
    exact this
  have GRAW := Lib.hid graw
  have hxg : x ≠ g := Block.ne_of h.blk R.blk (by decide)
  have hAg : (Value.slice A xs.length c).ownBlock ≠ some g := h.own.ne_block R.blk (by decide)
  have hvx : v.ownBlock ≠ some x := R.own.ne_block h.blk (by decide)
  rw [hm, hys]
  have hq' : ((xs.length + ys.length : Nat) : Int) ≤ k.most := by omega
  obtain ⟨gq, hgq⟩ : ∃ gq : Nat, 8 * (p + n) = gq := ⟨_, rfl⟩
  rw [hgq] at GRAW ⊢
  have HYL := Lib.hid hyl
  have HQ := Lib.hid hq'
  have HLN := Lib.hid (show n = 0 → lf = 0 from h1)
  have HM := Lib.hid hm
  clear gl hD h hp R graw hgq hys hn hyl hq' hle
  have d0 : ((n : Int) == 0) = decide (n = 0) := by by_cases hz : n = 0 <;> simp [hz]
  have d3 : ((m : Int) == 0) = decide (m = 0) := by by_cases hz : m = 0 <;> simp [hz]
  by_cases hm0 : m = 0
  · rw [decide_eq_true hm0] at d3
    have HM0 := Lib.hid hm0
    clear hm0
    by_cases hn0 : n = 0
    · rw [decide_eq_true hn0] at d0
      have d2 : decide (0 < lf) = false := decide_eq_false (by have := HLN.out hn0; omega)
      clear hn0 h1
      go_enter Tryd.func32, Tryd.ntmps32
      go_wp2_with fail
      refine wp_region_held_drew (S := (fun W' : World => W'.cell? ⟨x, 6, none⟩ = some (.int .i64 (lf : Int)) ∧ W'.cell? ⟨gp, 0, none⟩ = some (.pointer (some ⟨g, 0, none⟩)))) (by kernel_rfl) ⟨x6, y0⟩ (fun hS => ?_)
      refine wpAnyH_take (i := 0) (oi := ⟨some 7, _, _, _, _, _⟩) (v := .pointer (some ⟨x, 0, none⟩)) rfl (by kernel_rfl) (by kernel_rfl) (by kernel_rfl) (fun _ _ _ h => h) (Or.inl ⟨by rfl, fun W hW => by go_simp⟩) hS ?_
      try simp only [Act.put, List.setIfInBounds_toArray, List.set_cons_zero, List.set_cons_succ]
      refine wpAnyH_take (i := 4) (oi := ⟨some 11, _, _, _, _, _⟩) (v := .pointer (some ⟨gp, 0, none⟩)) rfl (by kernel_rfl) (by kernel_rfl) (by kernel_rfl) (fun _ _ _ h => h) (Or.inl ⟨by rfl, fun W hW => by go_simp⟩) hS ?_
      try simp only [Act.put, List.setIfInBounds_toArray, List.set_cons_zero, List.set_cons_succ]
      refine wpAnyH_take (i := 1) (oi := ⟨some 8, _, _, _, _, _⟩) (v := .pointer (some ⟨x, 0, none⟩)) rfl (by kernel_rfl) (by kernel_rfl) (by kernel_rfl) (fun _ _ _ h => h) (Or.inl ⟨by rfl, fun W hW => by go_simp⟩) hS ?_
      try simp only [Act.put, List.setIfInBounds_toArray, List.set_cons_zero, List.set_cons_succ]
      refine wpAnyH_take (i := 5) (oi := ⟨some 12, _, _, _, _, _⟩) (v := .pointer (some ⟨gp, 0, none⟩)) rfl (by kernel_rfl) (by kernel_rfl) (by kernel_rfl) (fun _ _ _ h => h) (Or.inl ⟨by rfl, fun W hW => by go_simp⟩) hS ?_
      try simp only [Act.put, List.setIfInBounds_toArray, List.set_cons_zero, List.set_cons_succ]
      refine wpAnyH_take (i := 2) (oi := ⟨some 9, _, _, _, _, _⟩) (v := .pointer (some ⟨x, 6, none⟩)) rfl (by kernel_rfl) (by kernel_rfl) (by kernel_rfl) (fun _ _ _ h => h) (Or.inl ⟨by rfl, fun W hW => by go_simp⟩) hS ?_
      try simp only [Act.put, List.setIfInBounds_toArray, List.set_cons_zero, List.set_cons_succ]
      refine wpAnyH_take (i := 6) (oi := ⟨some 13, _, _, _, _, _⟩) (v := .pointer (some ⟨gp, 0, none⟩)) rfl (by kernel_rfl) (by kernel_rfl) (by kernel_rfl) (fun _ _ _ h => h) (Or.inl ⟨by rfl, fun W hW => by go_simp⟩) hS ?_
      try simp only [Act.put, List.setIfInBounds_toArray, List.set_cons_zero, List.set_cons_succ]
      refine wpAnyH_take (i := 3) (oi := ⟨some 10, _, _, _, _, _⟩) (v := .int .i64 (lf : Int)) rfl (by kernel_rfl) (by kernel_rfl) (by kernel_rfl) (fun _ _ _ h => h) (Or.inl ⟨by rfl, fun W hW => by have k1 := hW.1; go_simp⟩) hS ?_
      try simp only [Act.put, List.setIfInBounds_toArray, List.set_cons_zero, List.set_cons_succ]
      refine wpAnyH_take (i := 7) (oi := ⟨some 14, _, _, _, _, _⟩) (v := .pointer (some ⟨g, 0, none⟩)) rfl (by kernel_rfl) (by kernel_rfl) (by kernel_rfl) (fun _ _ _ h => h) (Or.inl ⟨by rfl, fun W hW => by have k1 := hW.2; go_simp⟩) hS ?_
      try simp only [Act.put, List.setIfInBounds_toArray, List.set_cons_zero, List.set_cons_succ]
      refine wpAnyH_ready (rs := [8]) (by kernel_rfl) (by simp) ?_
      refine AllReadyH.cons rfl (fun K hK => ?_) AllReadyH.nil
      go_simp
      go_at_call 36
      refine GL.out.mono ?_
      rintro e w1 ⟨rfl, b0⟩
      have b1 : Below w.heap.size w w1 := ⟨b0.os, b0.tape, b0.output, b0.size, b0.block⟩
      have HB1 := Lib.hid b1
      have x61 : w1.cell? ⟨x, 6, none⟩ = some (.int .i64 (lf : Int)) := (b1.cell (p := ⟨x, 6, none⟩) HI.out.blk.lt).trans x6
      have y01 : w1.cell? ⟨gp, 0, none⟩ = some (.pointer (some ⟨g, 0, none⟩)) := (b1.cell (p := ⟨gp, 0, none⟩) HP.out.lt).trans y0
      clear b0 b1
      refine hK.out _ _ ⟨x61, y01⟩ (fun hS => ?_)
      clear hK K
      try simp only [Act.put, List.setIfInBounds_toArray, List.set_cons_zero, List.set_cons_succ]
      refine wpAnyH_take (i := 9) (oi := ⟨some 16, _, _, _, _, _⟩) (v := .int .i64 (r : Int)) rfl (by kernel_rfl) (by kernel_rfl) (by kernel_rfl) (fun _ _ _ h => h) (Or.inl ⟨by rfl, fun W hW => by go_simp⟩) hS ?_
      try simp only [Act.put, List.setIfInBounds_toArray, List.set_cons_zero, List.set_cons_succ]
      refine wpAnyH_take (i := 10) (oi := ⟨some 17, _, _, _, _, _⟩) (v := .int .i64 (n : Int)) rfl (by kernel_rfl) (by kernel_rfl) (by kernel_rfl) (fun _ _ _ h => h) (Or.inl ⟨by rfl, fun W hW => by go_simp⟩) hS ?_
      try simp only [Act.put, List.setIfInBounds_toArray, List.set_cons_zero, List.set_cons_succ]
      refine wpAnyH_ready (rs := [11]) (by kernel_rfl) (by simp) ?_
      refine AllReadyH.cons rfl (fun K hK => ?_) AllReadyH.nil
      go_simp
      refine hK.out _ _ ⟨x61, y01⟩ (fun hS => ?_)
      clear hK K
      try simp only [Act.put, List.setIfInBounds_toArray, List.set_cons_zero, List.set_cons_succ]
      refine wpAnyH_done (by kernel_rfl) ?_ _
      have HR1 := Lib.hid (HR.out.below HB1.out)
      have HI1 := Lib.hid (HI.out.far (S := fun _ => False) (TurnsIn.ofNew HB1.out) (fun h => h) (fun _ _ h => h))
      have hB1 : B ≤ w1.heap.size := Nat.le_trans hB HB1.out.size
      go_wp2_with (first
        | (go_at_call 47; refine (GRAW.out _ HR1.out).mono ?_; rintro e w2 ⟨u, rfl, o2, R2, t2⟩; obtain ⟨Au, cu, rfl, _, _, hu⟩ := o2.opened; have hne2 := own_apart o2 HI1.out.blk.lt; have HU2 := Lib.hid (holds_of_own o2).2; have HI2 := Lib.hid (HI1.out.far t2 hxg (fun b hb he => hAg (by rw [hb, he]))); have HR2 := Lib.hid R2; have HT2 := Lib.hid t2; have hB2 : B ≤ w2.heap.size := Nat.le_trans hB1 t2.size; clear hu o2 R2 t2)
        | (go_at_call 48; have _t := HU2; refine (tell_any B x k xs ys A c Au cu w2 hB2 HI2.out HQ.out HU2.out hne2).mono ?_; rintro e w3 ⟨rfl, t3, A3, c3, I3, n3⟩; have x63 : w3.cell? ⟨x, 6, none⟩ = some (.int .i64 (lf : Int)) := (by rw [← hk]; exact I3.blk.cell 6); have z63 := I3.blk.frozen 6; have b4 := I3.blk.set_ 6 (.int .i64 (m : Int)); have x64 : (w3.setCell ⟨x, 6, none⟩ (.int .i64 (m : Int))).cell? ⟨x, 6, none⟩ = some (.int .i64 (m : Int)) := b4.cell 6; have HI4 := Lib.hid (I3.to (k' := { k with left := (m : Int) }) ((TurnsIn.refl (· = x) w3).setCell (p := ⟨x, 6, none⟩) (.inl rfl) (.int .i64 (m : Int))) b4 rfl); have HT3 := Lib.hid t3; have HN3 := Lib.hid n3; have HR3 := Lib.hid (HR2.out.out t3 (fun h => h.elim (fun h => hxg h.symm) (fun h => hAg h)) (fun b hb h => h.elim (fun h => hvx (by rw [hb, h])) (fun h => hva b hb h))); clear I3 t3 n3 b4 _t)
        | (go_at_call 49; have _t := HI4; refine (close_any B x _ (xs ++ ys) A3 c3 _ HI4.out).mono ?_; rintro e w5 ⟨rfl, t5, I5⟩; have HT5 := Lib.hid t5; have HI5 := Lib.hid I5; clear t5 I5 _t))
      go_end0
      have T34 : TurnsIn (· = x) w3 (w3.setCell ⟨x, 6, none⟩ (.int .i64 (m : Int))) := (TurnsIn.refl (· = x) w3).setCell (p := ⟨x, 6, none⟩) (.inl rfl) (.int .i64 (m : Int))
      have T35 := T34.trans HT5.out
      have TT := (((TurnsIn.ofNew (S := fun b => b = g ∨ b = x ∨ (Value.slice A xs.length c).ownBlock = some b) HB1.out).trans (HT2.out.mono fun b _ h => .inl h)).trans (HT3.out.mono fun b _ h => .inr h)).trans (T35.mono fun b _ h => .inr (.inl h))
      have RR := HR3.out.out T35 (fun h => hxg h.symm) (fun b hb h => hvx (by rw [hb, h]))
      have NN : Newer w (.slice A xs.length c) (.slice A3 (xs ++ ys).length c3) := by
        rcases HN3.out with h | h
        · exact .inl h
        · exact .inr fun b hb => Nat.le_trans (Nat.le_trans HB1.out.size HT2.out.size) (h b hb)
      have hk5 : Ic.closed { k with left := (m : Int) } = k.took m := by unfold Ic.took; rw [if_pos HM0.out, HM0.out]; rfl
      have i5 := HI5.out
      rw [hk5] at i5
      exact ⟨rfl, TT, RR, A3, c3, i5, NN⟩
    · rw [decide_eq_false hn0] at d0
      clear hn0 h1
      go_enter Tryd.func32, Tryd.ntmps32
      go_wp2_with fail
      refine wp_region_held_drew (S := (fun W' : World => W'.cell? ⟨x, 6, none⟩ = some (.int .i64 (lf : Int)) ∧ W'.cell? ⟨gp, 0, none⟩ = some (.pointer (some ⟨g, 0, none⟩)))) (by kernel_rfl) ⟨x6, y0⟩ (fun hS => ?_)
      refine wpAnyH_take (i := 0) (oi := ⟨some 7, _, _, _, _, _⟩) (v := .pointer (some ⟨x, 0, none⟩)) rfl (by kernel_rfl) (by kernel_rfl) (by kernel_rfl) (fun _ _ _ h => h) (Or.inl ⟨by rfl, fun W hW => by go_simp⟩) hS ?_
      try simp only [Act.put, List.setIfInBounds_toArray, List.set_cons_zero, List.set_cons_succ]
      refine wpAnyH_take (i := 4) (oi := ⟨some 11, _, _, _, _, _⟩) (v := .pointer (some ⟨gp, 0, none⟩)) rfl (by kernel_rfl) (by kernel_rfl) (by kernel_rfl) (fun _ _ _ h => h) (Or.inl ⟨by rfl, fun W hW => by go_simp⟩) hS ?_
      try simp only [Act.put, List.setIfInBounds_toArray, List.set_cons_zero, List.set_cons_succ]
      refine wpAnyH_take (i := 1) (oi := ⟨some 8, _, _, _, _, _⟩) (v := .pointer (some ⟨x, 0, none⟩)) rfl (by kernel_rfl) (by kernel_rfl) (by kernel_rfl) (fun _ _ _ h => h) (Or.inl ⟨by rfl, fun W hW => by go_simp⟩) hS ?_
      try simp only [Act.put, List.setIfInBounds_toArray, List.set_cons_zero, List.set_cons_succ]
      refine wpAnyH_take (i := 5) (oi := ⟨some 12, _, _, _, _, _⟩) (v := .pointer (some ⟨gp, 0, none⟩)) rfl (by kernel_rfl) (by kernel_rfl) (by kernel_rfl) (fun _ _ _ h => h) (Or.inl ⟨by rfl, fun W hW => by go_simp⟩) hS ?_
      try simp only [Act.put, List.setIfInBounds_toArray, List.set_cons_zero, List.set_cons_succ]
      refine wpAnyH_take (i := 2) (oi := ⟨some 9, _, _, _, _, _⟩) (v := .pointer (some ⟨x, 6, none⟩)) rfl (by kernel_rfl) (by kernel_rfl) (by kernel_rfl) (fun _ _ _ h => h) (Or.inl ⟨by rfl, fun W hW => by go_simp⟩) hS ?_
      try simp only [Act.put, List.setIfInBounds_toArray, List.set_cons_zero, List.set_cons_succ]
      refine wpAnyH_take (i := 6) (oi := ⟨some 13, _, _, _, _, _⟩) (v := .pointer (some ⟨gp, 0, none⟩)) rfl (by kernel_rfl) (by kernel_rfl) (by kernel_rfl) (fun _ _ _ h => h) (Or.inl ⟨by rfl, fun W hW => by go_simp⟩) hS ?_
      try simp only [Act.put, List.setIfInBounds_toArray, List.set_cons_zero, List.set_cons_succ]
      refine wpAnyH_take (i := 3) (oi := ⟨some 10, _, _, _, _, _⟩) (v := .int .i64 (lf : Int)) rfl (by kernel_rfl) (by kernel_rfl) (by kernel_rfl) (fun _ _ _ h => h) (Or.inl ⟨by rfl, fun W hW => by have k1 := hW.1; go_simp⟩) hS ?_
      try simp only [Act.put, List.setIfInBounds_toArray, List.set_cons_zero, List.set_cons_succ]
      refine wpAnyH_take (i := 7) (oi := ⟨some 14, _, _, _, _, _⟩) (v := .pointer (some ⟨g, 0, none⟩)) rfl (by kernel_rfl) (by kernel_rfl) (by kernel_rfl) (fun _ _ _ h => h) (Or.inl ⟨by rfl, fun W hW => by have k1 := hW.2; go_simp⟩) hS ?_
      try simp only [Act.put, List.setIfInBounds_toArray, List.set_cons_zero, List.set_cons_succ]
      refine wpAnyH_ready (rs := [8]) (by kernel_rfl) (by simp) ?_
      refine AllReadyH.cons rfl (fun K hK => ?_) AllReadyH.nil
      go_simp
      go_at_call 36
      refine GL.out.mono ?_
      rintro e w1 ⟨rfl, b0⟩
      have b1 : Below w.heap.size w w1 := ⟨b0.os, b0.tape, b0.output, b0.size, b0.block⟩
      have HB1 := Lib.hid b1
      have x61 : w1.cell? ⟨x, 6, none⟩ = some (.int .i64 (lf : Int)) := (b1.cell (p := ⟨x, 6, none⟩) HI.out.blk.lt).trans x6
      have y01 : w1.cell? ⟨gp, 0, none⟩ = some (.pointer (some ⟨g, 0, none⟩)) := (b1.cell (p := ⟨gp, 0, none⟩) HP.out.lt).trans y0
      clear b0 b1
      refine hK.out _ _ ⟨x61, y01⟩ (fun hS => ?_)
      clear hK K
      try simp only [Act.put, List.setIfInBounds_toArray, List.set_cons_zero, List.set_cons_succ]
      refine wpAnyH_take (i := 9) (oi := ⟨some 16, _, _, _, _, _⟩) (v := .int .i64 (r : Int)) rfl (by kernel_rfl) (by kernel_rfl) (by kernel_rfl) (fun _ _ _ h => h) (Or.inl ⟨by rfl, fun W hW => by go_simp⟩) hS ?_
      try simp only [Act.put, List.setIfInBounds_toArray, List.set_cons_zero, List.set_cons_succ]
      refine wpAnyH_take (i := 10) (oi := ⟨some 17, _, _, _, _, _⟩) (v := .int .i64 (n : Int)) rfl (by kernel_rfl) (by kernel_rfl) (by kernel_rfl) (fun _ _ _ h => h) (Or.inl ⟨by rfl, fun W hW => by go_simp⟩) hS ?_
      try simp only [Act.put, List.setIfInBounds_toArray, List.set_cons_zero, List.set_cons_succ]
      refine wpAnyH_ready (rs := [11]) (by kernel_rfl) (by simp) ?_
      refine AllReadyH.cons rfl (fun K hK => ?_) AllReadyH.nil
      go_simp
      refine hK.out _ _ ⟨x61, y01⟩ (fun hS => ?_)
      clear hK K
      try simp only [Act.put, List.setIfInBounds_toArray, List.set_cons_zero, List.set_cons_succ]
      refine wpAnyH_done (by kernel_rfl) ?_ _
      have HR1 := Lib.hid (HR.out.below HB1.out)
      have HI1 := Lib.hid (HI.out.far (S := fun _ => False) (TurnsIn.ofNew HB1.out) (fun h => h) (fun _ _ h => h))
      have hB1 : B ≤ w1.heap.size := Nat.le_trans hB HB1.out.size
      go_wp2_with (first
        | (go_at_call 47; refine (GRAW.out _ HR1.out).mono ?_; rintro e w2 ⟨u, rfl, o2, R2, t2⟩; obtain ⟨Au, cu, rfl, _, _, hu⟩ := o2.opened; have hne2 := own_apart o2 HI1.out.blk.lt; have HU2 := Lib.hid (holds_of_own o2).2; have HI2 := Lib.hid (HI1.out.far t2 hxg (fun b hb he => hAg (by rw [hb, he]))); have HR2 := Lib.hid R2; have HT2 := Lib.hid t2; have hB2 : B ≤ w2.heap.size := Nat.le_trans hB1 t2.size; clear hu o2 R2 t2)
        | (go_at_call 48; have _t := HU2; refine (tell_any B x k xs ys A c Au cu w2 hB2 HI2.out HQ.out HU2.out hne2).mono ?_; rintro e w3 ⟨rfl, t3, A3, c3, I3, n3⟩; have x63 : w3.cell? ⟨x, 6, none⟩ = some (.int .i64 (lf : Int)) := (by rw [← hk]; exact I3.blk.cell 6); have z63 := I3.blk.frozen 6; have b4 := I3.blk.set_ 6 (.int .i64 (m : Int)); have x64 : (w3.setCell ⟨x, 6, none⟩ (.int .i64 (m : Int))).cell? ⟨x, 6, none⟩ = some (.int .i64 (m : Int)) := b4.cell 6; have HI4 := Lib.hid (I3.to (k' := { k with left := (m : Int) }) ((TurnsIn.refl (· = x) w3).setCell (p := ⟨x, 6, none⟩) (.inl rfl) (.int .i64 (m : Int))) b4 rfl); have HT3 := Lib.hid t3; have HN3 := Lib.hid n3; have HR3 := Lib.hid (HR2.out.out t3 (fun h => h.elim (fun h => hxg h.symm) (fun h => hAg h)) (fun b hb h => h.elim (fun h => hvx (by rw [hb, h])) (fun h => hva b hb h))); clear I3 t3 n3 b4 _t)
        | (go_at_call 49; have _t := HI4; refine (close_any B x _ (xs ++ ys) A3 c3 _ HI4.out).mono ?_; rintro e w5 ⟨rfl, t5, I5⟩; have HT5 := Lib.hid t5; have HI5 := Lib.hid I5; clear t5 I5 _t))
      go_end0
      have T34 : TurnsIn (· = x) w3 (w3.setCell ⟨x, 6, none⟩ (.int .i64 (m : Int))) := (TurnsIn.refl (· = x) w3).setCell (p := ⟨x, 6, none⟩) (.inl rfl) (.int .i64 (m : Int))
      have T35 := T34.trans HT5.out
      have TT := (((TurnsIn.ofNew (S := fun b => b = g ∨ b = x ∨ (Value.slice A xs.length c).ownBlock = some b) HB1.out).trans (HT2.out.mono fun b _ h => .inl h)).trans (HT3.out.mono fun b _ h => .inr h)).trans (T35.mono fun b _ h => .inr (.inl h))
      have RR := HR3.out.out T35 (fun h => hxg h.symm) (fun b hb h => hvx (by rw [hb, h]))
      have NN : Newer w (.slice A xs.length c) (.slice A3 (xs ++ ys).length c3) := by
        rcases HN3.out with h | h
        · exact .inl h
        · exact .inr fun b hb => Nat.le_trans (Nat.le_trans HB1.out.size HT2.out.size) (h b hb)
      have hk5 : Ic.closed { k with left := (m : Int) } = k.took m := by unfold Ic.took; rw [if_pos HM0.out, HM0.out]; rfl
      have i5 := HI5.out
      rw [hk5] at i5
      exact ⟨rfl, TT, RR, A3, c3, i5, NN⟩
  · have hn0 : n ≠ 0 := fun hz => hm0 (by have := HLN.out hz; have := HM.out; omega)
    rw [decide_eq_false hn0] at d0
    rw [decide_eq_false hm0] at d3
    have HM0 := Lib.hid hm0
    clear hn0 hm0 h1
    go_enter Tryd.func32, Tryd.ntmps32
    go_wp2_with fail
    refine wp_region_held_drew (S := (fun W' : World => W'.cell? ⟨x, 6, none⟩ = some (.int .i64 (lf : Int)) ∧ W'.cell? ⟨gp, 0, none⟩ = some (.pointer (some ⟨g, 0, none⟩)))) (by kernel_rfl) ⟨x6, y0⟩ (fun hS => ?_)
    refine wpAnyH_take (i := 0) (oi := ⟨some 7, _, _, _, _, _⟩) (v := .pointer (some ⟨x, 0, none⟩)) rfl (by kernel_rfl) (by kernel_rfl) (by kernel_rfl) (fun _ _ _ h => h) (Or.inl ⟨by rfl, fun W hW => by go_simp⟩) hS ?_
    try simp only [Act.put, List.setIfInBounds_toArray, List.set_cons_zero, List.set_cons_succ]
    refine wpAnyH_take (i := 4) (oi := ⟨some 11, _, _, _, _, _⟩) (v := .pointer (some ⟨gp, 0, none⟩)) rfl (by kernel_rfl) (by kernel_rfl) (by kernel_rfl) (fun _ _ _ h => h) (Or.inl ⟨by rfl, fun W hW => by go_simp⟩) hS ?_
    try simp only [Act.put, List.setIfInBounds_toArray, List.set_cons_zero, List.set_cons_succ]
    refine wpAnyH_take (i := 1) (oi := ⟨some 8, _, _, _, _, _⟩) (v := .pointer (some ⟨x, 0, none⟩)) rfl (by kernel_rfl) (by kernel_rfl) (by kernel_rfl) (fun _ _ _ h => h) (Or.inl ⟨by rfl, fun W hW => by go_simp⟩) hS ?_
    try simp only [Act.put, List.setIfInBounds_toArray, List.set_cons_zero, List.set_cons_succ]
    refine wpAnyH_take (i := 5) (oi := ⟨some 12, _, _, _, _, _⟩) (v := .pointer (some ⟨gp, 0, none⟩)) rfl (by kernel_rfl) (by kernel_rfl) (by kernel_rfl) (fun _ _ _ h => h) (Or.inl ⟨by rfl, fun W hW => by go_simp⟩) hS ?_
    try simp only [Act.put, List.setIfInBounds_toArray, List.set_cons_zero, List.set_cons_succ]
    refine wpAnyH_take (i := 2) (oi := ⟨some 9, _, _, _, _, _⟩) (v := .pointer (some ⟨x, 6, none⟩)) rfl (by kernel_rfl) (by kernel_rfl) (by kernel_rfl) (fun _ _ _ h => h) (Or.inl ⟨by rfl, fun W hW => by go_simp⟩) hS ?_
    try simp only [Act.put, List.setIfInBounds_toArray, List.set_cons_zero, List.set_cons_succ]
    refine wpAnyH_take (i := 6) (oi := ⟨some 13, _, _, _, _, _⟩) (v := .pointer (some ⟨gp, 0, none⟩)) rfl (by kernel_rfl) (by kernel_rfl) (by kernel_rfl) (fun _ _ _ h => h) (Or.inl ⟨by rfl, fun W hW => by go_simp⟩) hS ?_
    try simp only [Act.put, List.setIfInBounds_toArray, List.set_cons_zero, List.set_cons_succ]
    refine wpAnyH_take (i := 3) (oi := ⟨some 10, _, _, _, _, _⟩) (v := .int .i64 (lf : Int)) rfl (by kernel_rfl) (by kernel_rfl) (by kernel_rfl) (fun _ _ _ h => h) (Or.inl ⟨by rfl, fun W hW => by have k1 := hW.1; go_simp⟩) hS ?_
    try simp only [Act.put, List.setIfInBounds_toArray, List.set_cons_zero, List.set_cons_succ]
    refine wpAnyH_take (i := 7) (oi := ⟨some 14, _, _, _, _, _⟩) (v := .pointer (some ⟨g, 0, none⟩)) rfl (by kernel_rfl) (by kernel_rfl) (by kernel_rfl) (fun _ _ _ h => h) (Or.inl ⟨by rfl, fun W hW => by have k1 := hW.2; go_simp⟩) hS ?_
    try simp only [Act.put, List.setIfInBounds_toArray, List.set_cons_zero, List.set_cons_succ]
    refine wpAnyH_ready (rs := [8]) (by kernel_rfl) (by simp) ?_
    refine AllReadyH.cons rfl (fun K hK => ?_) AllReadyH.nil
    go_simp
    go_at_call 36
    refine GL.out.mono ?_
    rintro e w1 ⟨rfl, b0⟩
    have b1 : Below w.heap.size w w1 := ⟨b0.os, b0.tape, b0.output, b0.size, b0.block⟩
    have HB1 := Lib.hid b1
    have x61 : w1.cell? ⟨x, 6, none⟩ = some (.int .i64 (lf : Int)) := (b1.cell (p := ⟨x, 6, none⟩) HI.out.blk.lt).trans x6
    have y01 : w1.cell? ⟨gp, 0, none⟩ = some (.pointer (some ⟨g, 0, none⟩)) := (b1.cell (p := ⟨gp, 0, none⟩) HP.out.lt).trans y0
    clear b0 b1
    refine hK.out _ _ ⟨x61, y01⟩ (fun hS => ?_)
    clear hK K
    try simp only [Act.put, List.setIfInBounds_toArray, List.set_cons_zero, List.set_cons_succ]
    refine wpAnyH_take (i := 9) (oi := ⟨some 16, _, _, _, _, _⟩) (v := .int .i64 (r : Int)) rfl (by kernel_rfl) (by kernel_rfl) (by kernel_rfl) (fun _ _ _ h => h) (Or.inl ⟨by rfl, fun W hW => by go_simp⟩) hS ?_
    try simp only [Act.put, List.setIfInBounds_toArray, List.set_cons_zero, List.set_cons_succ]
    refine wpAnyH_take (i := 10) (oi := ⟨some 17, _, _, _, _, _⟩) (v := .int .i64 (n : Int)) rfl (by kernel_rfl) (by kernel_rfl) (by kernel_rfl) (fun _ _ _ h => h) (Or.inl ⟨by rfl, fun W hW => by go_simp⟩) hS ?_
    try simp only [Act.put, List.setIfInBounds_toArray, List.set_cons_zero, List.set_cons_succ]
    refine wpAnyH_ready (rs := [11]) (by kernel_rfl) (by simp) ?_
    refine AllReadyH.cons rfl (fun K hK => ?_) AllReadyH.nil
    go_simp
    refine hK.out _ _ ⟨x61, y01⟩ (fun hS => ?_)
    clear hK K
    try simp only [Act.put, List.setIfInBounds_toArray, List.set_cons_zero, List.set_cons_succ]
    refine wpAnyH_done (by kernel_rfl) ?_ _
    have HR1 := Lib.hid (HR.out.below HB1.out)
    have HI1 := Lib.hid (HI.out.far (S := fun _ => False) (TurnsIn.ofNew HB1.out) (fun h => h) (fun _ _ h => h))
    have hB1 : B ≤ w1.heap.size := Nat.le_trans hB HB1.out.size
    go_wp2_with (first
      | (go_at_call 47; refine (GRAW.out _ HR1.out).mono ?_; rintro e w2 ⟨u, rfl, o2, R2, t2⟩; obtain ⟨Au, cu, rfl, _, _, hu⟩ := o2.opened; have hne2 := own_apart o2 HI1.out.blk.lt; have HU2 := Lib.hid (holds_of_own o2).2; have HI2 := Lib.hid (HI1.out.far t2 hxg (fun b hb he => hAg (by rw [hb, he]))); have HR2 := Lib.hid R2; have HT2 := Lib.hid t2; have hB2 : B ≤ w2.heap.size := Nat.le_trans hB1 t2.size; clear hu o2 R2 t2)
      | (go_at_call 48; have _t := HU2; refine (tell_any B x k xs ys A c Au cu w2 hB2 HI2.out HQ.out HU2.out hne2).mono ?_; rintro e w3 ⟨rfl, t3, A3, c3, I3, n3⟩; have x63 : w3.cell? ⟨x, 6, none⟩ = some (.int .i64 (lf : Int)) := (by rw [← hk]; exact I3.blk.cell 6); have z63 := I3.blk.frozen 6; have b4 := I3.blk.set_ 6 (.int .i64 (m : Int)); have x64 : (w3.setCell ⟨x, 6, none⟩ (.int .i64 (m : Int))).cell? ⟨x, 6, none⟩ = some (.int .i64 (m : Int)) := b4.cell 6; have HI4 := Lib.hid (I3.to (k' := { k with left := (m : Int) }) ((TurnsIn.refl (· = x) w3).setCell (p := ⟨x, 6, none⟩) (.inl rfl) (.int .i64 (m : Int))) b4 rfl); have HT3 := Lib.hid t3; have HN3 := Lib.hid n3; have HR3 := Lib.hid (HR2.out.out t3 (fun h => h.elim (fun h => hxg h.symm) (fun h => hAg h)) (fun b hb h => h.elim (fun h => hvx (by rw [hb, h])) (fun h => hva b hb h))); clear I3 t3 n3 b4 _t))
    go_end0
    have T34 : TurnsIn (· = x) w3 (w3.setCell ⟨x, 6, none⟩ (.int .i64 (m : Int))) := (TurnsIn.refl (· = x) w3).setCell (p := ⟨x, 6, none⟩) (.inl rfl) (.int .i64 (m : Int))
    have T35 := T34
    have TT := (((TurnsIn.ofNew (S := fun b => b = g ∨ b = x ∨ (Value.slice A xs.length c).ownBlock = some b) HB1.out).trans (HT2.out.mono fun b _ h => .inl h)).trans (HT3.out.mono fun b _ h => .inr h)).trans (T35.mono fun b _ h => .inr (.inl h))
    have RR := HR3.out.out T35 (fun h => hxg h.symm) (fun b hb h => hvx (by rw [hb, h]))
    have NN : Newer w (.slice A xs.length c) (.slice A3 (xs ++ ys).length c3) := by
      rcases HN3.out with h | h
      · exact .inl h
      · exact .inr fun b hb => Nat.le_trans (Nat.le_trans HB1.out.size HT2.out.size) (h b hb)
    have hk5 : { k with left := (m : Int) } = k.took m := by unfold Ic.took; rw [if_neg HM0.out]
    have i5 := HI4.out
    rw [hk5] at i5
    exact ⟨rfl, TT, RR, A3, c3, i5, NN⟩
end Go.Proofs.YthflefdchgpbdaaDoor.Inf
