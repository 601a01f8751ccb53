/-
  Layer 16, plan: what takes a step of a writing: contract. Conditions: as each theorem names.
-/
import Derived.Test.YtjcofmeknpgjnaaPlL
import Derived.Test.YtjcofmeknpgjnaaPlI
namespace Go.Proofs.Ytjcofmeknpgjnaa.Pl
open Go.ChangeShapes Go.WideShapes Go.ChangeAt Go.RowKit Go.Proofs.Ytjcofmeknpgjnaa.Kit

theorem Rest.alloc {w : World} {B r : Nat} {xs : List Int} (h : Rest w B r xs) (hB : B ≤ w.heap.size) (o : Obj) : Rest (w.alloc o) B r xs := by
  obtain ⟨h1, A, c, blk, h2, h3, h4⟩ := h
  exact ⟨h1, A, c, blk.alloc o, h2, h3, h4.below ((Below.refl _ _).alloc hB o)⟩

theorem Rest.set {w : World} {B r : Nat} {xs : List Int} (h : Rest w B r xs) {p : Addr} (hp : p.block ≠ r) (hB : B ≤ p.block) (v : Value) : Rest (w.setCell p v) B r xs := by
  obtain ⟨h1, A, c, blk, h2, h3, h4⟩ := h
  exact ⟨h1, A, c, blk.far (Ne.symm hp) v, h2, h3, h4.below ((Below.refl _ _).setCell hB v)⟩

def StepTold (B r : Nat) (w : World) (res : Except Int (Sq × List Int)) (e : Ending) (w' : World) : Prop :=
  TurnsIn (fun b => b = r) w w' ∧ match res with
  | .ok (q, l) => ∃ A c, e = .returned (.agg #[.int .u8 q.a, .int .i64 q.b, .int .i64 q.x, .slice A q.zs.length c]) ∧ q.zs.length ≤ c ∧ c ≤ maxLen ∧ Own w' w.heap.size 5 .u8 (.slice A q.zs.length c) q.zs ∧ Rest w' B r l
  | .error why => e = .panicked [{ v := thrown why, recovered := false }]

set_option maxRecDepth 100000 in
set_option maxHeartbeats 3200000 in
theorem step_bad (B r : Nat) (k : Int) (l : List Int) (w : World) (h : Rest w B r (k :: l)) (hB : B ≤ w.heap.size) (hr : r < w.heap.size) (hl : l.length ≤ 999999) (hk : k < 1 ∨ 3 < k) :
    Calls Try.prog 24 #[.pointer (some ⟨r, 0, none⟩)] w (StepTold B r w (.error 13)) := by
  have hA := h.alloc hB (.cells #[.int .u8 0, .int .i64 0, .int .i64 0, .slice none 0 0] 28)
  have t0 := (TurnsIn.refl (· = r) w).alloc (.cells #[.int .u8 0, .int .i64 0, .int .i64 0, .slice none 0 0] 28)
  have G := Lib.hid (take_ok B r (k :: l) 1 _ hA (by simp; omega) (by simp; omega) (by simp))
  have k1 : (k != 1) = true := by simp; omega
  have k2 : (k != 2) = true := by simp; omega
  have k3 : (k != 3) = true := by simp; omega
  clear hk h hA
  go_enter Try.func24, Try.ntmps24
  go_wp2_with (first
    | (go_at_call 28; refine G.out.mono ?_; rintro e w2 ⟨A2, c2, rfl, hl2, hm2, hh2, hR2, t2⟩; obtain ⟨b2, o2, rfl, hb2, hc2⟩ := hh2 (by simp); have d2 := hc2 0 (by simp); simp only [List.take_succ_cons, List.getD_cons_zero, Nat.add_zero] at d2; have blk := Block.new w2 28 #[.int .u8 k, .int .i64 0, .int .i64 0, .slice none 0 0]; have q0 := blk.cellOf 0 (u := .int .u8 k) rfl)
    | (go_at_call 29; refine (refuse_thrown 13 _).mono ?_; rintro e w3 ⟨rfl, rfl⟩))
  exact ⟨rfl, (t0.trans t2).alloc _, rfl⟩

set_option maxRecDepth 100000 in
set_option maxHeartbeats 3200000 in
theorem step_first (B r : Nat) (k : Int) (l : List Int) (why : Int) (w : World) (h : Rest w B r (k :: l)) (hB : B ≤ w.heap.size) (hr : r < w.heap.size) (hl : l.length ≤ 999999) (ho : Octets l) (hk : k = 1 ∨ k = 2 ∨ k = 3) (hn : numG 5 1 0 l = .error why) :
    Calls Try.prog 24 #[.pointer (some ⟨r, 0, none⟩)] w (StepTold B r w (.error why)) := by
  have hA := h.alloc hB (.cells #[.int .u8 0, .int .i64 0, .int .i64 0, .slice none 0 0] 28)
  have t0 := (TurnsIn.refl (· = r) w).alloc (.cells #[.int .u8 0, .int .i64 0, .int .i64 0, .slice none 0 0] 28)
  have hBa : B ≤ (w.alloc (.cells #[.int .u8 0, .int .i64 0, .int .i64 0, .slice none 0 0] 28)).heap.size := by simp; omega
  have HN := Lib.hid hn
  clear hn
  rcases hk with rfl | rfl | rfl
  · have G := Lib.hid (take_ok B r (1 :: l) 1 _ hA (by simp; omega) (by simp; omega) (by simp))
    clear h hA
    go_enter Try.func24, Try.ntmps24
    go_wp2_with (first
      | (go_at_call 28; refine G.out.mono ?_; rintro e w2 ⟨A2, c2, rfl, hl2, hm2, hh2, hR2, t2⟩; obtain ⟨b2, o2, rfl, hb2, hc2⟩ := hh2 (by simp); have d2 := hc2 0 (by simp); simp only [List.take_succ_cons, List.getD_cons_zero, Nat.add_zero] at d2; have blk := Block.new w2 28 #[.int .u8 1, .int .i64 0, .int .i64 0, .slice none 0 0]; have q0 := blk.cellOf 0 (u := .int .u8 1) rfl; have hs2 := t2.size; have hR3 := hR2.alloc (o := .cells #[.int .u8 1, .int .i64 0, .int .i64 0, .slice none 0 0] 28) (Nat.le_trans hBa hs2); have hs3 : B ≤ (w2.alloc (.cells #[.int .u8 1, .int .i64 0, .int .i64 0, .slice none 0 0] 28)).heap.size := hR3.2.choose_spec.choose_spec.1.lt |> fun h => by have := hR3.1; omega)
      | (go_at_call 29; refine (refuse_no 13 _).mono ?_; rintro e w3 ⟨rfl, rfl⟩)
      | (go_at_call 30; refine (rnum_any B r l _ hR3 hs3 (by omega) ho).mono ?_; rintro e w4 ⟨t4, hm4⟩; rw [HN.out] at hm4; subst hm4))
    exact ⟨rfl, ((t0.trans t2).alloc _).trans t4, rfl⟩
  · have G := Lib.hid (take_ok B r (2 :: l) 1 _ hA (by simp; omega) (by simp; omega) (by simp))
    clear h hA
    go_enter Try.func24, Try.ntmps24
    go_wp2_with (first
      | (go_at_call 28; refine G.out.mono ?_; rintro e w2 ⟨A2, c2, rfl, hl2, hm2, hh2, hR2, t2⟩; obtain ⟨b2, o2, rfl, hb2, hc2⟩ := hh2 (by simp); have d2 := hc2 0 (by simp); simp only [List.take_succ_cons, List.getD_cons_zero, Nat.add_zero] at d2; have blk := Block.new w2 28 #[.int .u8 2, .int .i64 0, .int .i64 0, .slice none 0 0]; have q0 := blk.cellOf 0 (u := .int .u8 2) rfl; have hs2 := t2.size; have hR3 := hR2.alloc (o := .cells #[.int .u8 2, .int .i64 0, .int .i64 0, .slice none 0 0] 28) (Nat.le_trans hBa hs2); have hs3 : B ≤ (w2.alloc (.cells #[.int .u8 2, .int .i64 0, .int .i64 0, .slice none 0 0] 28)).heap.size := hR3.2.choose_spec.choose_spec.1.lt |> fun h => by have := hR3.1; omega)
      | (go_at_call 29; refine (refuse_no 13 _).mono ?_; rintro e w3 ⟨rfl, rfl⟩)
      | (go_at_call 30; refine (rnum_any B r l _ hR3 hs3 (by omega) ho).mono ?_; rintro e w4 ⟨t4, hm4⟩; rw [HN.out] at hm4; subst hm4))
    exact ⟨rfl, ((t0.trans t2).alloc _).trans t4, rfl⟩
  · have G := Lib.hid (take_ok B r (3 :: l) 1 _ hA (by simp; omega) (by simp; omega) (by simp))
    clear h hA
    go_enter Try.func24, Try.ntmps24
    go_wp2_with (first
      | (go_at_call 28; refine G.out.mono ?_; rintro e w2 ⟨A2, c2, rfl, hl2, hm2, hh2, hR2, t2⟩; obtain ⟨b2, o2, rfl, hb2, hc2⟩ := hh2 (by simp); have d2 := hc2 0 (by simp); simp only [List.take_succ_cons, List.getD_cons_zero, Nat.add_zero] at d2; have blk := Block.new w2 28 #[.int .u8 3, .int .i64 0, .int .i64 0, .slice none 0 0]; have q0 := blk.cellOf 0 (u := .int .u8 3) rfl; have hs2 := t2.size; have hR3 := hR2.alloc (o := .cells #[.int .u8 3, .int .i64 0, .int .i64 0, .slice none 0 0] 28) (Nat.le_trans hBa hs2); have hs3 : B ≤ (w2.alloc (.cells #[.int .u8 3, .int .i64 0, .int .i64 0, .slice none 0 0] 28)).heap.size := hR3.2.choose_spec.choose_spec.1.lt |> fun h => by have := hR3.1; omega)
      | (go_at_call 29; refine (refuse_no 13 _).mono ?_; rintro e w3 ⟨rfl, rfl⟩)
      | (go_at_call 30; refine (rnum_any B r l _ hR3 hs3 (by omega) ho).mono ?_; rintro e w4 ⟨t4, hm4⟩; rw [HN.out] at hm4; subst hm4))
    exact ⟨rfl, ((t0.trans t2).alloc _).trans t4, rfl⟩
end Go.Proofs.Ytjcofmeknpgjnaa.Pl
