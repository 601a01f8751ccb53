/-
  Layer 16, plan: what takes a step of a writing: the second number, and the ways it ends. Conditions: as each theorem names.
-/
import Derived.Test.YtjcofmeknpgjnaaPlS
namespace Go.Proofs.Ytjcofmeknpgjnaa.Pl
open Go.ChangeShapes Go.WideShapes Go.ChangeAt Go.RowKit Go.Proofs.Ytjcofmeknpgjnaa.Kit

theorem Rest.size {w : World} {B r : Nat} {xs : List Int} (h : Rest w B r xs) : B ≤ w.heap.size := by
  obtain ⟨h1, A, c, blk, _⟩ := h
  have := blk.lt
  omega

set_option maxRecDepth 100000 in
set_option maxHeartbeats 3200000 in
theorem step_second (B r : Nat) (k : Int) (l : List Int) (n : Int) (r1 : List Int) (why : Int) (w : World) (h : Rest w B r (k :: l)) (hB : B ≤ w.heap.size) (hr : r < w.heap.size) (hl : l.length ≤ 999999) (ho : Octets l) (hn : numG 5 1 0 l = .ok (n, r1)) (hl1 : r1.length ≤ 1000000) (ho1 : Octets r1) (hk : k = 2 ∨ k = 3) (hf : numG 5 1 0 r1 = .error why) :
    Calls Try.prog 24 #[.pointer (some ⟨r, 0, none⟩)] w (StepTold B r w (.error why)) := by
  have hA := h.alloc hB (.cells #[.int .u8 0, .int .i64 0, .int .i64 0, .slice none 0 0] 28)
  have t0 := (TurnsIn.refl (· = r) w).alloc (.cells #[.int .u8 0, .int .i64 0, .int .i64 0, .slice none 0 0] 28)
  have hBa : B ≤ (w.alloc (.cells #[.int .u8 0, .int .i64 0, .int .i64 0, .slice none 0 0] 28)).heap.size := by simp; omega
  have HN := Lib.hid hn
  clear hn
  have HF := Lib.hid hf
  clear hf
  rcases hk with rfl | rfl
  · have G := Lib.hid (take_ok B r (2 :: l) 1 _ hA (by simp; omega) (by simp; omega) (by simp))
    clear h hA
    go_enter Try.func24, Try.ntmps24
    go_wp2_with (first
      | (go_at_call 28; refine G.out.mono ?_; rintro e w2 ⟨A2, c2, rfl, hl2, hm2, hh2, hR2, t2⟩; obtain ⟨b2, o2, rfl, hb2, hc2⟩ := hh2 (by simp); have d2 := hc2 0 (by simp); simp only [List.take_succ_cons, List.getD_cons_zero, Nat.add_zero] at d2; have blk := Block.new w2 28 #[.int .u8 2, .int .i64 0, .int .i64 0, .slice none 0 0]; have q0 := blk.cellOf 0 (u := .int .u8 2) rfl; have hs2 := t2.size; have hR3 := hR2.alloc (o := .cells #[.int .u8 2, .int .i64 0, .int .i64 0, .slice none 0 0] 28) (Nat.le_trans hBa hs2); have hs3 := hR3.size; have hsr : ¬ w2.heap.size = r := (by simp at hs2; omega); have hsw : w.heap.size ≤ w2.heap.size := (by simp at hs2; omega); have t3 := (t0.trans t2).alloc (.cells #[.int .u8 2, .int .i64 0, .int .i64 0, .slice none 0 0] 28))
      | (go_at_call 29; refine (refuse_no 13 _).mono ?_; rintro e w3 ⟨rfl, rfl⟩)
      | (have _t := hR3; go_at_call 30; refine (rnum_any B r l _ hR3 hs3 (by omega) ho).mono ?_; clear _t; rintro e w4 ⟨t4, hm4⟩; rw [HN.out] at hm4; obtain ⟨rfl, hR4⟩ := hm4; have blk4 := blk.out t4 hsr; have z2 := blk4.frozen 2; have p2 := blk4.cellOf 2 (u := .int .i64 0) rfl; have blk5 := blk4.set_ 2 (.int .i64 n); have q5 := blk5.cellOf 0 (u := .int .u8 2) rfl; have hR5 := hR4.set (p := ⟨w2.heap.size, 2, none⟩) hsr (Nat.le_trans hB hsw) (.int .i64 n); have hs5 := hR5.size; have t5 := (t3.trans t4).setCell (p := ⟨w2.heap.size, 2, none⟩) (.inr hsw) (.int .i64 n); have y1 := blk5.cellOf 1 (u := .int .i64 0) rfl; have y2 := blk5.cellOf 2 (u := .int .i64 n) rfl; clear hR3)
      | (have _t := hR5; go_at_call 30; refine (rnum_any B r r1 _ hR5 hs5 hl1 ho1).mono ?_; clear _t; rintro e w6 ⟨t6, hm6⟩; rw [HF.out] at hm6; subst hm6))
    exact ⟨rfl, t5.trans t6, rfl⟩
  · have G := Lib.hid (take_ok B r (3 :: l) 1 _ hA (by simp; omega) (by simp; omega) (by simp))
    clear h hA
    go_enter Try.func24, Try.ntmps24
    go_wp2_with (first
      | (go_at_call 28; refine G.out.mono ?_; rintro e w2 ⟨A2, c2, rfl, hl2, hm2, hh2, hR2, t2⟩; obtain ⟨b2, o2, rfl, hb2, hc2⟩ := hh2 (by simp); have d2 := hc2 0 (by simp); simp only [List.take_succ_cons, List.getD_cons_zero, Nat.add_zero] at d2; have blk := Block.new w2 28 #[.int .u8 3, .int .i64 0, .int .i64 0, .slice none 0 0]; have q0 := blk.cellOf 0 (u := .int .u8 3) rfl; have hs2 := t2.size; have hR3 := hR2.alloc (o := .cells #[.int .u8 3, .int .i64 0, .int .i64 0, .slice none 0 0] 28) (Nat.le_trans hBa hs2); have hs3 := hR3.size; have hsr : ¬ w2.heap.size = r := (by simp at hs2; omega); have hsw : w.heap.size ≤ w2.heap.size := (by simp at hs2; omega); have t3 := (t0.trans t2).alloc (.cells #[.int .u8 3, .int .i64 0, .int .i64 0, .slice none 0 0] 28))
      | (go_at_call 29; refine (refuse_no 13 _).mono ?_; rintro e w3 ⟨rfl, rfl⟩)
      | (have _t := hR3; go_at_call 30; refine (rnum_any B r l _ hR3 hs3 (by omega) ho).mono ?_; clear _t; rintro e w4 ⟨t4, hm4⟩; rw [HN.out] at hm4; obtain ⟨rfl, hR4⟩ := hm4; have blk4 := blk.out t4 hsr; have z2 := blk4.frozen 2; have p2 := blk4.cellOf 2 (u := .int .i64 0) rfl; have blk5 := blk4.set_ 2 (.int .i64 n); have q5 := blk5.cellOf 0 (u := .int .u8 3) rfl; have hR5 := hR4.set (p := ⟨w2.heap.size, 2, none⟩) hsr (Nat.le_trans hB hsw) (.int .i64 n); have hs5 := hR5.size; have t5 := (t3.trans t4).setCell (p := ⟨w2.heap.size, 2, none⟩) (.inr hsw) (.int .i64 n); have y1 := blk5.cellOf 1 (u := .int .i64 0) rfl; have y2 := blk5.cellOf 2 (u := .int .i64 n) rfl; clear hR3)
      | (have _t := hR5; go_at_call 30; refine (rnum_any B r r1 _ hR5 hs5 hl1 ho1).mono ?_; clear _t; rintro e w6 ⟨t6, hm6⟩; rw [HF.out] at hm6; subst hm6))
    exact ⟨rfl, t5.trans t6, rfl⟩

set_option maxRecDepth 100000 in
set_option maxHeartbeats 3200000 in
theorem step_wide (B r : Nat) (k : Int) (l : List Int) (n : Int) (r1 : List Int)  (w : World) (h : Rest w B r (k :: l)) (hB : B ≤ w.heap.size) (hr : r < w.heap.size) (hl : l.length ≤ 999999) (ho : Octets l) (hn : numG 5 1 0 l = .ok (n, r1)) (hl1 : r1.length ≤ 1000000) (ho1 : Octets r1) (hk : k = 1) (hx : n < 1 ∨ 1 ≤ n ∧ 4096 < n) :
    Calls Try.prog 24 #[.pointer (some ⟨r, 0, none⟩)] w (StepTold B r w (.error 13)) := by
  have hA := h.alloc hB (.cells #[.int .u8 0, .int .i64 0, .int .i64 0, .slice none 0 0] 28)
  have t0 := (TurnsIn.refl (· = r) w).alloc (.cells #[.int .u8 0, .int .i64 0, .int .i64 0, .slice none 0 0] 28)
  have hBa : B ≤ (w.alloc (.cells #[.int .u8 0, .int .i64 0, .int .i64 0, .slice none 0 0] 28)).heap.size := by simp; omega
  have HN := Lib.hid hn
  clear hn
  subst hk
  rcases hx with g | ⟨g1, g2⟩
  · have G := Lib.hid (take_ok B r (1 :: l) 1 _ hA (by simp; omega) (by simp; omega) (by simp))
    clear h hA
    go_enter Try.func24, Try.ntmps24
    go_wp2_with (first
      | (go_at_call 28; refine G.out.mono ?_; rintro e w2 ⟨A2, c2, rfl, hl2, hm2, hh2, hR2, t2⟩; obtain ⟨b2, o2, rfl, hb2, hc2⟩ := hh2 (by simp); have d2 := hc2 0 (by simp); simp only [List.take_succ_cons, List.getD_cons_zero, Nat.add_zero] at d2; have blk := Block.new w2 28 #[.int .u8 1, .int .i64 0, .int .i64 0, .slice none 0 0]; have q0 := blk.cellOf 0 (u := .int .u8 1) rfl; have hs2 := t2.size; have hR3 := hR2.alloc (o := .cells #[.int .u8 1, .int .i64 0, .int .i64 0, .slice none 0 0] 28) (Nat.le_trans hBa hs2); have hs3 := hR3.size; have hsr : ¬ w2.heap.size = r := (by simp at hs2; omega); have hsw : w.heap.size ≤ w2.heap.size := (by simp at hs2; omega); have t3 := (t0.trans t2).alloc (.cells #[.int .u8 1, .int .i64 0, .int .i64 0, .slice none 0 0] 28))
      | (go_at_call 29; refine (refuse_no 13 _).mono ?_; rintro e w3 ⟨rfl, rfl⟩)
      | (have _t := hR3; go_at_call 30; refine (rnum_any B r l _ hR3 hs3 (by omega) ho).mono ?_; clear _t; rintro e w4 ⟨t4, hm4⟩; rw [HN.out] at hm4; obtain ⟨rfl, hR4⟩ := hm4; have blk4 := blk.out t4 hsr; have z2 := blk4.frozen 2; have p2 := blk4.cellOf 2 (u := .int .i64 0) rfl; have blk5 := blk4.set_ 2 (.int .i64 n); have q5 := blk5.cellOf 0 (u := .int .u8 1) rfl; have hR5 := hR4.set (p := ⟨w2.heap.size, 2, none⟩) hsr (Nat.le_trans hB hsw) (.int .i64 n); have hs5 := hR5.size; have t5 := (t3.trans t4).setCell (p := ⟨w2.heap.size, 2, none⟩) (.inr hsw) (.int .i64 n); have y1 := blk5.cellOf 1 (u := .int .i64 0) rfl; have y2 := blk5.cellOf 2 (u := .int .i64 n) rfl; clear hR3)
      | (go_at_call 29; refine (refuse_thrown 13 _).mono ?_; rintro e w9 ⟨rfl, rfl⟩))
    exact ⟨rfl, t5, rfl⟩
  · have G := Lib.hid (take_ok B r (1 :: l) 1 _ hA (by simp; omega) (by simp; omega) (by simp))
    clear h hA
    go_enter Try.func24, Try.ntmps24
    go_wp2_with (first
      | (go_at_call 28; refine G.out.mono ?_; rintro e w2 ⟨A2, c2, rfl, hl2, hm2, hh2, hR2, t2⟩; obtain ⟨b2, o2, rfl, hb2, hc2⟩ := hh2 (by simp); have d2 := hc2 0 (by simp); simp only [List.take_succ_cons, List.getD_cons_zero, Nat.add_zero] at d2; have blk := Block.new w2 28 #[.int .u8 1, .int .i64 0, .int .i64 0, .slice none 0 0]; have q0 := blk.cellOf 0 (u := .int .u8 1) rfl; have hs2 := t2.size; have hR3 := hR2.alloc (o := .cells #[.int .u8 1, .int .i64 0, .int .i64 0, .slice none 0 0] 28) (Nat.le_trans hBa hs2); have hs3 := hR3.size; have hsr : ¬ w2.heap.size = r := (by simp at hs2; omega); have hsw : w.heap.size ≤ w2.heap.size := (by simp at hs2; omega); have t3 := (t0.trans t2).alloc (.cells #[.int .u8 1, .int .i64 0, .int .i64 0, .slice none 0 0] 28))
      | (go_at_call 29; refine (refuse_no 13 _).mono ?_; rintro e w3 ⟨rfl, rfl⟩)
      | (have _t := hR3; go_at_call 30; refine (rnum_any B r l _ hR3 hs3 (by omega) ho).mono ?_; clear _t; rintro e w4 ⟨t4, hm4⟩; rw [HN.out] at hm4; obtain ⟨rfl, hR4⟩ := hm4; have blk4 := blk.out t4 hsr; have z2 := blk4.frozen 2; have p2 := blk4.cellOf 2 (u := .int .i64 0) rfl; have blk5 := blk4.set_ 2 (.int .i64 n); have q5 := blk5.cellOf 0 (u := .int .u8 1) rfl; have hR5 := hR4.set (p := ⟨w2.heap.size, 2, none⟩) hsr (Nat.le_trans hB hsw) (.int .i64 n); have hs5 := hR5.size; have t5 := (t3.trans t4).setCell (p := ⟨w2.heap.size, 2, none⟩) (.inr hsw) (.int .i64 n); have y1 := blk5.cellOf 1 (u := .int .i64 0) rfl; have y2 := blk5.cellOf 2 (u := .int .i64 n) rfl; clear hR3)
      | (go_at_call 29; refine (refuse_thrown 13 _).mono ?_; rintro e w9 ⟨rfl, rfl⟩))
    exact ⟨rfl, t5, rfl⟩

set_option maxRecDepth 100000 in
set_option maxHeartbeats 3200000 in
theorem step_wide2 (B r : Nat) (k : Int) (l : List Int) (n : Int) (r1 : List Int) (f : Int) (r2 : List Int) (w : World) (h : Rest w B r (k :: l)) (hB : B ≤ w.heap.size) (hr : r < w.heap.size) (hl : l.length ≤ 999999) (ho : Octets l) (hn : numG 5 1 0 l = .ok (n, r1)) (hl1 : r1.length ≤ 1000000) (ho1 : Octets r1) (hk : k = 2 ∨ k = 3) (hf : numG 5 1 0 r1 = .ok (f, r2)) (hx : n < 1 ∨ 1 ≤ n ∧ 4096 < n ∨ 1 ≤ n ∧ n ≤ 4096 ∧ 2147483647 < f) :
    Calls Try.prog 24 #[.pointer (some ⟨r, 0, none⟩)] w (StepTold B r w (.error 13)) := by
  have hA := h.alloc hB (.cells #[.int .u8 0, .int .i64 0, .int .i64 0, .slice none 0 0] 28)
  have t0 := (TurnsIn.refl (· = r) w).alloc (.cells #[.int .u8 0, .int .i64 0, .int .i64 0, .slice none 0 0] 28)
  have hBa : B ≤ (w.alloc (.cells #[.int .u8 0, .int .i64 0, .int .i64 0, .slice none 0 0] 28)).heap.size := by simp; omega
  have HN := Lib.hid hn
  clear hn
  have HF := Lib.hid hf
  clear hf
  rcases hk with rfl | rfl
  all_goals rcases hx with g | ⟨g1, g2⟩ | ⟨g1, g2, g3⟩
  · have G := Lib.hid (take_ok B r (2 :: l) 1 _ hA (by simp; omega) (by simp; omega) (by simp))
    clear h hA
    go_enter Try.func24, Try.ntmps24
    go_wp2_with (first
      | (go_at_call 28; refine G.out.mono ?_; rintro e w2 ⟨A2, c2, rfl, hl2, hm2, hh2, hR2, t2⟩; obtain ⟨b2, o2, rfl, hb2, hc2⟩ := hh2 (by simp); have d2 := hc2 0 (by simp); simp only [List.take_succ_cons, List.getD_cons_zero, Nat.add_zero] at d2; have blk := Block.new w2 28 #[.int .u8 2, .int .i64 0, .int .i64 0, .slice none 0 0]; have q0 := blk.cellOf 0 (u := .int .u8 2) rfl; have hs2 := t2.size; have hR3 := hR2.alloc (o := .cells #[.int .u8 2, .int .i64 0, .int .i64 0, .slice none 0 0] 28) (Nat.le_trans hBa hs2); have hs3 := hR3.size; have hsr : ¬ w2.heap.size = r := (by simp at hs2; omega); have hsw : w.heap.size ≤ w2.heap.size := (by simp at hs2; omega); have t3 := (t0.trans t2).alloc (.cells #[.int .u8 2, .int .i64 0, .int .i64 0, .slice none 0 0] 28))
      | (go_at_call 29; refine (refuse_no 13 _).mono ?_; rintro e w3 ⟨rfl, rfl⟩)
      | (have _t := hR3; go_at_call 30; refine (rnum_any B r l _ hR3 hs3 (by omega) ho).mono ?_; clear _t; rintro e w4 ⟨t4, hm4⟩; rw [HN.out] at hm4; obtain ⟨rfl, hR4⟩ := hm4; have blk4 := blk.out t4 hsr; have z2 := blk4.frozen 2; have p2 := blk4.cellOf 2 (u := .int .i64 0) rfl; have blk5 := blk4.set_ 2 (.int .i64 n); have q5 := blk5.cellOf 0 (u := .int .u8 2) rfl; have hR5 := hR4.set (p := ⟨w2.heap.size, 2, none⟩) hsr (Nat.le_trans hB hsw) (.int .i64 n); have hs5 := hR5.size; have t5 := (t3.trans t4).setCell (p := ⟨w2.heap.size, 2, none⟩) (.inr hsw) (.int .i64 n); have y1 := blk5.cellOf 1 (u := .int .i64 0) rfl; have y2 := blk5.cellOf 2 (u := .int .i64 n) rfl; clear hR3)
      | (have _t := hR5; go_at_call 30; refine (rnum_any B r r1 _ hR5 hs5 hl1 ho1).mono ?_; clear _t; rintro e w6 ⟨t6, hm6⟩; rw [HF.out] at hm6; obtain ⟨rfl, hR6⟩ := hm6; have blk6 := blk5.out t6 hsr; have z1 := blk6.frozen 1; have p1 := blk6.cellOf 1 (u := .int .i64 0) rfl; have blk7 := blk6.set_ 1 (.int .i64 f); have q7 := blk7.cellOf 0 (u := .int .u8 2) rfl; have hR7 := hR6.set (p := ⟨w2.heap.size, 1, none⟩) hsr (Nat.le_trans hB hsw) (.int .i64 f); have hs7 := hR7.size; have t7 := (t5.trans t6).setCell (p := ⟨w2.heap.size, 1, none⟩) (.inr hsw) (.int .i64 f); have v1 := blk7.cellOf 1 (u := .int .i64 f) rfl; have v2 := blk7.cellOf 2 (u := .int .i64 n) rfl; clear hR5)
      | (go_at_call 29; refine (refuse_thrown 13 _).mono ?_; rintro e w9 ⟨rfl, rfl⟩))
    exact ⟨rfl, t7, rfl⟩
  · have G := Lib.hid (take_ok B r (2 :: l) 1 _ hA (by simp; omega) (by simp; omega) (by simp))
    clear h hA
    go_enter Try.func24, Try.ntmps24
    go_wp2_with (first
      | (go_at_call 28; refine G.out.mono ?_; rintro e w2 ⟨A2, c2, rfl, hl2, hm2, hh2, hR2, t2⟩; obtain ⟨b2, o2, rfl, hb2, hc2⟩ := hh2 (by simp); have d2 := hc2 0 (by simp); simp only [List.take_succ_cons, List.getD_cons_zero, Nat.add_zero] at d2; have blk := Block.new w2 28 #[.int .u8 2, .int .i64 0, .int .i64 0, .slice none 0 0]; have q0 := blk.cellOf 0 (u := .int .u8 2) rfl; have hs2 := t2.size; have hR3 := hR2.alloc (o := .cells #[.int .u8 2, .int .i64 0, .int .i64 0, .slice none 0 0] 28) (Nat.le_trans hBa hs2); have hs3 := hR3.size; have hsr : ¬ w2.heap.size = r := (by simp at hs2; omega); have hsw : w.heap.size ≤ w2.heap.size := (by simp at hs2; omega); have t3 := (t0.trans t2).alloc (.cells #[.int .u8 2, .int .i64 0, .int .i64 0, .slice none 0 0] 28))
      | (go_at_call 29; refine (refuse_no 13 _).mono ?_; rintro e w3 ⟨rfl, rfl⟩)
      | (have _t := hR3; go_at_call 30; refine (rnum_any B r l _ hR3 hs3 (by omega) ho).mono ?_; clear _t; rintro e w4 ⟨t4, hm4⟩; rw [HN.out] at hm4; obtain ⟨rfl, hR4⟩ := hm4; have blk4 := blk.out t4 hsr; have z2 := blk4.frozen 2; have p2 := blk4.cellOf 2 (u := .int .i64 0) rfl; have blk5 := blk4.set_ 2 (.int .i64 n); have q5 := blk5.cellOf 0 (u := .int .u8 2) rfl; have hR5 := hR4.set (p := ⟨w2.heap.size, 2, none⟩) hsr (Nat.le_trans hB hsw) (.int .i64 n); have hs5 := hR5.size; have t5 := (t3.trans t4).setCell (p := ⟨w2.heap.size, 2, none⟩) (.inr hsw) (.int .i64 n); have y1 := blk5.cellOf 1 (u := .int .i64 0) rfl; have y2 := blk5.cellOf 2 (u := .int .i64 n) rfl; clear hR3)
      | (have _t := hR5; go_at_call 30; refine (rnum_any B r r1 _ hR5 hs5 hl1 ho1).mono ?_; clear _t; rintro e w6 ⟨t6, hm6⟩; rw [HF.out] at hm6; obtain ⟨rfl, hR6⟩ := hm6; have blk6 := blk5.out t6 hsr; have z1 := blk6.frozen 1; have p1 := blk6.cellOf 1 (u := .int .i64 0) rfl; have blk7 := blk6.set_ 1 (.int .i64 f); have q7 := blk7.cellOf 0 (u := .int .u8 2) rfl; have hR7 := hR6.set (p := ⟨w2.heap.size, 1, none⟩) hsr (Nat.le_trans hB hsw) (.int .i64 f); have hs7 := hR7.size; have t7 := (t5.trans t6).setCell (p := ⟨w2.heap.size, 1, none⟩) (.inr hsw) (.int .i64 f); have v1 := blk7.cellOf 1 (u := .int .i64 f) rfl; have v2 := blk7.cellOf 2 (u := .int .i64 n) rfl; clear hR5)
      | (go_at_call 29; refine (refuse_thrown 13 _).mono ?_; rintro e w9 ⟨rfl, rfl⟩))
    exact ⟨rfl, t7, rfl⟩
  · have G := Lib.hid (take_ok B r (2 :: l) 1 _ hA (by simp; omega) (by simp; omega) (by simp))
    clear h hA
    go_enter Try.func24, Try.ntmps24
    go_wp2_with (first
      | (go_at_call 28; refine G.out.mono ?_; rintro e w2 ⟨A2, c2, rfl, hl2, hm2, hh2, hR2, t2⟩; obtain ⟨b2, o2, rfl, hb2, hc2⟩ := hh2 (by simp); have d2 := hc2 0 (by simp); simp only [List.take_succ_cons, List.getD_cons_zero, Nat.add_zero] at d2; have blk := Block.new w2 28 #[.int .u8 2, .int .i64 0, .int .i64 0, .slice none 0 0]; have q0 := blk.cellOf 0 (u := .int .u8 2) rfl; have hs2 := t2.size; have hR3 := hR2.alloc (o := .cells #[.int .u8 2, .int .i64 0, .int .i64 0, .slice none 0 0] 28) (Nat.le_trans hBa hs2); have hs3 := hR3.size; have hsr : ¬ w2.heap.size = r := (by simp at hs2; omega); have hsw : w.heap.size ≤ w2.heap.size := (by simp at hs2; omega); have t3 := (t0.trans t2).alloc (.cells #[.int .u8 2, .int .i64 0, .int .i64 0, .slice none 0 0] 28))
      | (go_at_call 29; refine (refuse_no 13 _).mono ?_; rintro e w3 ⟨rfl, rfl⟩)
      | (have _t := hR3; go_at_call 30; refine (rnum_any B r l _ hR3 hs3 (by omega) ho).mono ?_; clear _t; rintro e w4 ⟨t4, hm4⟩; rw [HN.out] at hm4; obtain ⟨rfl, hR4⟩ := hm4; have blk4 := blk.out t4 hsr; have z2 := blk4.frozen 2; have p2 := blk4.cellOf 2 (u := .int .i64 0) rfl; have blk5 := blk4.set_ 2 (.int .i64 n); have q5 := blk5.cellOf 0 (u := .int .u8 2) rfl; have hR5 := hR4.set (p := ⟨w2.heap.size, 2, none⟩) hsr (Nat.le_trans hB hsw) (.int .i64 n); have hs5 := hR5.size; have t5 := (t3.trans t4).setCell (p := ⟨w2.heap.size, 2, none⟩) (.inr hsw) (.int .i64 n); have y1 := blk5.cellOf 1 (u := .int .i64 0) rfl; have y2 := blk5.cellOf 2 (u := .int .i64 n) rfl; clear hR3)
      | (have _t := hR5; go_at_call 30; refine (rnum_any B r r1 _ hR5 hs5 hl1 ho1).mono ?_; clear _t; rintro e w6 ⟨t6, hm6⟩; rw [HF.out] at hm6; obtain ⟨rfl, hR6⟩ := hm6; have blk6 := blk5.out t6 hsr; have z1 := blk6.frozen 1; have p1 := blk6.cellOf 1 (u := .int .i64 0) rfl; have blk7 := blk6.set_ 1 (.int .i64 f); have q7 := blk7.cellOf 0 (u := .int .u8 2) rfl; have hR7 := hR6.set (p := ⟨w2.heap.size, 1, none⟩) hsr (Nat.le_trans hB hsw) (.int .i64 f); have hs7 := hR7.size; have t7 := (t5.trans t6).setCell (p := ⟨w2.heap.size, 1, none⟩) (.inr hsw) (.int .i64 f); have v1 := blk7.cellOf 1 (u := .int .i64 f) rfl; have v2 := blk7.cellOf 2 (u := .int .i64 n) rfl; clear hR5)
      | (go_at_call 29; refine (refuse_thrown 13 _).mono ?_; rintro e w9 ⟨rfl, rfl⟩))
    exact ⟨rfl, t7, rfl⟩
  · have G := Lib.hid (take_ok B r (3 :: l) 1 _ hA (by simp; omega) (by simp; omega) (by simp))
    clear h hA
    go_enter Try.func24, Try.ntmps24
    go_wp2_with (first
      | (go_at_call 28; refine G.out.mono ?_; rintro e w2 ⟨A2, c2, rfl, hl2, hm2, hh2, hR2, t2⟩; obtain ⟨b2, o2, rfl, hb2, hc2⟩ := hh2 (by simp); have d2 := hc2 0 (by simp); simp only [List.take_succ_cons, List.getD_cons_zero, Nat.add_zero] at d2; have blk := Block.new w2 28 #[.int .u8 3, .int .i64 0, .int .i64 0, .slice none 0 0]; have q0 := blk.cellOf 0 (u := .int .u8 3) rfl; have hs2 := t2.size; have hR3 := hR2.alloc (o := .cells #[.int .u8 3, .int .i64 0, .int .i64 0, .slice none 0 0] 28) (Nat.le_trans hBa hs2); have hs3 := hR3.size; have hsr : ¬ w2.heap.size = r := (by simp at hs2; omega); have hsw : w.heap.size ≤ w2.heap.size := (by simp at hs2; omega); have t3 := (t0.trans t2).alloc (.cells #[.int .u8 3, .int .i64 0, .int .i64 0, .slice none 0 0] 28))
      | (go_at_call 29; refine (refuse_no 13 _).mono ?_; rintro e w3 ⟨rfl, rfl⟩)
      | (have _t := hR3; go_at_call 30; refine (rnum_any B r l _ hR3 hs3 (by omega) ho).mono ?_; clear _t; rintro e w4 ⟨t4, hm4⟩; rw [HN.out] at hm4; obtain ⟨rfl, hR4⟩ := hm4; have blk4 := blk.out t4 hsr; have z2 := blk4.frozen 2; have p2 := blk4.cellOf 2 (u := .int .i64 0) rfl; have blk5 := blk4.set_ 2 (.int .i64 n); have q5 := blk5.cellOf 0 (u := .int .u8 3) rfl; have hR5 := hR4.set (p := ⟨w2.heap.size, 2, none⟩) hsr (Nat.le_trans hB hsw) (.int .i64 n); have hs5 := hR5.size; have t5 := (t3.trans t4).setCell (p := ⟨w2.heap.size, 2, none⟩) (.inr hsw) (.int .i64 n); have y1 := blk5.cellOf 1 (u := .int .i64 0) rfl; have y2 := blk5.cellOf 2 (u := .int .i64 n) rfl; clear hR3)
      | (have _t := hR5; go_at_call 30; refine (rnum_any B r r1 _ hR5 hs5 hl1 ho1).mono ?_; clear _t; rintro e w6 ⟨t6, hm6⟩; rw [HF.out] at hm6; obtain ⟨rfl, hR6⟩ := hm6; have blk6 := blk5.out t6 hsr; have z1 := blk6.frozen 1; have p1 := blk6.cellOf 1 (u := .int .i64 0) rfl; have blk7 := blk6.set_ 1 (.int .i64 f); have q7 := blk7.cellOf 0 (u := .int .u8 3) rfl; have hR7 := hR6.set (p := ⟨w2.heap.size, 1, none⟩) hsr (Nat.le_trans hB hsw) (.int .i64 f); have hs7 := hR7.size; have t7 := (t5.trans t6).setCell (p := ⟨w2.heap.size, 1, none⟩) (.inr hsw) (.int .i64 f); have v1 := blk7.cellOf 1 (u := .int .i64 f) rfl; have v2 := blk7.cellOf 2 (u := .int .i64 n) rfl; clear hR5)
      | (go_at_call 29; refine (refuse_thrown 13 _).mono ?_; rintro e w9 ⟨rfl, rfl⟩))
    exact ⟨rfl, t7, rfl⟩
  · have G := Lib.hid (take_ok B r (3 :: l) 1 _ hA (by simp; omega) (by simp; omega) (by simp))
    clear h hA
    go_enter Try.func24, Try.ntmps24
    go_wp2_with (first
      | (go_at_call 28; refine G.out.mono ?_; rintro e w2 ⟨A2, c2, rfl, hl2, hm2, hh2, hR2, t2⟩; obtain ⟨b2, o2, rfl, hb2, hc2⟩ := hh2 (by simp); have d2 := hc2 0 (by simp); simp only [List.take_succ_cons, List.getD_cons_zero, Nat.add_zero] at d2; have blk := Block.new w2 28 #[.int .u8 3, .int .i64 0, .int .i64 0, .slice none 0 0]; have q0 := blk.cellOf 0 (u := .int .u8 3) rfl; have hs2 := t2.size; have hR3 := hR2.alloc (o := .cells #[.int .u8 3, .int .i64 0, .int .i64 0, .slice none 0 0] 28) (Nat.le_trans hBa hs2); have hs3 := hR3.size; have hsr : ¬ w2.heap.size = r := (by simp at hs2; omega); have hsw : w.heap.size ≤ w2.heap.size := (by simp at hs2; omega); have t3 := (t0.trans t2).alloc (.cells #[.int .u8 3, .int .i64 0, .int .i64 0, .slice none 0 0] 28))
      | (go_at_call 29; refine (refuse_no 13 _).mono ?_; rintro e w3 ⟨rfl, rfl⟩)
      | (have _t := hR3; go_at_call 30; refine (rnum_any B r l _ hR3 hs3 (by omega) ho).mono ?_; clear _t; rintro e w4 ⟨t4, hm4⟩; rw [HN.out] at hm4; obtain ⟨rfl, hR4⟩ := hm4; have blk4 := blk.out t4 hsr; have z2 := blk4.frozen 2; have p2 := blk4.cellOf 2 (u := .int .i64 0) rfl; have blk5 := blk4.set_ 2 (.int .i64 n); have q5 := blk5.cellOf 0 (u := .int .u8 3) rfl; have hR5 := hR4.set (p := ⟨w2.heap.size, 2, none⟩) hsr (Nat.le_trans hB hsw) (.int .i64 n); have hs5 := hR5.size; have t5 := (t3.trans t4).setCell (p := ⟨w2.heap.size, 2, none⟩) (.inr hsw) (.int .i64 n); have y1 := blk5.cellOf 1 (u := .int .i64 0) rfl; have y2 := blk5.cellOf 2 (u := .int .i64 n) rfl; clear hR3)
      | (have _t := hR5; go_at_call 30; refine (rnum_any B r r1 _ hR5 hs5 hl1 ho1).mono ?_; clear _t; rintro e w6 ⟨t6, hm6⟩; rw [HF.out] at hm6; obtain ⟨rfl, hR6⟩ := hm6; have blk6 := blk5.out t6 hsr; have z1 := blk6.frozen 1; have p1 := blk6.cellOf 1 (u := .int .i64 0) rfl; have blk7 := blk6.set_ 1 (.int .i64 f); have q7 := blk7.cellOf 0 (u := .int .u8 3) rfl; have hR7 := hR6.set (p := ⟨w2.heap.size, 1, none⟩) hsr (Nat.le_trans hB hsw) (.int .i64 f); have hs7 := hR7.size; have t7 := (t5.trans t6).setCell (p := ⟨w2.heap.size, 1, none⟩) (.inr hsw) (.int .i64 f); have v1 := blk7.cellOf 1 (u := .int .i64 f) rfl; have v2 := blk7.cellOf 2 (u := .int .i64 n) rfl; clear hR5)
      | (go_at_call 29; refine (refuse_thrown 13 _).mono ?_; rintro e w9 ⟨rfl, rfl⟩))
    exact ⟨rfl, t7, rfl⟩
  · have G := Lib.hid (take_ok B r (3 :: l) 1 _ hA (by simp; omega) (by simp; omega) (by simp))
    clear h hA
    go_enter Try.func24, Try.ntmps24
    go_wp2_with (first
      | (go_at_call 28; refine G.out.mono ?_; rintro e w2 ⟨A2, c2, rfl, hl2, hm2, hh2, hR2, t2⟩; obtain ⟨b2, o2, rfl, hb2, hc2⟩ := hh2 (by simp); have d2 := hc2 0 (by simp); simp only [List.take_succ_cons, List.getD_cons_zero, Nat.add_zero] at d2; have blk := Block.new w2 28 #[.int .u8 3, .int .i64 0, .int .i64 0, .slice none 0 0]; have q0 := blk.cellOf 0 (u := .int .u8 3) rfl; have hs2 := t2.size; have hR3 := hR2.alloc (o := .cells #[.int .u8 3, .int .i64 0, .int .i64 0, .slice none 0 0] 28) (Nat.le_trans hBa hs2); have hs3 := hR3.size; have hsr : ¬ w2.heap.size = r := (by simp at hs2; omega); have hsw : w.heap.size ≤ w2.heap.size := (by simp at hs2; omega); have t3 := (t0.trans t2).alloc (.cells #[.int .u8 3, .int .i64 0, .int .i64 0, .slice none 0 0] 28))
      | (go_at_call 29; refine (refuse_no 13 _).mono ?_; rintro e w3 ⟨rfl, rfl⟩)
      | (have _t := hR3; go_at_call 30; refine (rnum_any B r l _ hR3 hs3 (by omega) ho).mono ?_; clear _t; rintro e w4 ⟨t4, hm4⟩; rw [HN.out] at hm4; obtain ⟨rfl, hR4⟩ := hm4; have blk4 := blk.out t4 hsr; have z2 := blk4.frozen 2; have p2 := blk4.cellOf 2 (u := .int .i64 0) rfl; have blk5 := blk4.set_ 2 (.int .i64 n); have q5 := blk5.cellOf 0 (u := .int .u8 3) rfl; have hR5 := hR4.set (p := ⟨w2.heap.size, 2, none⟩) hsr (Nat.le_trans hB hsw) (.int .i64 n); have hs5 := hR5.size; have t5 := (t3.trans t4).setCell (p := ⟨w2.heap.size, 2, none⟩) (.inr hsw) (.int .i64 n); have y1 := blk5.cellOf 1 (u := .int .i64 0) rfl; have y2 := blk5.cellOf 2 (u := .int .i64 n) rfl; clear hR3)
      | (have _t := hR5; go_at_call 30; refine (rnum_any B r r1 _ hR5 hs5 hl1 ho1).mono ?_; clear _t; rintro e w6 ⟨t6, hm6⟩; rw [HF.out] at hm6; obtain ⟨rfl, hR6⟩ := hm6; have blk6 := blk5.out t6 hsr; have z1 := blk6.frozen 1; have p1 := blk6.cellOf 1 (u := .int .i64 0) rfl; have blk7 := blk6.set_ 1 (.int .i64 f); have q7 := blk7.cellOf 0 (u := .int .u8 3) rfl; have hR7 := hR6.set (p := ⟨w2.heap.size, 1, none⟩) hsr (Nat.le_trans hB hsw) (.int .i64 f); have hs7 := hR7.size; have t7 := (t5.trans t6).setCell (p := ⟨w2.heap.size, 1, none⟩) (.inr hsw) (.int .i64 f); have v1 := blk7.cellOf 1 (u := .int .i64 f) rfl; have v2 := blk7.cellOf 2 (u := .int .i64 n) rfl; clear hR5)
      | (go_at_call 29; refine (refuse_thrown 13 _).mono ?_; rintro e w9 ⟨rfl, rfl⟩))
    exact ⟨rfl, t7, rfl⟩
end Go.Proofs.Ytjcofmeknpgjnaa.Pl
