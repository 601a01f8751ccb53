/-
  Layer 16, plan: what takes a step of a writing: bytes. Conditions: as each theorem names.
-/
import Derived.Test.YtjcofmeknpgjnaaPlS4
namespace Go.Proofs.Ytjcofmeknpgjnaa.Pl
open Go.ChangeShapes Go.WideShapes Go.ChangeAt Go.RowKit Go.Proofs.Ytjcofmeknpgjnaa.Kit

theorem Rest.out {S : Nat → Prop} {w w' : World} {B r : Nat} {xs : List Int} (h : Rest w B r xs) (t : TurnsIn S w w') (hS : ∀ b, ¬ S b) : Rest w' B r xs := by
  have hB := h.size
  obtain ⟨h1, A, c, blk, h2, h3, h4⟩ := h
  exact ⟨h1, A, c, blk.out t (hS r), h2, h3, h4.below (t.toBelow hB fun b _ => hS b)⟩

set_option maxRecDepth 100000 in
set_option maxHeartbeats 6400000 in
theorem step_lit (B r : Nat) (k : Int) (l : List Int) (ys r2 : List Int)  (w : World) (h : Rest w B r (k :: l)) (hB : B ≤ w.heap.size) (hr : r < w.heap.size) (hl : l.length ≤ 999999) (ho : Octets l) (hn : numG 5 1 0 l = .ok ((ys.length : Int), ys ++ r2)) (hlr : (ys ++ r2).length ≤ 1000000) (hn1 : 1 ≤ ys.length ∧ ys.length ≤ 4096) (hk : k = 1) :
    Calls Try.prog 24 #[.pointer (some ⟨r, 0, none⟩)] w (StepTold B r w (.ok (⟨1, 0, ys.length, ys⟩, r2))) := by
  have hA := h.alloc hB (.cells #[.int .u8 0, .int .i64 0, .int .i64 0, .slice none 0 0] 28)
  have t0 := (TurnsIn.refl (· = r) w).alloc (.cells #[.int .u8 0, .int .i64 0, .int .i64 0, .slice none 0 0] 28)
  have hBa : B ≤ (w.alloc (.cells #[.int .u8 0, .int .i64 0, .int .i64 0, .slice none 0 0] 28)).heap.size := by simp; omega
  have HN := Lib.hid hn
  clear hn
  have rb := Block.new w 28 #[.int .u8 0, .int .i64 0, .int .i64 0, .slice none 0 0]
  have hrw : ¬ w.heap.size = r := by omega
  subst hk
  have g0 : decide ((ys.length : Int) < 1) = false := decide_eq_false (by omega)
  have g3 : decide ((4096 : Int) < (ys.length : Int)) = false := decide_eq_false (by omega)
  · have G := Lib.hid (take_ok B r (1 :: l) 1 _ hA (by simp; omega) (by simp; omega) (by simp))
    clear h hA
    go_enter Try.func24, Try.ntmps24
    go_wp2_with (first
      | (have _t := own0; at_builtin; refine wpList_append_out (xs := []) (ys := ys) _ rfl _ _ _ rfl elem8 own0 rfl rfl hh8 (by simp; omega) hs8 ?_; clear _t; intro A9 c9 w9 own9 t9 n9; simp only [List.length_nil, Nat.zero_add, List.nil_append] at own9; have hno : ∀ b, ¬ (Value.slice none 0 0).ownBlock = some b := (fun b hb => nomatch hb); have t9' := t9.mono (T := fun b => b = r) (fun b _ hb => absurd hb (hno b)); have blk9 := blk8.apart own0 (by decide) t9; have rb9 := rb8.apart own0 (by decide) t9; have hR9 := hR8.out t9 hno; have z3 := blk9.frozen 3; have p3 := blk9.cellOf 3 (u := .slice none 0 0) rfl; have blkA := blk9.set_ 3 (.slice A9 ys.length c9); have rbA := rb9.far (p := ⟨w2.heap.size, 3, none⟩) hws (.slice A9 ys.length c9); have hRA := hR9.set (p := ⟨w2.heap.size, 3, none⟩) hsr (Nat.le_trans hB hsw) (.slice A9 ys.length c9); have tA := (t58.trans t9').setCell (p := ⟨w2.heap.size, 3, none⟩) (.inr hsw) (.slice A9 ys.length c9); have ownA := own9.out ((TurnsIn.refl (· = w2.heap.size) w9).setCell (p := ⟨w2.heap.size, 3, none⟩) (.inl rfl) (.slice A9 ys.length c9)) (fun b hb he => own9.ne_block blk9 (by decide) (he ▸ hb)); have v0 := blkA.cellOf 0 (u := .int .u8 1) rfl; have v1' := blkA.cellOf 1 (u := .int .i64 0) rfl; have v2' := blkA.cellOf 2 (u := .int .i64 (ys.length : Int)) rfl; have v3' := blkA.cellOf 3 (u := .slice A9 ys.length c9) rfl; have e0' := rbA.cellOf 0 (u := .int .u8 0) rfl; have e1' := rbA.cellOf 1 (u := .int .i64 0) rfl; have e2' := rbA.cellOf 2 (u := .int .i64 0) rfl; have e3' := rbA.cellOf 3 (u := .slice none 0 0) rfl; have ff' := (fun i => rbA.frozen i); clear own0)
      | (have _t := hR5; go_at_call 28; refine (take_ok B r (ys ++ r2) ys.length _ hR5 hs5 hlr (by simp)).mono ?_; clear _t; rintro e w8 ⟨A8, c8, rfl, hl8, hm8, hh8, hR8, t8⟩; rw [List.take_left] at hh8; rw [List.drop_left] at hR8; have blk8 := blk5.out t8 hsr; have rb8 := rb5.out t8 hrw; have own0 := Own.nil w8 w.heap.size 5 .u8; have t58 := t5.trans t8; have hs8 := t58.size; clear hR5)
      | (go_at_call 28; refine G.out.mono ?_; rintro e w2 ⟨A2, c2, rfl, hl2, hm2, hh2, hR2, t2⟩; obtain ⟨b2, o2, rfl, hb2, hc2⟩ := hh2 (by simp); have d2 := hc2 0 (by simp); simp only [List.take_succ_cons, List.getD_cons_zero, Nat.add_zero] at d2; have blk := Block.new w2 28 #[.int .u8 1, .int .i64 0, .int .i64 0, .slice none 0 0]; have q0 := blk.cellOf 0 (u := .int .u8 1) rfl; have hs2 := t2.size; have hR3 := hR2.alloc (o := .cells #[.int .u8 1, .int .i64 0, .int .i64 0, .slice none 0 0] 28) (Nat.le_trans hBa hs2); have hs3 := hR3.size; have hsr : ¬ w2.heap.size = r := (by simp at hs2; omega); have hsw : w.heap.size ≤ w2.heap.size := (by simp at hs2; omega); have t3 := (t0.trans t2).alloc (.cells #[.int .u8 1, .int .i64 0, .int .i64 0, .slice none 0 0] 28); have hws : w.heap.size ≠ w2.heap.size := (by simp at hs2; omega); have rb3 := (rb.out t2 hrw).alloc (.cells #[.int .u8 1, .int .i64 0, .int .i64 0, .slice none 0 0] 28))
      | (have _t := hR3; go_at_call 30; refine (rnum_any B r l _ hR3 hs3 (by omega) ho).mono ?_; clear _t; rintro e w4 ⟨t4, hm4⟩; rw [HN.out] at hm4; obtain ⟨rfl, hR4⟩ := hm4; have blk4 := blk.out t4 hsr; have z2 := blk4.frozen 2; have p2 := blk4.cellOf 2 (u := .int .i64 0) rfl; have blk5 := blk4.set_ 2 (.int .i64 (ys.length : Int)); have q5 := blk5.cellOf 0 (u := .int .u8 1) rfl; have hR5 := hR4.set (p := ⟨w2.heap.size, 2, none⟩) hsr (Nat.le_trans hB hsw) (.int .i64 (ys.length : Int)); have hs5 := hR5.size; have t5 := (t3.trans t4).setCell (p := ⟨w2.heap.size, 2, none⟩) (.inr hsw) (.int .i64 (ys.length : Int)); have y1 := blk5.cellOf 1 (u := .int .i64 0) rfl; have y2 := blk5.cellOf 2 (u := .int .i64 (ys.length : Int)) rfl; clear hR3; have rb5 := (rb3.out t4 hrw).far (p := ⟨w2.heap.size, 2, none⟩) hws (.int .i64 (ys.length : Int)); have b53 := blk5.cellOf 3 (u := .slice none 0 0) rfl)
      | (go_at_call 29; refine (refuse_no 13 _).mono ?_; rintro e w3 ⟨rfl, rfl⟩))
    have b9 := ((((rbA.set_ 0 (.int .u8 1)).set_ 1 (.int .i64 0)).set_ 2 (.int .i64 (ys.length : Int))).set_ 3 (.slice A9 ys.length c9))
    have t9z := ((((tA.setCell (p := ⟨w.heap.size, 0, none⟩) (.inr (Nat.le_refl _)) (.int .u8 1)).setCell (p := ⟨w.heap.size, 1, none⟩) (.inr (Nat.le_refl _)) (.int .i64 0)).setCell (p := ⟨w.heap.size, 2, none⟩) (.inr (Nat.le_refl _)) (.int .i64 (ys.length : Int))).setCell (p := ⟨w.heap.size, 3, none⟩) (.inr (Nat.le_refl _)) (.slice A9 ys.length c9))
    have hR9z := ((((hRA.set (p := ⟨w.heap.size, 0, none⟩) hrw hB (.int .u8 1)).set (p := ⟨w.heap.size, 1, none⟩) hrw hB (.int .i64 0)).set (p := ⟨w.heap.size, 2, none⟩) hrw hB (.int .i64 (ys.length : Int))).set (p := ⟨w.heap.size, 3, none⟩) hrw hB (.slice A9 ys.length c9))
    have own9z := ownA.out (((((TurnsIn.refl (· = w.heap.size) _).setCell (p := ⟨w.heap.size, 0, none⟩) (.inl rfl) (.int .u8 1)).setCell (p := ⟨w.heap.size, 1, none⟩) (.inl rfl) (.int .i64 0)).setCell (p := ⟨w.heap.size, 2, none⟩) (.inl rfl) (.int .i64 (ys.length : Int))).setCell (p := ⟨w.heap.size, 3, none⟩) (.inl rfl) (.slice A9 ys.length c9)) (fun b hb he => ownA.ne_block rbA (by decide) (he ▸ hb))
    obtain ⟨A7, c7, hv7, hl7, hm7, _⟩ := own9z.opened
    injection hv7 with e1 e2 e3
    subst e1 e3
    have c0 := b9.cellOf 0 (u := .int .u8 1) rfl
    have c1 := b9.cellOf 1 (u := .int .i64 0) rfl
    have c2 := b9.cellOf 2 (u := .int .i64 (ys.length : Int)) rfl
    have c3 := b9.cellOf 3 (u := .slice A9 ys.length c9) rfl
    refine bodyPost_ret (v := .agg #[.int .u8 1, .int .i64 0, .int .i64 (ys.length : Int), .slice A9 ys.length c9]) ?_ rfl ⟨t9z, A9, c9, rfl, hl7, hm7, own9z, hR9z⟩
    simp [results, Try.results24, go_sem, c0, c1, c2, c3]

set_option maxRecDepth 100000 in
set_option maxHeartbeats 6400000 in
theorem step_add (B r : Nat) (k : Int) (l : List Int) (ys r2 : List Int) (f : Int) (r1 : List Int) (w : World) (h : Rest w B r (k :: l)) (hB : B ≤ w.heap.size) (hr : r < w.heap.size) (hl : l.length ≤ 999999) (ho : Octets l) (hn : numG 5 1 0 l = .ok ((ys.length : Int), r1)) (hlr : (ys ++ r2).length ≤ 1000000) (hn1 : 1 ≤ ys.length ∧ ys.length ≤ 4096) (hk : k = 3) (hl1 : r1.length ≤ 1000000) (ho1 : Octets r1) (hf : numG 5 1 0 r1 = .ok (f, ys ++ r2)) (hfb : f ≤ 2147483647) :
    Calls Try.prog 24 #[.pointer (some ⟨r, 0, none⟩)] w (StepTold B r w (.ok (⟨3, f, ys.length, ys⟩, r2))) := by
  have hA := h.alloc hB (.cells #[.int .u8 0, .int .i64 0, .int .i64 0, .slice none 0 0] 28)
  have t0 := (TurnsIn.refl (· = r) w).alloc (.cells #[.int .u8 0, .int .i64 0, .int .i64 0, .slice none 0 0] 28)
  have hBa : B ≤ (w.alloc (.cells #[.int .u8 0, .int .i64 0, .int .i64 0, .slice none 0 0] 28)).heap.size := by simp; omega
  have HN := Lib.hid hn
  clear hn
  have rb := Block.new w 28 #[.int .u8 0, .int .i64 0, .int .i64 0, .slice none 0 0]
  have hrw : ¬ w.heap.size = r := by omega
  have HF := Lib.hid hf
  clear hf
  subst hk
  have g0 : decide ((ys.length : Int) < 1) = false := decide_eq_false (by omega)
  have g3 : decide ((4096 : Int) < (ys.length : Int)) = false := decide_eq_false (by omega)
  have g4 : decide ((2147483647 : Int) < f) = false := decide_eq_false (by omega)
  · have G := Lib.hid (take_ok B r (3 :: l) 1 _ hA (by simp; omega) (by simp; omega) (by simp))
    clear h hA
    go_enter Try.func24, Try.ntmps24
    go_wp2_with (first
      | (have _t := own0; at_builtin; refine wpList_append_out (xs := []) (ys := ys) _ rfl _ _ _ rfl elem8 own0 rfl rfl hh8 (by simp; omega) hs8 ?_; clear _t; intro A9 c9 w9 own9 t9 n9; simp only [List.length_nil, Nat.zero_add, List.nil_append] at own9; have hno : ∀ b, ¬ (Value.slice none 0 0).ownBlock = some b := (fun b hb => nomatch hb); have t9' := t9.mono (T := fun b => b = r) (fun b _ hb => absurd hb (hno b)); have blk9 := blk8.apart own0 (by decide) t9; have rb9 := rb8.apart own0 (by decide) t9; have hR9 := hR8.out t9 hno; have z3 := blk9.frozen 3; have p3 := blk9.cellOf 3 (u := .slice none 0 0) rfl; have blkA := blk9.set_ 3 (.slice A9 ys.length c9); have rbA := rb9.far (p := ⟨w2.heap.size, 3, none⟩) hws (.slice A9 ys.length c9); have hRA := hR9.set (p := ⟨w2.heap.size, 3, none⟩) hsr (Nat.le_trans hB hsw) (.slice A9 ys.length c9); have tA := (t58.trans t9').setCell (p := ⟨w2.heap.size, 3, none⟩) (.inr hsw) (.slice A9 ys.length c9); have ownA := own9.out ((TurnsIn.refl (· = w2.heap.size) w9).setCell (p := ⟨w2.heap.size, 3, none⟩) (.inl rfl) (.slice A9 ys.length c9)) (fun b hb he => own9.ne_block blk9 (by decide) (he ▸ hb)); have v0 := blkA.cellOf 0 (u := .int .u8 3) rfl; have v1' := blkA.cellOf 1 (u := .int .i64 f) rfl; have v2' := blkA.cellOf 2 (u := .int .i64 (ys.length : Int)) rfl; have v3' := blkA.cellOf 3 (u := .slice A9 ys.length c9) rfl; have e0' := rbA.cellOf 0 (u := .int .u8 0) rfl; have e1' := rbA.cellOf 1 (u := .int .i64 0) rfl; have e2' := rbA.cellOf 2 (u := .int .i64 0) rfl; have e3' := rbA.cellOf 3 (u := .slice none 0 0) rfl; have ff' := (fun i => rbA.frozen i); clear own0)
      | (have _t := hR7; go_at_call 28; refine (take_ok B r (ys ++ r2) ys.length _ hR7 hs7 hlr (by simp)).mono ?_; clear _t; rintro e w8 ⟨A8, c8, rfl, hl8, hm8, hh8, hR8, t8⟩; rw [List.take_left] at hh8; rw [List.drop_left] at hR8; have blk8 := blk7.out t8 hsr; have rb8 := rb7.out t8 hrw; have own0 := Own.nil w8 w.heap.size 5 .u8; have t58 := t7.trans t8; have hs8 := t58.size; clear hR7)
      | (go_at_call 28; refine G.out.mono ?_; rintro e w2 ⟨A2, c2, rfl, hl2, hm2, hh2, hR2, t2⟩; obtain ⟨b2, o2, rfl, hb2, hc2⟩ := hh2 (by simp); have d2 := hc2 0 (by simp); simp only [List.take_succ_cons, List.getD_cons_zero, Nat.add_zero] at d2; have blk := Block.new w2 28 #[.int .u8 3, .int .i64 0, .int .i64 0, .slice none 0 0]; have q0 := blk.cellOf 0 (u := .int .u8 3) rfl; have hs2 := t2.size; have hR3 := hR2.alloc (o := .cells #[.int .u8 3, .int .i64 0, .int .i64 0, .slice none 0 0] 28) (Nat.le_trans hBa hs2); have hs3 := hR3.size; have hsr : ¬ w2.heap.size = r := (by simp at hs2; omega); have hsw : w.heap.size ≤ w2.heap.size := (by simp at hs2; omega); have t3 := (t0.trans t2).alloc (.cells #[.int .u8 3, .int .i64 0, .int .i64 0, .slice none 0 0] 28); have hws : w.heap.size ≠ w2.heap.size := (by simp at hs2; omega); have rb3 := (rb.out t2 hrw).alloc (.cells #[.int .u8 3, .int .i64 0, .int .i64 0, .slice none 0 0] 28))
      | (have _t := hR3; go_at_call 30; refine (rnum_any B r l _ hR3 hs3 (by omega) ho).mono ?_; clear _t; rintro e w4 ⟨t4, hm4⟩; rw [HN.out] at hm4; obtain ⟨rfl, hR4⟩ := hm4; have blk4 := blk.out t4 hsr; have z2 := blk4.frozen 2; have p2 := blk4.cellOf 2 (u := .int .i64 0) rfl; have blk5 := blk4.set_ 2 (.int .i64 (ys.length : Int)); have q5 := blk5.cellOf 0 (u := .int .u8 3) rfl; have hR5 := hR4.set (p := ⟨w2.heap.size, 2, none⟩) hsr (Nat.le_trans hB hsw) (.int .i64 (ys.length : Int)); have hs5 := hR5.size; have t5 := (t3.trans t4).setCell (p := ⟨w2.heap.size, 2, none⟩) (.inr hsw) (.int .i64 (ys.length : Int)); have y1 := blk5.cellOf 1 (u := .int .i64 0) rfl; have y2 := blk5.cellOf 2 (u := .int .i64 (ys.length : Int)) rfl; clear hR3; have rb5 := (rb3.out t4 hrw).far (p := ⟨w2.heap.size, 2, none⟩) hws (.int .i64 (ys.length : Int)); have b53 := blk5.cellOf 3 (u := .slice none 0 0) rfl)
      | (have _t := hR5; go_at_call 30; refine (rnum_any B r r1 _ hR5 hs5 hl1 ho1).mono ?_; clear _t; rintro e w6 ⟨t6, hm6⟩; rw [HF.out] at hm6; obtain ⟨rfl, hR6⟩ := hm6; have blk6 := blk5.out t6 hsr; have z1 := blk6.frozen 1; have p1 := blk6.cellOf 1 (u := .int .i64 0) rfl; have blk7 := blk6.set_ 1 (.int .i64 f); have q7 := blk7.cellOf 0 (u := .int .u8 3) rfl; have hR7 := hR6.set (p := ⟨w2.heap.size, 1, none⟩) hsr (Nat.le_trans hB hsw) (.int .i64 f); have hs7 := hR7.size; have t7 := (t5.trans t6).setCell (p := ⟨w2.heap.size, 1, none⟩) (.inr hsw) (.int .i64 f); have v1 := blk7.cellOf 1 (u := .int .i64 f) rfl; have v2 := blk7.cellOf 2 (u := .int .i64 (ys.length : Int)) rfl; clear hR5; have rb7 := (rb5.out t6 hrw).far (p := ⟨w2.heap.size, 1, none⟩) hws (.int .i64 f); have v3 := blk7.cellOf 3 (u := .slice none 0 0) rfl; have e0 := rb7.cellOf 0 (u := .int .u8 0) rfl; have e1 := rb7.cellOf 1 (u := .int .i64 0) rfl; have e2 := rb7.cellOf 2 (u := .int .i64 0) rfl; have e3 := rb7.cellOf 3 (u := .slice none 0 0) rfl; have ff := fun i => rb7.frozen i)
      | (go_at_call 29; refine (refuse_no 13 _).mono ?_; rintro e w3 ⟨rfl, rfl⟩))
    have b9 := ((((rbA.set_ 0 (.int .u8 3)).set_ 1 (.int .i64 f)).set_ 2 (.int .i64 (ys.length : Int))).set_ 3 (.slice A9 ys.length c9))
    have t9z := ((((tA.setCell (p := ⟨w.heap.size, 0, none⟩) (.inr (Nat.le_refl _)) (.int .u8 3)).setCell (p := ⟨w.heap.size, 1, none⟩) (.inr (Nat.le_refl _)) (.int .i64 f)).setCell (p := ⟨w.heap.size, 2, none⟩) (.inr (Nat.le_refl _)) (.int .i64 (ys.length : Int))).setCell (p := ⟨w.heap.size, 3, none⟩) (.inr (Nat.le_refl _)) (.slice A9 ys.length c9))
    have hR9z := ((((hRA.set (p := ⟨w.heap.size, 0, none⟩) hrw hB (.int .u8 3)).set (p := ⟨w.heap.size, 1, none⟩) hrw hB (.int .i64 f)).set (p := ⟨w.heap.size, 2, none⟩) hrw hB (.int .i64 (ys.length : Int))).set (p := ⟨w.heap.size, 3, none⟩) hrw hB (.slice A9 ys.length c9))
    have own9z := ownA.out (((((TurnsIn.refl (· = w.heap.size) _).setCell (p := ⟨w.heap.size, 0, none⟩) (.inl rfl) (.int .u8 3)).setCell (p := ⟨w.heap.size, 1, none⟩) (.inl rfl) (.int .i64 f)).setCell (p := ⟨w.heap.size, 2, none⟩) (.inl rfl) (.int .i64 (ys.length : Int))).setCell (p := ⟨w.heap.size, 3, none⟩) (.inl rfl) (.slice A9 ys.length c9)) (fun b hb he => ownA.ne_block rbA (by decide) (he ▸ hb))
    obtain ⟨A7, c7, hv7, hl7, hm7, _⟩ := own9z.opened
    injection hv7 with e1 e2 e3
    subst e1 e3
    have c0 := b9.cellOf 0 (u := .int .u8 3) rfl
    have c1 := b9.cellOf 1 (u := .int .i64 f) rfl
    have c2 := b9.cellOf 2 (u := .int .i64 (ys.length : Int)) rfl
    have c3 := b9.cellOf 3 (u := .slice A9 ys.length c9) rfl
    refine bodyPost_ret (v := .agg #[.int .u8 3, .int .i64 f, .int .i64 (ys.length : Int), .slice A9 ys.length c9]) ?_ rfl ⟨t9z, A9, c9, rfl, hl7, hm7, own9z, hR9z⟩
    simp [results, Try.results24, go_sem, c0, c1, c2, c3]
end Go.Proofs.Ytjcofmeknpgjnaa.Pl
