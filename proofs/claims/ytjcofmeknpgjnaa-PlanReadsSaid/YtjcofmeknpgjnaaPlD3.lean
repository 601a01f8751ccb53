/-
  Layer 16, plan: the document's reading of a step: its bytes. Conditions: as each theorem names.
-/
import Derived.Test.YtjcofmeknpgjnaaPlD2
import Derived.RegionTactic
namespace Go.Proofs.Ytjcofmeknpgjnaa.Pl
open Go.ChangeShapes Go.WideShapes Go.ChangeAt Go.RowKit Go.Proofs.Ytjcofmeknpgjnaa.Kit

theorem _root_.Go.Proofs.Ytjcofmeknpgjnaa.Kit.Block.drew1 {w : World} {g : Nat} {t : TypeId} {cs : Array Value} (h : Block w g t cs) : Block w.drew g t cs := h

set_option maxRecDepth 100000 in
set_option maxHeartbeats 3200000 in
theorem dstep_lit (B b off : Nat) (xs : List Int) (c at_ : Nat) (k : Int) (l : List Int) (w : World) (hl : xs.length ≤ 1000000) (hc : xs.length ≤ c) (hm : c ≤ maxLen) (ho : Octets xs) (hr : Holds w B .u8 (some ⟨b, off, none⟩) xs) (hB : B ≤ w.heap.size) (hb : b < w.heap.size) (hdr : xs.drop at_ = k :: l) (ys r9 : List Int) (hn : numG 5 1 0 l = .ok ((ys.length : Int), ys ++ r9)) (hk : k = 1) (hn1 : 1 ≤ ys.length ∧ ys.length ≤ 4096) :
    Calls Try.prog 25 #[.slice (some ⟨b, off, none⟩) xs.length c, .int .i64 at_] w (DTold B xs.length w (.ok (⟨k, 0, ys.length, ys⟩, r9))) := by
  obtain ⟨hat, hk0, hdl⟩ := drop_cons hdr
  have hb2 : Below w.heap.size w ((w.alloc (.cells #[.int .u8 0, .int .i64 0, .int .i64 0, .slice none 0 0] 28)).alloc (.cells #[.int .u8 k, .int .i64 0, .int .i64 0, .slice none 0 0] 28)) := ((Below.refl _ _).alloc (Nat.le_refl _) _).alloc (by simp) _
  have b4 := (Block.new w 28 #[.int .u8 0, .int .i64 0, .int .i64 0, .slice none 0 0]).alloc (.cells #[.int .u8 k, .int .i64 0, .int .i64 0, .slice none 0 0] 28)
  have b7 : Block ((w.alloc (.cells #[.int .u8 0, .int .i64 0, .int .i64 0, .slice none 0 0] 28)).alloc (.cells #[.int .u8 k, .int .i64 0, .int .i64 0, .slice none 0 0] 28)) (w.heap.size + 1) 28 #[.int .u8 k, .int .i64 0, .int .i64 0, .slice none 0 0] := by
    have := Block.new (w.alloc (.cells #[.int .u8 0, .int .i64 0, .int .i64 0, .slice none 0 0] 28)) 28 #[.int .u8 k, .int .i64 0, .int .i64 0, .slice none 0 0]
    simpa using this
  have hrW := (hr.below (hb2.mono hB)).more (Nat.le_trans hB hb2.size)
  obtain ⟨b', off', he, _, hcs⟩ := hr (by omega)
  injection he with he
  injection he with e1 e2
  subst e1 e2
  have d0 := hcs at_ hat
  obtain ⟨_, _, he, _, hcs2⟩ := hrW (by omega)
  injection he with he
  injection he with e1 e2
  subst e1 e2
  have d2 := hcs2 at_ hat
  rw [hk0] at d0 d2
  clear hcs hcs2 hdr hk0
  have g0 : decide (k < 1) = false := decide_eq_false (by omega)
  have g1 : decide ((3 : Int) < k) = false := decide_eq_false (by omega)
  obtain ⟨e1, n0, n1⟩ := num_is (fun x hx => ho x (by rw [← List.take_append_drop (at_ + 1) xs, hdl]; exact List.mem_append_right _ hx)) hn
  obtain ⟨m1, hm1⟩ : ∃ m, m + (ys ++ r9).length = xs.length := ⟨xs.length - (ys ++ r9).length, by have := (drop_tail (hdl.trans e1)).1; omega⟩
  have hd1 : xs.drop m1 = ys ++ r9 := by have := (drop_tail (hdl.trans e1)).2; rw [show xs.length - (ys ++ r9).length = m1 by omega] at this; exact this
  have g3 : decide ((ys.length : Int) < 1) = false := decide_eq_false (by omega)
  have g4 : decide ((4096 : Int) < (ys.length : Int)) = false := decide_eq_false (by omega)
  rw [List.length_append] at hm1
  have g2 : decide ((1 : Int) < k) = false := decide_eq_false (by omega)
  have g7 : (k == 2) = false := by rw [beq_eq_false_iff_ne]; omega
  clear hk
  go_enter Try.func25, Try.ntmps25
  go_upto_region 2 with (fail)
  generalize ((w.alloc (.cells #[.int .u8 0, .int .i64 0, .int .i64 0, .slice none 0 0] 28)).alloc (.cells #[.int .u8 k, .int .i64 0, .int .i64 0, .slice none 0 0] 28)) = W at *
  clear d0
  have G := Lib.hid (dnum_ok _ xs c (at_ + 1) (ys.length : Int) (ys ++ r9) W hl hc hm ho hrW (by omega) (by rw [hdl]; exact hn) m1 (by rw [List.length_append]; exact hm1))
  rw [show ((at_ + 1 : Nat) : Int) = (at_ : Int) + 1 by omega] at G
  have z2 := b7.frozen 2
  have p2 := b7.cellOf 2 (u := .int .i64 0) rfl
  have b7b := b7.set_ 2 (.int .i64 ys.length)
  have b4b := Block.far b4 (p := ⟨w.heap.size + 1, 2, none⟩) (by simp) (.int .i64 ys.length)
  have hbb := hb2.setCell (p := ⟨w.heap.size + 1, 2, none⟩) (Nat.le_succ _) (.int .i64 ys.length)
  have q0 := b7b.cellOf 0 (u := .int .u8 k) rfl
  have q1 := b7b.cellOf 1 (u := .int .i64 0) rfl
  have q2 := b7b.cellOf 2 (u := .int .i64 ys.length) rfl
  have q3 := b7b.cellOf 3 (u := .slice none 0 0) rfl
  have g5 : decide ((xs.length : Int) - (m1 : Int) < (ys.length : Int)) = false := decide_eq_false (by omega)
  have hsub := hr.sub m1 ys.length (by omega)
  rw [show (xs.drop m1).take ys.length = ys by rw [hd1]; exact List.take_left] at hsub
  have b7d := b7b.set_ 3 (.slice (some ⟨b, off + m1, none⟩) ys.length (c - m1))
  have z3 := b7b.frozen 3
  have b4d := Block.far b4b (p := ⟨w.heap.size + 1, 3, none⟩) (by simp) (.slice (some ⟨b, off + m1, none⟩) ys.length (c - m1))
  have hbd := hbb.setCell (p := ⟨w.heap.size + 1, 3, none⟩) (Nat.le_succ _) (.slice (some ⟨b, off + m1, none⟩) ys.length (c - m1))
  have r0 := b7d.cellOf 0 (u := .int .u8 k) rfl
  have r1 := b7d.cellOf 1 (u := .int .i64 0) rfl
  have r2 := b7d.cellOf 2 (u := .int .i64 ys.length) rfl
  have r3 := b7d.cellOf 3 (u := .slice (some ⟨b, off + m1, none⟩) ys.length (c - m1)) rfl
  have ez0 := b4d.cellOf 0 (u := .int .u8 0) rfl
  have ez1 := b4d.cellOf 1 (u := .int .i64 0) rfl
  have ez2 := b4d.cellOf 2 (u := .int .i64 0) rfl
  have ez3 := b4d.cellOf 3 (u := .slice none 0 0) rfl
  have ff := fun i => b4d.frozen i
  have b4z := b4d
  have hbz := hbd
  have hmr : xs.length - r9.length = m1 + ys.length := by omega
  have HM := Lib.hid hmr
  clear hmr
  have hlt1 : (m1 : Int) + (ys.length : Int) ≤ (c : Int) := by omega
  have hne1 : ¬ c = m1 := by omega
  have hsl : m1 + ys.length - m1 = ys.length := by omega
  clear hn hd1 hdl e1 n1 hrW
  go_wp2_with (go_at_call 31; refine G.out.mono ?_; rintro e w3 ⟨rfl, rfl⟩; clear G)
  go_region
  all_goals
    go_wp2_with fail
    have b9 := ((((b4z.set_ 0 (.int .u8 k)).set_ 1 (.int .i64 0)).set_ 2 (.int .i64 ys.length)).set_ 3 (.slice (some ⟨b, off + m1, none⟩) ys.length (c - m1))).drew1
    have hb9 := ((((hbz.setCell (p := ⟨w.heap.size, 0, none⟩) (Nat.le_refl _) (.int .u8 k)).setCell (p := ⟨w.heap.size, 1, none⟩) (Nat.le_refl _) (.int .i64 0)).setCell (p := ⟨w.heap.size, 2, none⟩) (Nat.le_refl _) (.int .i64 ys.length)).setCell (p := ⟨w.heap.size, 3, none⟩) (Nat.le_refl _) (.slice (some ⟨b, off + m1, none⟩) ys.length (c - m1))).drew
    have c0 := b9.cellOf 0 (u := .int .u8 k) rfl
    have c1 := b9.cellOf 1 (u := .int .i64 0) rfl
    have c2 := b9.cellOf 2 (u := .int .i64 ys.length) rfl
    have c3 := b9.cellOf 3 (u := .slice (some ⟨b, off + m1, none⟩) ys.length (c - m1)) rfl
    refine bodyPost_ret (v := .tuple #[.agg #[.int .u8 k, .int .i64 0, .int .i64 ys.length, .slice (some ⟨b, off + m1, none⟩) ys.length (c - m1)], .int .i64 ((m1 : Int) + (ys.length : Int)), .int .i64 0]) ?_ rfl ⟨hb9, some ⟨b, off + m1, none⟩, c - m1, by rw [HM.out, Int.natCast_add], (by show ys.length ≤ _; omega), by omega, hsub⟩
    simp [results, Try.results25, go_sem, c0, c1, c2, c3]

set_option maxRecDepth 100000 in
set_option maxHeartbeats 3200000 in
theorem dstep_add (B b off : Nat) (xs : List Int) (c at_ : Nat) (k : Int) (l : List Int) (w : World) (hl : xs.length ≤ 1000000) (hc : xs.length ≤ c) (hm : c ≤ maxLen) (ho : Octets xs) (hr : Holds w B .u8 (some ⟨b, off, none⟩) xs) (hB : B ≤ w.heap.size) (hb : b < w.heap.size) (hdr : xs.drop at_ = k :: l) (ys r1 : List Int) (hn : numG 5 1 0 l = .ok ((ys.length : Int), r1)) (f : Int) (r9 : List Int) (hf : numG 5 1 0 r1 = .ok (f, ys ++ r9)) (hk : k = 3) (hn1 : 1 ≤ ys.length ∧ ys.length ≤ 4096) (hfb : f ≤ 2147483647) :
    Calls Try.prog 25 #[.slice (some ⟨b, off, none⟩) xs.length c, .int .i64 at_] w (DTold B xs.length w (.ok (⟨k, f, ys.length, ys⟩, r9))) := by
  obtain ⟨hat, hk0, hdl⟩ := drop_cons hdr
  have hb2 : Below w.heap.size w ((w.alloc (.cells #[.int .u8 0, .int .i64 0, .int .i64 0, .slice none 0 0] 28)).alloc (.cells #[.int .u8 k, .int .i64 0, .int .i64 0, .slice none 0 0] 28)) := ((Below.refl _ _).alloc (Nat.le_refl _) _).alloc (by simp) _
  have b4 := (Block.new w 28 #[.int .u8 0, .int .i64 0, .int .i64 0, .slice none 0 0]).alloc (.cells #[.int .u8 k, .int .i64 0, .int .i64 0, .slice none 0 0] 28)
  have b7 : Block ((w.alloc (.cells #[.int .u8 0, .int .i64 0, .int .i64 0, .slice none 0 0] 28)).alloc (.cells #[.int .u8 k, .int .i64 0, .int .i64 0, .slice none 0 0] 28)) (w.heap.size + 1) 28 #[.int .u8 k, .int .i64 0, .int .i64 0, .slice none 0 0] := by
    have := Block.new (w.alloc (.cells #[.int .u8 0, .int .i64 0, .int .i64 0, .slice none 0 0] 28)) 28 #[.int .u8 k, .int .i64 0, .int .i64 0, .slice none 0 0]
    simpa using this
  have hrW := (hr.below (hb2.mono hB)).more (Nat.le_trans hB hb2.size)
  obtain ⟨b', off', he, _, hcs⟩ := hr (by omega)
  injection he with he
  injection he with e1 e2
  subst e1 e2
  have d0 := hcs at_ hat
  obtain ⟨_, _, he, _, hcs2⟩ := hrW (by omega)
  injection he with he
  injection he with e1 e2
  subst e1 e2
  have d2 := hcs2 at_ hat
  rw [hk0] at d0 d2
  clear hcs hcs2 hdr hk0
  have g0 : decide (k < 1) = false := decide_eq_false (by omega)
  have g1 : decide ((3 : Int) < k) = false := decide_eq_false (by omega)
  obtain ⟨e1, n0, n1⟩ := num_is (fun x hx => ho x (by rw [← List.take_append_drop (at_ + 1) xs, hdl]; exact List.mem_append_right _ hx)) hn
  obtain ⟨m1, hm1⟩ : ∃ m, m + r1.length = xs.length := ⟨xs.length - r1.length, by have := (drop_tail (hdl.trans e1)).1; omega⟩
  have hd1 : xs.drop m1 = r1 := by have := (drop_tail (hdl.trans e1)).2; rw [show xs.length - r1.length = m1 by omega] at this; exact this
  obtain ⟨e2, f0, f1⟩ := num_is (fun x hx => ho x (by rw [← List.take_append_drop m1 xs, hd1]; exact List.mem_append_right _ hx)) hf
  obtain ⟨m2, hm2⟩ : ∃ m, m + (ys ++ r9).length = xs.length := ⟨xs.length - (ys ++ r9).length, by have := (drop_tail (hd1.trans e2)).1; omega⟩
  have hd2 : xs.drop m2 = ys ++ r9 := by have := (drop_tail (hd1.trans e2)).2; rw [show xs.length - (ys ++ r9).length = m2 by omega] at this; exact this
  have g3 : decide ((ys.length : Int) < 1) = false := decide_eq_false (by omega)
  have g4 : decide ((4096 : Int) < (ys.length : Int)) = false := decide_eq_false (by omega)
  have g6 : decide ((2147483647 : Int) < f) = false := decide_eq_false (by omega)
  rw [List.length_append] at hm2
  have g2 : decide ((1 : Int) < k) = true := decide_eq_true (by omega)
  have g7 : (k == 2) = false := by rw [beq_eq_false_iff_ne]; omega
  clear hk
  go_enter Try.func25, Try.ntmps25
  go_upto_region 2 with (fail)
  generalize ((w.alloc (.cells #[.int .u8 0, .int .i64 0, .int .i64 0, .slice none 0 0] 28)).alloc (.cells #[.int .u8 k, .int .i64 0, .int .i64 0, .slice none 0 0] 28)) = W at *
  clear d0
  have G := Lib.hid (dnum_ok _ xs c (at_ + 1) (ys.length : Int) r1 W hl hc hm ho hrW (by omega) (by rw [hdl]; exact hn) m1 hm1)
  rw [show ((at_ + 1 : Nat) : Int) = (at_ : Int) + 1 by omega] at G
  have z2 := b7.frozen 2
  have p2 := b7.cellOf 2 (u := .int .i64 0) rfl
  have b7b := b7.set_ 2 (.int .i64 ys.length)
  have b4b := Block.far b4 (p := ⟨w.heap.size + 1, 2, none⟩) (by simp) (.int .i64 ys.length)
  have hbb := hb2.setCell (p := ⟨w.heap.size + 1, 2, none⟩) (Nat.le_succ _) (.int .i64 ys.length)
  have hrS := (hr.below (hbb.mono hB)).more (Nat.le_trans hB hbb.size)
  have G2 := Lib.hid (dnum_ok _ xs c m1 f (ys ++ r9) (W.setCell ⟨w.heap.size + 1, 2, none⟩ (.int .i64 ys.length)) hl hc hm ho hrS (by omega) (by rw [hd1]; exact hf) m2 (by rw [List.length_append]; exact hm2))
  have z1 := b7b.frozen 1
  have p1 := b7b.cellOf 1 (u := .int .i64 0) rfl
  have b7c := b7b.set_ 1 (.int .i64 f)
  have b4c := Block.far b4b (p := ⟨w.heap.size + 1, 1, none⟩) (by simp) (.int .i64 f)
  have hbc := hbb.setCell (p := ⟨w.heap.size + 1, 1, none⟩) (Nat.le_succ _) (.int .i64 f)
  have y0 := b7b.cellOf 0 (u := .int .u8 k) rfl
  have y1 := b7b.cellOf 1 (u := .int .i64 0) rfl
  have y2 := b7b.cellOf 2 (u := .int .i64 ys.length) rfl
  have y3 := b7b.cellOf 3 (u := .slice none 0 0) rfl
  have q0 := b7c.cellOf 0 (u := .int .u8 k) rfl
  have q1 := b7c.cellOf 1 (u := .int .i64 f) rfl
  have q2 := b7c.cellOf 2 (u := .int .i64 ys.length) rfl
  have q3 := b7c.cellOf 3 (u := .slice none 0 0) rfl
  have g5 : decide ((xs.length : Int) - (m2 : Int) < (ys.length : Int)) = false := decide_eq_false (by omega)
  have hsub := hr.sub m2 ys.length (by omega)
  rw [show (xs.drop m2).take ys.length = ys by rw [hd2]; exact List.take_left] at hsub
  have b7d := b7c.set_ 3 (.slice (some ⟨b, off + m2, none⟩) ys.length (c - m2))
  have z3 := b7c.frozen 3
  have b4d := Block.far b4c (p := ⟨w.heap.size + 1, 3, none⟩) (by simp) (.slice (some ⟨b, off + m2, none⟩) ys.length (c - m2))
  have hbd := hbc.setCell (p := ⟨w.heap.size + 1, 3, none⟩) (Nat.le_succ _) (.slice (some ⟨b, off + m2, none⟩) ys.length (c - m2))
  have r0 := b7d.cellOf 0 (u := .int .u8 k) rfl
  have r1 := b7d.cellOf 1 (u := .int .i64 f) rfl
  have r2 := b7d.cellOf 2 (u := .int .i64 ys.length) rfl
  have r3 := b7d.cellOf 3 (u := .slice (some ⟨b, off + m2, none⟩) ys.length (c - m2)) rfl
  have ez0 := b4d.cellOf 0 (u := .int .u8 0) rfl
  have ez1 := b4d.cellOf 1 (u := .int .i64 0) rfl
  have ez2 := b4d.cellOf 2 (u := .int .i64 0) rfl
  have ez3 := b4d.cellOf 3 (u := .slice none 0 0) rfl
  have ff := fun i => b4d.frozen i
  have b4z := b4d
  have hbz := hbd
  have hmr : xs.length - r9.length = m2 + ys.length := by omega
  have HM := Lib.hid hmr
  clear hmr
  have hlt1 : (m2 : Int) + (ys.length : Int) ≤ (c : Int) := by omega
  have hne1 : ¬ c = m2 := by omega
  have hsl : m2 + ys.length - m2 = ys.length := by omega
  clear hn hf hd1 hdl e1 n1 e2 f1 hrS hrW hd2
  go_wp2_with (first
    | (go_at_call 31; refine G.out.mono ?_; rintro e w3 ⟨rfl, rfl⟩; clear G)
    | (have _t := G2; go_at_call 31; refine G2.out.mono ?_; clear _t; rintro e w3 ⟨rfl, rfl⟩)
)
  go_region
  all_goals
    go_wp2_with fail
    have b9 := ((((b4z.set_ 0 (.int .u8 k)).set_ 1 (.int .i64 f)).set_ 2 (.int .i64 ys.length)).set_ 3 (.slice (some ⟨b, off + m2, none⟩) ys.length (c - m2))).drew1
    have hb9 := ((((hbz.setCell (p := ⟨w.heap.size, 0, none⟩) (Nat.le_refl _) (.int .u8 k)).setCell (p := ⟨w.heap.size, 1, none⟩) (Nat.le_refl _) (.int .i64 f)).setCell (p := ⟨w.heap.size, 2, none⟩) (Nat.le_refl _) (.int .i64 ys.length)).setCell (p := ⟨w.heap.size, 3, none⟩) (Nat.le_refl _) (.slice (some ⟨b, off + m2, none⟩) ys.length (c - m2))).drew
    have c0 := b9.cellOf 0 (u := .int .u8 k) rfl
    have c1 := b9.cellOf 1 (u := .int .i64 f) rfl
    have c2 := b9.cellOf 2 (u := .int .i64 ys.length) rfl
    have c3 := b9.cellOf 3 (u := .slice (some ⟨b, off + m2, none⟩) ys.length (c - m2)) rfl
    refine bodyPost_ret (v := .tuple #[.agg #[.int .u8 k, .int .i64 f, .int .i64 ys.length, .slice (some ⟨b, off + m2, none⟩) ys.length (c - m2)], .int .i64 ((m2 : Int) + (ys.length : Int)), .int .i64 0]) ?_ rfl ⟨hb9, some ⟨b, off + m2, none⟩, c - m2, by rw [HM.out, Int.natCast_add], (by show ys.length ≤ _; omega), by omega, hsub⟩
    simp [results, Try.results25, go_sem, c0, c1, c2, c3]

end Go.Proofs.Ytjcofmeknpgjnaa.Pl
