/-
  Layer 13, inflate: the document's stored blocks: a contract. Conditions: as each theorem names.
-/
import Derived.Test.YthflefdchgpbdaaDoorMGIces25
namespace Go.Proofs.YthflefdchgpbdaaDoor.Inf
open Go.ChangeShapes Go.WideShapes Go.ChangeAt Go.RowKit Go.Proofs.YthflefdchgpbdaaDoor.Kit Go.Proofs.YthflefdchgpbdaaDoor.Bits Go.Proofs.YthflefdchgpbdaaDoor.Huf Go.Proofs.YthflefdchgpbdaaDoor.Df

/-- The numbers ahead of a stored block. -/
structure HeadD (b : List Int) (most : Int) (d d1 d2 d3 d4 d5 : DS) (n m : Int) : Prop where
  h1 : d1 = { d with p := (d.p + 7) / 8 * 8 }
  h2 : numD 16 b d1 = (n, d2)
  h3 : numD 16 b d2 = (m, d3)
  h4 : failD (decide (n + m ≠ 65535)) 11 d3 = d4
  h5 : failD (decide (most - d.out.length < n)) 12 d4 = d5
set_option maxRecDepth 100000 in
set_option maxHeartbeats 6400000 in
theorem stored_any (AL : Option Addr) (bits : List Int) (cL : Nat) (Ao : Option Addr) (co : Nat) (most : Int) (d d1 d2 d3 d4 d5 : DS) (n m : Int) (w : World) (hh : HeadD bits most d d1 d2 d3 d4 d5 n m) (he : d.e = 0) (hp : d.p ≤ bits.length) (h8 : bits.length % 8 = 0)
    (hol : d.out.length ≤ 1000000) (hmo : 0 ≤ most ∧ most ≤ 1000000) (o : Own w 0 5 .u8 (.slice Ao d.out.length co) d.out) (r : Rx w AL bits cL) (f : ∀ a, AL = some a → (Value.slice Ao d.out.length co).ownBlock ≠ some a.block) :
    Calls Tryd.prog 25 #[.agg #[.slice AL bits.length cL, .int .i64 (d.p : Int), .slice Ao d.out.length co, .int .i64 most, .int .i64 d.e]] w (SOut AL bits cL most (.slice Ao d.out.length co) (bytesD bits n.toNat d5) w) := by
  obtain ⟨h1, h2, h3, h4, h5⟩ := hh
  have J0 := So.start2 (most := most) o r f
  have hM := r.m
  have hB := r.b
  have p1 : d1.p ≤ bits.length ∧ d1.out = d.out ∧ (d1.p : Int) = ((d.p : Int) + 7) / 8 * 8 ∧ d1.e = 0 := by subst h1; exact ⟨by simp only; omega, rfl, by simp only; omega, he⟩
  have q2 := numD_le (k := 16) (b := bits) p1.1
  have b2 := numD_bd (k := 16) hB p1.1
  rw [h2] at q2 b2
  simp only at q2 b2
  have q3 := numD_le (k := 16) (b := bits) q2.1
  have b3 := numD_bd (k := 16) hB q2.1
  rw [h3] at q3 b3
  simp only at q3 b3
  rw [show (2 : Int) ^ 16 = 65536 by decide] at b2 b3
  obtain ⟨N, rfl⟩ := Int.eq_ofNat_of_zero_le b2.1
  have q4 := failD_le (decide ((N : Int) + m ≠ 65535)) 11 d3
  rw [h4] at q4
  have q5 := failD_le (decide (most - d.out.length < (N : Int))) 12 d4
  rw [h5] at q5
  have G1 := Lib.hid (fun W => whole_any (d.p : Int) W (by omega))
  have G2 := Lib.hid (fun W R => by have := get_lit AL bits cL Ao d.out.length co most d1 W 16 R (by omega) p1.1; rw [h2] at this; exact this)
  have G3 := Lib.hid (fun W R => by have := get_lit AL bits cL Ao d.out.length co most d2 W 16 R (by omega) q2.1; rw [h3] at this; exact this)
  have G4 := Lib.hid (fun W => by
    have := refuse_lit AL bits cL Ao d.out.length co most d3 W ((N : Int) + m != 65535) 11
    have e4 : failD ((N : Int) + m != 65535) 11 d3 = d4 := by rw [show ((N : Int) + m != 65535) = decide ((N : Int) + m ≠ 65535) by by_cases c : (N : Int) + m = 65535 <;> simp [c]]; exact h4
    rw [e4] at this
    exact this)
  have G5 := Lib.hid (fun W => by have := refuse_lit AL bits cL Ao d.out.length co most d4 W (decide (most - d.out.length < (N : Int))) 12; rw [h5] at this; exact this)
  have E5 : Hid ({ d5 with out := d.out } = d5) := Lib.hid (by rw [show d.out = d5.out by rw [q5.2, q4.2, q3.2, q2.2, p1.2.1]])
  have E1 : Hid ((d1.p : Int) = ((d.p : Int) + 7) / 8 * 8 ∧ d1.e = d.e) := Lib.hid ⟨p1.2.2.1, p1.2.2.2.trans he.symm⟩
  have P5 : Hid (d5.p ≤ bits.length) := Lib.hid (by rw [q5.1, q4.1]; exact q3.1)
  have HL5 : Hid (d5.out.length ≤ 1000000) := Lib.hid (by rw [q5.2, q4.2, q3.2, q2.2, p1.2.1]; exact hol)
  have HE := Lib.hid he
  have H8 := Lib.hid h8
  have hpp : (d.p : Int) ≤ 1000000 := by omega
  have hol2 : (d.out.length : Int) ≤ 1000000 := by omega
  clear he h1 h2 h3 h4 h5 p1 q2 q3 q4 q5 o r f h8
  rw [Int.toNat_natCast]
  obtain ⟨D, hD⟩ : ∃ D, bytesD bits N d5 = D := ⟨_, rfl⟩
  rw [hD]
  have HD0 := Lib.hid hD
  clear hD
  go_enter Tryd.func25, Tryd.ntmps25
  go_upto_region 1 with fail
  generalize (World.alloc (World.alloc w (Obj.cells #[.slice AL bits.length cL, .int .i64 (d.p : Int), .slice Ao d.out.length co, .int .i64 most, .int .i64 d.e] 43)) (Obj.cells #[.slice none 0 0, .int .i64 0, .slice none 0 0, .int .i64 0, .int .i64 0] 43)) = w0 at *
  have k1 : w0.cell? ⟨w.heap.size, 1, none⟩ = some (.int .i64 (d.p : Int)) := J0.x.cell 1
  have f1 := J0.x.frozen 1
  go_upto_region 2 with (have _t := J0; go_at_call 18; refine (G1.out _).mono ?_; rintro e w1 ⟨rfl, rfl⟩; clear _t)
  have X1 := J0.x.set_ 1 (.int .i64 (((d.p : Int) + 7) / 8 * 8))
  have g1 : w0.grownBy (World.setCell w0 ⟨w.heap.size, 1, none⟩ (Value.int .i64 (((d.p : Int) + 7) / 8 * 8))) (some w.heap.size) := grown_cell _ _ _ _
  generalize World.setCell w0 ⟨w.heap.size, 1, none⟩ (Value.int .i64 (((d.p : Int) + 7) / 8 * 8)) = w1 at *
  unfold sC at X1
  simp only [List.setIfInBounds_toArray, List.set_cons_zero, List.set_cons_succ] at X1
  rw [← E1.out.1, ← E1.out.2] at X1
  have J1 := J0.set (d' := { d1 with out := d.out }) g1 rfl X1
  clear k1 f1 J0 X1 g1 G1
  go_upto_region 3 with (first
    | (have _t := J1; refine wpList_load_midV (o := ⟨some 13, _, _, _, _, _⟩) (by rfl) _ _ rfl (w.heap.size) 0 rfl [.slice AL bits.length cL, .int .i64 (d1.p : Int), .slice Ao d.out.length co, .int .i64 most, .int .i64 d1.e] (block_range (L := [.slice AL bits.length cL, .int .i64 (d1.p : Int), .slice Ao d.out.length co, .int .i64 most, .int .i64 d1.e]) J1.x) Tryd.underlying43 rfl (by kernel_rfl) ?_; clear _t)
    | (have _t := J1; go_at_call 24; refine (G2.out _ J1.r).mono ?_; rintro e w2x ⟨rfl, hbx⟩; have J1x := J1.below hbx; clear _t J1 hbx)
    | (have _t := J1x; refine wpList_store_blk rfl _ _ _ rfl (ds := [.slice AL bits.length cL, .int .i64 (d2.p : Int), .slice Ao d.out.length co, .int .i64 most, .int .i64 d2.e]) J1x.x rfl rfl rfl (by kernel_rfl) (by intro u hu; simp only [List.mem_cons, List.not_mem_nil, or_false] at hu; rcases hu with rfl | rfl | rfl | rfl | rfl <;> rfl) ?_; clear _t; intro w2 X9 g9; have Jd2 := J1x.set g9 (d' := { d2 with out := d.out }) rfl X9; clear X9 g9))
  clear J1x
  try simp only [Act.put]
  go_upto_region 4 with (first
    | (have _t := Jd2; refine wpList_load_midV (o := ⟨some 18, _, _, _, _, _⟩) (by rfl) _ _ rfl (w.heap.size) 0 rfl [.slice AL bits.length cL, .int .i64 (d2.p : Int), .slice Ao d.out.length co, .int .i64 most, .int .i64 d2.e] (block_range (L := [.slice AL bits.length cL, .int .i64 (d2.p : Int), .slice Ao d.out.length co, .int .i64 most, .int .i64 d2.e]) Jd2.x) Tryd.underlying43 rfl (by kernel_rfl) ?_; clear _t)
    | (have _t := Jd2; go_at_call 24; refine (G3.out _ Jd2.r).mono ?_; rintro e w3x ⟨rfl, hbx⟩; have Jd2x := Jd2.below hbx; clear _t Jd2 hbx)
    | (have _t := Jd2x; refine wpList_store_blk rfl _ _ _ rfl (ds := [.slice AL bits.length cL, .int .i64 (d3.p : Int), .slice Ao d.out.length co, .int .i64 most, .int .i64 d3.e]) Jd2x.x rfl rfl rfl (by kernel_rfl) (by intro u hu; simp only [List.mem_cons, List.not_mem_nil, or_false] at hu; rcases hu with rfl | rfl | rfl | rfl | rfl <;> rfl) ?_; clear _t; intro w3 X9 g9; have Jd3 := Jd2x.set g9 (d' := { d3 with out := d.out }) rfl X9; clear X9 g9))
  clear Jd2x
  try simp only [Act.put]
  go_upto_region 5 with (first
    | (have _t := Jd3; refine wpList_load_midV (o := ⟨some 22, _, _, _, _, _⟩) (by rfl) _ _ rfl (w.heap.size) 0 rfl [.slice AL bits.length cL, .int .i64 (d3.p : Int), .slice Ao d.out.length co, .int .i64 most, .int .i64 d3.e] (block_range (L := [.slice AL bits.length cL, .int .i64 (d3.p : Int), .slice Ao d.out.length co, .int .i64 most, .int .i64 d3.e]) Jd3.x) Tryd.underlying43 rfl (by kernel_rfl) ?_; clear _t)
    | (have _t := Jd3; go_at_call 17; refine (G4.out _).mono ?_; rintro e w4x ⟨rfl, hbx⟩; have Jd3x := Jd3.below hbx; clear _t Jd3 hbx)
    | (have _t := Jd3x; refine wpList_store_blk rfl _ _ _ rfl (ds := [.slice AL bits.length cL, .int .i64 (d4.p : Int), .slice Ao d.out.length co, .int .i64 most, .int .i64 d4.e]) Jd3x.x rfl rfl rfl (by kernel_rfl) (by intro u hu; simp only [List.mem_cons, List.not_mem_nil, or_false] at hu; rcases hu with rfl | rfl | rfl | rfl | rfl <;> rfl) ?_; clear _t; intro w4 X9 g9; have Jd4 := Jd3x.set g9 (d' := { d4 with out := d.out }) rfl X9; clear X9 g9))
  clear Jd3x
  try simp only [Act.put]
  have k2 : w4.cell? ⟨w.heap.size, 2, none⟩ = some (.slice Ao d.out.length co) := Jd4.x.cell 2
  have k3 : w4.cell? ⟨w.heap.size, 3, none⟩ = some (.int .i64 most) := Jd4.x.cell 3
  go_upto_region 6 with (first
    | (have _t := Jd4; refine wpList_load_midV (o := ⟨some 28, _, _, _, _, _⟩) (by rfl) _ _ rfl (w.heap.size) 0 rfl [.slice AL bits.length cL, .int .i64 (d4.p : Int), .slice Ao d.out.length co, .int .i64 most, .int .i64 d4.e] (block_range (L := [.slice AL bits.length cL, .int .i64 (d4.p : Int), .slice Ao d.out.length co, .int .i64 most, .int .i64 d4.e]) Jd4.x) Tryd.underlying43 rfl (by kernel_rfl) ?_; clear _t)
    | (have _t := Jd4; go_at_call 17; refine (G5.out _).mono ?_; rintro e w5x ⟨rfl, hbx⟩; have Jd4x := Jd4.below hbx; clear _t Jd4 hbx)
    | (have _t := Jd4x; refine wpList_store_blk rfl _ _ _ rfl (ds := [.slice AL bits.length cL, .int .i64 (d5.p : Int), .slice Ao d.out.length co, .int .i64 most, .int .i64 d5.e]) Jd4x.x rfl rfl rfl (by kernel_rfl) (by intro u hu; simp only [List.mem_cons, List.not_mem_nil, or_false] at hu; rcases hu with rfl | rfl | rfl | rfl | rfl <;> rfl) ?_; clear _t; intro w5 X9 g9; have Jd5 := Jd4x.set g9 (d' := { d5 with out := d.out }) rfl X9; clear X9 g9))
  clear Jd4x
  try simp only [Act.put]
  clear k2 k3
  rw [E5.out] at Jd5
  clear G2 G3 G4 G5 E1 E5 b3 HE H8
  have q5 := P5.out
  have K5 := Jd5.x.cell 4
  have hL5 : d5.out.length ≤ 1000000 := HL5.out
  clear K5 P5 HL5
  go_wp2_with fail
  go_loopw [5] (fun s wr => ∃ (i : Nat) (A9 : Option Addr) (c9 : Nat) (di : DS), s = .int .i64 i ∧ i ≤ N ∧ bytesD bits (N - i) di = D ∧ di.p ≤ bits.length ∧ di.out.length ≤ 1000000 + i ∧ So w wr AL bits cL most (.slice Ao d.out.length co) (w.heap.size + 1) di A9 c9) (fun s _ => N - (intOf s).toNat)
  case atStart => exact ⟨0, Ao, co, d5, rfl, Nat.zero_le _, HD0.out, q5, hL5, Jd5⟩
  case round =>
    clear Jd5 HD0 q5 hL5
    obtain ⟨i, A9, c9, di, rfl, hi, hD, hpi, hli, J⟩ := hrel
    have k4 : wr.cell? ⟨w.heap.size, 4, none⟩ = some (.int .i64 di.e) := J.x.cell 4
    by_cases hlt : i < N
    · have jlt : (i : Int) < (N : Int) := by omega
      by_cases he : di.e = 0
      · have g8 := numD_le (k := 8) (b := bits) hpi
        have b8 := numD_bd (k := 8) hB hpi
        obtain ⟨⟨c, t⟩, h8⟩ : ∃ r, numD 8 bits di = r := ⟨_, rfl⟩
        have GB := Lib.hid (fun W R => by have := get_lit AL bits cL A9 di.out.length c9 most di W 8 R (by omega) hpi; rw [h8] at this; exact this)
        obtain ⟨r, hr⟩ : ∃ r, N - i = r + 1 := ⟨N - i - 1, by omega⟩
        rw [hr, bytesD, if_neg (fun c => c he), h8] at hD
        rw [h8] at g8 b8
        simp only at g8 b8 hD
        rw [show (2 : Int) ^ 8 = 256 by decide] at b8
        have hr2 : N - (i + 1) = r := by omega
        have HD := Lib.hid hD
        have HO := Lib.hid g8.2
        have HP := Lib.hid g8.1
        have HR := Lib.hid hr2
        have HI := Lib.hid he
        have hb0 := b8.1
        have hb1 := b8.2
        have k5 : wr.cell? ⟨w.heap.size, 4, none⟩ = some (.int .i64 0) := by rw [k4, he]
        clear hD g8 h8 hr hr2 he b8 k4
        go_upto_region 9 with fail
        clear k5
        go_upto_region 10 with (first
          | (have _t := J; refine wpList_load_midV (o := ⟨some 49, _, _, _, _, _⟩) (by rfl) _ _ rfl (w.heap.size) 0 rfl [.slice AL bits.length cL, .int .i64 (di.p : Int), .slice A9 di.out.length c9, .int .i64 most, .int .i64 di.e] (block_range (L := [.slice AL bits.length cL, .int .i64 (di.p : Int), .slice A9 di.out.length c9, .int .i64 most, .int .i64 di.e]) J.x) Tryd.underlying43 rfl (by kernel_rfl) ?_; clear _t)
          | (have _t := J; go_at_call 24; refine (GB.out _ J.r).mono ?_; rintro e w1 ⟨rfl, hbx⟩; have J1 := J.below hbx; clear _t J hbx)
          | (have _t := J1; refine wpList_store_blk rfl _ _ _ rfl (ds := [.slice AL bits.length cL, .int .i64 (t.p : Int), .slice A9 di.out.length c9, .int .i64 most, .int .i64 t.e]) (Block.new w1 43 #[.slice none 0 0, .int .i64 0, .slice none 0 0, .int .i64 0, .int .i64 0]) rfl rfl rfl (by kernel_rfl) (by intro u hu; simp only [List.mem_cons, List.not_mem_nil, or_false] at hu; rcases hu with rfl | rfl | rfl | rfl | rfl <;> rfl) ?_; clear _t; intro w2 X2 g2; have J2 := J1.fresh g2))
        have hT := J1.lt.1
        clear g2 J1
        try simp only [Act.put]
        go_upto_region 11 with (first
          | (have _t := X2; refine wpList_load_midV (o := ⟨some 53, _, _, _, _, _⟩) (by rfl) _ _ rfl (w1.heap.size) 0 rfl [.slice AL bits.length cL, .int .i64 (t.p : Int), .slice A9 di.out.length c9, .int .i64 most, .int .i64 t.e] (block_range (L := [.slice AL bits.length cL, .int .i64 (t.p : Int), .slice A9 di.out.length c9, .int .i64 most, .int .i64 t.e]) X2) Tryd.underlying43 rfl (by kernel_rfl) ?_; clear _t)
          | (have _t := J2; refine wpList_store_blk rfl _ _ _ rfl (ds := [.slice AL bits.length cL, .int .i64 (t.p : Int), .slice A9 di.out.length c9, .int .i64 most, .int .i64 t.e]) J2.x rfl rfl rfl (by kernel_rfl) (by intro u hu; simp only [List.mem_cons, List.not_mem_nil, or_false] at hu; rcases hu with rfl | rfl | rfl | rfl | rfl <;> rfl) ?_; clear _t; intro w3 X9 g9; have J3 := J2.set (d' := { t with out := di.out }) g9 rfl X9; clear X9 g9))
        clear J2 X2
        try simp only [Act.put]
        have k4 : w3.cell? ⟨w.heap.size, 4, none⟩ = some (.int .i64 t.e) := J3.x.cell 4
        by_cases he : t.e = 0
        · have k2 : w3.cell? ⟨w.heap.size, 2, none⟩ = some (.slice A9 di.out.length c9) := J3.x.cell 2
          have k6 : w3.cell? ⟨w.heap.size, 4, none⟩ = some (.int .i64 0) := by rw [k4, he]
          have HT := Lib.hid he
          clear he k4
          go_upto_region 12 with fail
          go_wp2_with (at_builtin; refine wpList_append_ints (ys := [c]) _ rfl _ _ _ rfl elem8 (J3.o.alloc _) rfl rfl (Holds.new w3 .u8 c _) (by simp only [List.length_cons, List.length_nil]; omega) (Nat.zero_le _) ?_; intro v5 w5 own5 hg5 hb5 hv5; have own6 : Own w5 0 5 .u8 v5 (di.out ++ [c]) := own5; obtain ⟨ys, hys⟩ : ∃ ys, di.out ++ [c] = ys := ⟨_, rfl⟩; rw [hys] at own6; obtain ⟨A5, c5, rfl, _, _, _⟩ := own6.opened; have nw := Newer.ofApp hv5; have x5 := ((J3.alloc _).grow hg5 nw).2.1; have k7 := x5.cell 2; have f7 := x5.frozen 2; have J5 := (J3.alloc _).told hg5 own6 nw; have HY := Lib.hid hys; clear own5 own6 hg5 hb5 hv5 hys nw x5 J3 k2 k6)
          go_roundw
          case rel => exact ⟨i + 1, A5, c5, { t with out := ys }, by go_num, by omega, by rw [HR.out, ← HD.out, if_pos HT.out, HY.out], HP.out, by rw [← HY.out]; simp only [List.length_append, List.length_cons, List.length_nil]; omega, J5⟩
          case measure => simp [intOf] <;> omega
        · have z : (t.e == 0) = false := by rw [beq_eq_false_iff_ne]; exact he
          have HT := Lib.hid he
          clear he
          go_wp2_with fail
          go_roundw
          case rel => exact ⟨i + 1, A9, c9, { t with out := di.out }, by go_num, by omega, by rw [show ({ t with out := di.out } : DS) = t by rw [← HO.out], bytesD_err HT.out, ← HD.out, if_neg HT.out], HP.out, by show di.out.length ≤ _; omega, J3⟩
          case measure => simp [intOf] <;> omega
      · have z : (di.e == 0) = false := by rw [beq_eq_false_iff_ne]; exact he
        rw [bytesD_err he] at hD
        have HD := Lib.hid hD
        clear he
        clear hD
        go_wp2_with (first
          | (have _t := J; refine wpList_load_midV (o := ⟨some 64, _, _, _, _, _⟩) (by rfl) _ _ rfl (w.heap.size) 0 rfl [.slice AL bits.length cL, .int .i64 (di.p : Int), .slice A9 di.out.length c9, .int .i64 most, .int .i64 di.e] (block_range (L := [.slice AL bits.length cL, .int .i64 (di.p : Int), .slice A9 di.out.length c9, .int .i64 most, .int .i64 di.e]) J.x) Tryd.underlying43 rfl (by kernel_rfl) ?_; clear _t)
          | (have _t := J; refine wpList_store_blk rfl _ _ _ rfl (ds := [.slice AL bits.length cL, .int .i64 (di.p : Int), .slice A9 di.out.length c9, .int .i64 most, .int .i64 di.e]) J.z rfl rfl rfl (by kernel_rfl) (by intro u hu; simp only [List.mem_cons, List.not_mem_nil, or_false] at hu; rcases hu with rfl | rfl | rfl | rfl | rfl <;> rfl) ?_; clear _t; intro w3 X9 g9))
        try simp only [Act.put]
        exact bodyPost_ret (v := .agg #[.slice AL bits.length cL, .int .i64 (di.p : Int), .slice A9 di.out.length c9, .int .i64 most, .int .i64 di.e]) (results_cell_row rfl _ _ (w.heap.size + 1) 43 _ (0, 0) _ rfl X9 Tryd.underlying43 rfl (by kernel_rfl)) rfl (by rw [← HD.out]; exact J.done g9)
    · have jlt : ¬ (i : Int) < (N : Int) := by omega
      obtain rfl : i = N := by omega
      rw [Nat.sub_self] at hD
      have HD : Hid (di = D) := Lib.hid hD
      clear hD
      go_wp2_with (first
        | (have _t := J; refine wpList_load_midV (o := ⟨some 64, _, _, _, _, _⟩) (by rfl) _ _ rfl (w.heap.size) 0 rfl [.slice AL bits.length cL, .int .i64 (di.p : Int), .slice A9 di.out.length c9, .int .i64 most, .int .i64 di.e] (block_range (L := [.slice AL bits.length cL, .int .i64 (di.p : Int), .slice A9 di.out.length c9, .int .i64 most, .int .i64 di.e]) J.x) Tryd.underlying43 rfl (by kernel_rfl) ?_; clear _t)
        | (have _t := J; refine wpList_store_blk rfl _ _ _ rfl (ds := [.slice AL bits.length cL, .int .i64 (di.p : Int), .slice A9 di.out.length c9, .int .i64 most, .int .i64 di.e]) J.z rfl rfl rfl (by kernel_rfl) (by intro u hu; simp only [List.mem_cons, List.not_mem_nil, or_false] at hu; rcases hu with rfl | rfl | rfl | rfl | rfl <;> rfl) ?_; clear _t; intro w3 X9 g9))
      try simp only [Act.put]
      exact bodyPost_ret (v := .agg #[.slice AL bits.length cL, .int .i64 (di.p : Int), .slice A9 di.out.length c9, .int .i64 most, .int .i64 di.e]) (results_cell_row rfl _ _ (w.heap.size + 1) 43 _ (0, 0) _ rfl X9 Tryd.underlying43 rfl (by kernel_rfl)) rfl (by rw [← HD.out]; exact J.done g9)
end Go.Proofs.YthflefdchgpbdaaDoor.Inf
