/-
  OctetLess: the walk: of 32 bytes of which no digit is less than other bytes', the check isn't greater; one that is greater makes it less.
-/
import Derived.Test.YtcppceonflkihaaChk
import Derived.Test.YtcppceonflkihaaLessM
import Derived.Test.YtcppceonflkihaaArr
import Derived.Lib.QuietBelow
namespace Go.Proofs.Ytcppceonflkihaa.OctetLess
open Go.ChangeShapes Go.WideShapes Go.ChangeAt Go.RowKit Go.Proofs.Ytcppceonflkihaa.Kit Go.Proofs.Ytcppceonflkihaa.Oct

theorem array32 : Try.prog.underlying 39 = some (.array 32 5) := by kernel_rfl
theorem size32 : (Try.prog.info? 39).map (·.size) = some 32 := by kernel_rfl

set_option maxHeartbeats 1600000 in
set_option maxRecDepth 10000 in
theorem walk (xs : List Int) (i wd by_ : Int) (w : World) (hl : xs.length = 32) (ho : Octets xs) (wi : (Lit.int .i64 i).wf = true) (ww : (Lit.int .i64 wd).wf = true) (wb : (Lit.int .u8 by_).wf = true) :
    Calls Try.prog 7 #[arrV .u8 xs, .int .i64 i, .int .i64 wd, .int .u8 by_] w fun e w' => e = .returned (.bool true) ∧ Below w.heap.size w w' := by
  have hib := bounds_i64 wi
  have hbb := bounds_u8 wb
  clear wi ww wb
  obtain ⟨zs, hz⟩ : ∃ zs, digs xs wd = zs := ⟨_, rfl⟩
  have a1 := Arr.new w 39 .u8 xs
  have hb0 : Below w.heap.size w (w.alloc (.cells (xs.map (Value.int .u8)).toArray 39)) := (Below.refl _ _).alloc (Nat.le_refl _) _
  have g1 := rdigits_as (some ⟨w.heap.size, 0, none⟩) xs zs 32 wd _ hz (by omega) ho a1.holds_all
  rw [hl] at g1
  have G1 := Lib.hid g1
  have Hl := Lib.hid hl
  have Hz := Lib.hid hz
  clear g1 hl hz
  unfold arrV
  by_cases hi0 : i < 0
  · go_enter Try.func7, Try.ntmps7
    go_wp2_with (first | (go_at_call 14; refine G1.out.mono ?_; rintro e w1 ⟨A1, c1, rfl, hl1, hm1, hr1, hb1⟩) | (go_at_call 8; refine (awake_any _).mono ?_; rintro e w2 ⟨rfl, hb2⟩))
    go_ret
    exact ⟨rfl, hb0.trans ((hb1.trans (hb2.mono hb1.size)).mono hb0.size)⟩
  · by_cases hi1 : (zs.length : Int) ≤ i
    · go_enter Try.func7, Try.ntmps7
      go_wp2_with (first | (go_at_call 14; refine G1.out.mono ?_; rintro e w1 ⟨A1, c1, rfl, hl1, hm1, hr1, hb1⟩) | (go_at_call 8; refine (awake_any _).mono ?_; rintro e w2 ⟨rfl, hb2⟩))
      go_ret
      exact ⟨rfl, hb0.trans ((hb1.trans (hb2.mono hb1.size)).mono hb0.size)⟩
    · obtain ⟨k, rfl⟩ := Int.eq_ofNat_of_zero_le (show 0 ≤ i by omega)
      have hwd : wd = 1 ∨ wd = 2 ∨ wd = 4 ∨ wd = 8 := by
        by_cases h : wd = 1 ∨ wd = 2 ∨ wd = 4 ∨ wd = 8
        · exact h
        · have := Hz.out; unfold digs at this; rw [if_neg h] at this; subst this; simp at hi1
      have hzl : zs.length = 32 * (8 / wd.toNat) := by
        rw [← Hz.out]; unfold digs; rw [if_pos hwd, dgs_length, Hl.out]
      obtain ⟨W, rfl⟩ := Int.eq_ofNat_of_zero_le (show 0 ≤ wd by omega)
      rw [Int.toNat_natCast] at hzl
      have hW : W = 1 ∨ W = 2 ∨ W = 4 ∨ W = 8 := by omega
      obtain ⟨j, hj⟩ : ∃ j, k * W / 8 = j := ⟨_, rfl⟩
      have hj32 : j < 32 := by
        rcases hW with rfl | rfl | rfl | rfl
        · have : zs.length = 32 * 8 := hzl; omega
        · have : zs.length = 32 * 4 := hzl; omega
        · have : zs.length = 32 * 2 := hzl; omega
        · have : zs.length = 32 * 1 := hzl; omega
      have hkb : k < 256 := by
        rcases hW with rfl | rfl | rfl | rfl
        · have : zs.length = 32 * 8 := hzl; omega
        · have : zs.length = 32 * 4 := hzl; omega
        · have : zs.length = 32 * 2 := hzl; omega
        · have : zs.length = 32 * 1 := hzl; omega
      have hzb : zs.length ≤ 256 := by
        rcases hW with rfl | rfl | rfl | rfl
        · have : zs.length = 32 * 8 := hzl; omega
        · have : zs.length = 32 * 4 := hzl; omega
        · have : zs.length = 32 * 2 := hzl; omega
        · have : zs.length = 32 * 1 := hzl; omega
      have hki : ((k : Int) * (W : Int) / 8) = (j : Int) := by rw [← hj]; omega
      have hkw : IntKind.i64.wrap ((k : Int) * (W : Int)) = (k : Int) * (W : Int) := by
        apply IntWalk.i64_in
        rcases hW with rfl | rfl | rfl | rfl <;> omega
      have HW := Lib.hid hW
      clear hzl hwd hW hj
      have hx := ho.at_ j
      obtain ⟨z, hzj⟩ : ∃ z, xs[j]?.getD 0 = z := ⟨_, rfl⟩
      rw [hzj] at hx
      have Hzj := Lib.hid hzj
      clear hzj
      go_enter Try.func7, Try.ntmps7
      go_wp2_with (first
        | (go_at_call 14; refine G1.out.mono ?_; rintro e w1 ⟨A1, c1, rfl, hl1, hm1, hr1, hb1⟩; have a2 := a1.below hb1 (by simp))
        | (have _t := a2; refine wpList_load_arr rfl _ _ rfl a2 rfl array32 rfl (by rw [Hl.out]; exact size32) ?_; clear _t; have tok1 : True := trivial)
        | (have _t := tok1; refine wpList_store_arr rfl _ _ _ rfl (Arr.new w1 39 .u8 (List.replicate 32 0)) rfl rfl (by rw [Hl.out]; rfl) (by rw [Hl.out]; exact size32) ?_; clear _t tok1; intro w3 a3 hg3; have c3 := a3.cell (i := j) (by rw [Hl.out]; exact hj32); rw [Hzj.out] at c3; have f3 := a3.frozen j; have a23 := (a2.alloc (.cells (List.replicate 32 (Value.int .u8 0)).toArray 39)).grown hg3 (by intro h; injection h with h; have := a2.lt; omega)))
      have hv : bits BinOp.or IntKind.u8 z by_ = ((z.toNat ||| by_.toNat : Nat) : Int) := u8_or z by_ (by omega) (by omega) (by omega) (by omega)
      rw [hv]
      have a4 := a3.set_ j ((z.toNat ||| by_.toNat : Nat) : Int)
      have hne : w.heap.size ≠ w1.heap.size := by have := a2.lt; omega
      have a24 := a23.far (p := ⟨w1.heap.size, j, none⟩) hne (.int .u8 ((z.toNat ||| by_.toNat : Nat) : Int))
      have hbw1 := hb0.trans (hb1.mono hb0.size)
      have hb3 : Below w.heap.size w w3 := (hbw1.alloc hbw1.size _).grown hg3 (by have := hbw1.size; simp; omega) (fun q hq => by injection hq with hq; have := hbw1.size; omega)
      have hb4 := hb3.setCell (p := ⟨w1.heap.size, j, none⟩) hbw1.size (.int .u8 ((z.toNat ||| by_.toNat : Nat) : Int))
      have hol : ∀ q ∈ xs.set j ((z.toNat ||| by_.toNat : Nat) : Int), 0 ≤ q ∧ q ≤ 255 := by
        intro q hq
        rcases List.mem_or_eq_of_mem_set hq with h | h
        · exact ho q h
        · have : (z.toNat ||| by_.toNat) < 2 ^ 8 := Nat.or_lt_two_pow (by omega) (by omega)
          rw [h]; omega
      have hless : xs.set j ((z.toNat ||| by_.toNat : Nat) : Int) ≠ xs → chk (xs.set j ((z.toNat ||| by_.toNat : Nat) : Int)) W < chk xs W := by
        intro hne
        have key := less_all xs Hl.out ho j hj32 by_.toNat W HW.out
        rw [Hzj.out] at key
        have hB : by_.toNat < 256 := by omega
        rcases HW.out with rfl | rfl | rfl | rfl
        · exact key 1 128 (by decide) (by omega) hB hne
        · exact key 3 64 (by decide) (by omega) hB hne
        · exact key 15 16 (by decide) (by omega) hB hne
        · exact key 255 1 (by decide) (by omega) hB hne
      have hyl : (xs.set j ((z.toNat ||| by_.toNat : Nat) : Int)).length = 32 := by rw [List.length_set]; exact Hl.out
      generalize xs.set j ((z.toNat ||| by_.toNat : Nat) : Int) = ys at *
      generalize w3.setCell ⟨w1.heap.size, j, none⟩ (.int .u8 ((z.toNat ||| by_.toNat : Nat) : Int)) = w4 at *
      have g3 := fun d os => Calls.regrown_of (check_as (some ⟨w.heap.size, 0, none⟩) xs 32 W _ (by rw [Hl.out]; omega) ho (a24.below (below_regrown w4 d os) a24.lt).holds_all)
      have g4 := fun d os => Calls.regrown_of (check_as (some ⟨w1.heap.size, 0, none⟩) ys 32 W _ (by rw [hyl]; omega) hol (a4.below (below_regrown w4 d os) a4.lt).holds_all)
      rw [Hl.out] at g3
      rw [hyl] at g4
      have heq := fun wq => run_eql_arr (P := Try.prog) (w := wq) (t := 39) (e := 5) (k := .u8) (k' := .u8) xs ys (by rw [Hl.out]; exact array32) (Option.eq_some_of_isSome (by kernel_rfl)) (by kernel_rfl) Try.underlying5 (by kernel_rfl) (by rw [Hl.out, hyl])
      have hsame : xs = ys → chk ys W = chk xs W := fun h => by rw [h]
      generalize chk xs W = X at *
      generalize chk ys W = Y at *
      have G3 := Lib.hid g3
      have G4 := Lib.hid g4
      have Hyl := Lib.hid hyl
      have Heq := Lib.hid heq
      have Hless := Lib.hid hless
      have Hsame := Lib.hid hsame
      clear g3 g4 hyl heq hless hsame hv
      refine wp_region_quiet_below (by kernel_rfl) (by kernel_rfl) ?_
      repeat (quiet_step (first | (with_reducible exact G3.out _ _) | (with_reducible exact G4.out _ _)))
      refine wpQuiet_nil ?_
      intro wq hw'
      obtain ⟨p, hw''⟩ := hw'
      have hbq : Below w4.heap.size w4 wq := by rw [hw'']; exact below_regrown w4 p.d p.os
      clear hw''
      have a5 := a24.below hbq a24.lt
      have a6 := a4.below hbq a4.lt
      have hb5 := hb4.trans (hbq.mono hb4.size)
      have he := Heq.out wq
      have hgd : ∀ x y, (eqGuard .eql 39 x y (arrV .u8 xs) (arrV .u8 ys)).run Try.prog wq = .ok () wq := fun x y => run_eqGuard_agg wq .eql 39 x y _ _ (by kernel_rfl)
      by_cases hxy : xs = ys
      · obtain rfl := Hsame.out hxy
        rw [decide_eq_true hxy] at he
        clear hxy
        go_wp2_with (first
          | (have _t := a5; refine wpList_load_arr rfl _ _ rfl a5 rfl array32 rfl (by rw [Hl.out]; exact size32) ?_; clear _t)
          | (have _t := a6; refine wpList_load_arr rfl _ _ rfl a6 rfl array32 rfl (by rw [Hyl.out]; exact size32) ?_; clear _t)
          | (go_at_call 8; refine (awake_any _).mono ?_; rintro e w7 ⟨rfl, hb7⟩))
        go_ret
        exact ⟨rfl, hb5.trans (hb7.mono hb5.size)⟩
      · have hlt := Hless.out (fun h => hxy h.symm)
        rw [decide_eq_false hxy] at he
        clear hxy
        go_wp2_with (first
          | (have _t := a5; refine wpList_load_arr rfl _ _ rfl a5 rfl array32 rfl (by rw [Hl.out]; exact size32) ?_; clear _t)
          | (have _t := a6; refine wpList_load_arr rfl _ _ rfl a6 rfl array32 rfl (by rw [Hyl.out]; exact size32) ?_; clear _t)
          | (go_at_call 8; refine (awake_any _).mono ?_; rintro e w7 ⟨rfl, hb7⟩))
        go_ret
        exact ⟨rfl, hb5.trans (hb7.mono hb5.size)⟩
end Go.Proofs.Ytcppceonflkihaa.OctetLess
