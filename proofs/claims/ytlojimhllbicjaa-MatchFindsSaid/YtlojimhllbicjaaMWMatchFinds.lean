/-
  MatchFinds: the walk: what is found of any images is right, and of each piece at least half of the bytes are the same.
-/
import Derived.Test.YtlojimhllbicjaaMGMnds7
import Derived.Lib.QuietBelow
namespace Go.Proofs.Ytlojimhllbicjaa.MatchFinds
open Go.ChangeShapes Go.WideShapes Go.ChangeAt Go.RowKit Go.Proofs.Ytlojimhllbicjaa.Kit Go.Proofs.Ytlojimhllbicjaa.Mt Go.Proofs.Ytlojimhllbicjaa.Mx

set_option maxRecDepth 100000 in
set_option maxHeartbeats 6400000 in
theorem walk (A1 : Option Addr) (xs : List Int) (c1 : Nat) (A2 : Option Addr) (ys : List Int) (c2 : Nat) (w : World) (l1 : xs.length ≤ c1) (m1 : c1 ≤ maxLen) (ox : Octets xs) (r1 : Holds w w.heap.size .u8 A1 xs) (l2 : ys.length ≤ c2) (m2 : c2 ≤ maxLen) (oy : Octets ys) (r2 : Holds w w.heap.size .u8 A2 ys) :
    Calls Try.prog 4 #[.slice A1 xs.length c1, .slice A2 ys.length c2] w fun e w' => e = .returned (.bool true) ∧ Below w.heap.size w w' := by
  unfold maxLen at m1 m2
  have GA := Lib.hid (fun W => awake_any W)
  by_cases h7 : 1000 < xs.length
  · have d2 : decide ((1000 : Int) < (xs.length : Int)) = true := decide_eq_true (by omega)
    clear r1 r2
    go_enter Try.func4, Try.ntmps4
    go_wp2_with (go_at_call 7; (with_reducible refine (GA.out _).mono ?_); rintro e w2 ⟨rfl, hb⟩)
    go_ret
    exact ⟨rfl, hb⟩
  have d2 : decide ((1000 : Int) < (xs.length : Int)) = false := decide_eq_false (by omega)
  by_cases h8 : 1000 < ys.length
  · have d3 : decide ((1000 : Int) < (ys.length : Int)) = true := decide_eq_true (by omega)
    clear r1 r2
    go_enter Try.func4, Try.ntmps4
    go_wp2_with (go_at_call 7; (with_reducible refine (GA.out _).mono ?_); rintro e w2 ⟨rfl, hb⟩)
    go_ret
    exact ⟨rfl, hb⟩
  have d3 : decide ((1000 : Int) < (ys.length : Int)) = false := decide_eq_false (by omega)
  have GF := Lib.hid (find_any A1 A2 c1 c2 r1 r2 (by omega) (by omega) ox oy l2)
  have R1 := Lib.hid r1
  have R2 := Lib.hid r2
  clear r1 r2
  go_enter Try.func4, Try.ntmps4
  go_wp2_with fail
  refine GF.out.mono ?_
  rintro e w1 ⟨A9, c9, ps, e9, rfl, hfl, hh, hb⟩
  have hok := hfl.ok (by omega) (by omega)
  have hfew := hfl.few
  have GM := rmay_any A9 ps c9 xs.length ys.length w1 (by omega) hok (by omega) (by omega) hh
  rw [runL_may hfl.run] at GM
  have HGM := Lib.hid GM
  have HFL := Lib.hid hfl
  have HOK := Lib.hid hok
  have HB1 := Lib.hid hb
  have HH := Lib.hid hh
  clear GM hfl hok hb hh GF
  go_wp2_with (first | (go_at_call 9; (with_reducible refine HGM.out.mono ?_); rintro e w2 ⟨rfl, hb2⟩))
  have HB2 := Lib.hid hb2
  clear hb2 HGM
  go_loopw [6] (fun i wr => ∃ j : Nat, j ≤ ps.length ∧ i = .int .i64 j ∧ Below w1.heap.size w1 wr) (fun i _ => ps.length - (intOf i).toNat)
  case atStart => exact ⟨0, Nat.zero_le _, rfl, HB2.out⟩
  case round =>
    obtain ⟨j, hj, rfl, hB⟩ := hrel
    by_cases hlt : j < ps.length
    · have d4 : decide ((j : Int) < (ps.length : Int)) = true := decide_eq_true (by omega)
      have d5 : decide (j < ps.length) = true := decide_eq_true hlt
      obtain ⟨b, off, rfl, hbB, hc⟩ := (HH.out.below hB) (by omega)
      obtain ⟨h0, h1, h2⟩ := hc j ps[j] (List.getElem?_eq_getElem hlt)
      have hp := HOK.out ps[j] (List.getElem_mem hlt)
      have hs := HFL.out.same (List.getElem_mem hlt)
      have hone := one_bd (runL_one HFL.out.run ps[j] (List.getElem_mem hlt))
      have hsb := sameL_bd xs ys ps[j]
      have hBw := HB1.out.trans (hB.mono HB1.out.size)
      clear hc
      generalize ps[j] = p at *
      obtain ⟨pn, po, pl⟩ := p
      simp only at h0 h1 h2 hone hs hsb
      have gb := fun d os => hBw.trans ((below_regrown wr d os).mono hBw.size)
      have gs := fun d os => rsame_any A1 xs c1 A2 ys c2 pn po pl _ hp (by omega) (by omega) ((R1.out.below (gb d os)).more (gb d os).size) ((R2.out.below (gb d os)).more (gb d os).size)
      have GS := Lib.hid gs
      clear gs gb
      generalize sameL xs ys ⟨pn, po, pl⟩ = M at *
      have hM : 0 ≤ M ∧ M ≤ 1000 := by omega
      have hwM : IntKind.i64.wrap (2 * M) = 2 * M := IntWalk.i64_in _ (by omega)
      clear hsb
      have d6 : decide (2 * M < pl) = false := decide_eq_false (by omega)
      have d7 : decide (M * 2 < pl) = false := decide_eq_false (by omega)
      have hbs : b < wr.heap.size := World.block_lt_of_cell? _ _ h0
      go_wp2_with fail
      have k0 := cell_regrown h0
      have k1 := cell_regrown h1
      have k2 := cell_regrown h2
      refine wp_region_quiet_below (by kernel_rfl) (by kernel_rfl) ?_
      repeat (quiet_step (first | (with_reducible exact Calls.regrown_of (GS.out _ _))))
      refine wpQuiet_nil ?_
      intro _ hw'
      obtain ⟨⟨dq, osq⟩, hw''⟩ := hw'
      have hB3 := hB.trans ((below_regrown wr dq osq).mono hB.size)
      subst hw''
      clear k0 k1 k2
      go_wp2_with fail
      go_roundw
      case rel => exact ⟨j + 1, hlt, by go_num, hB3⟩
      case measure => simp [intOf] <;> omega
    · obtain rfl : j = ps.length := by omega
      have d4 : decide ((ps.length : Int) < (ps.length : Int)) = false := decide_eq_false (by omega)
      have d5 : decide (ps.length < ps.length) = false := decide_eq_false (by omega)
      have hBw := HB1.out.trans (hB.mono HB1.out.size)
      go_wp2_with (go_at_call 7; (with_reducible refine (GA.out _).mono ?_); rintro e w2 ⟨rfl, hb⟩)
      go_ret
      exact ⟨rfl, hBw.trans (hb.mono hBw.size)⟩
end Go.Proofs.Ytlojimhllbicjaa.MatchFinds
