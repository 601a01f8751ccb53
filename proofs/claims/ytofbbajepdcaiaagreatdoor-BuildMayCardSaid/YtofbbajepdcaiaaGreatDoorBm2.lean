/-
  Layer 28, build: how many bytes a package may have, the document's answers, the example: contracts. Conditions: as each theorem names.
-/
import Derived.Test.YtofbbajepdcaiaaGreatDoorBm
import Derived.Test.YtofbbajepdcaiaaGreatDoorBmN
import Derived.Test.YtofbbajepdcaiaaGreatDoorMkS
namespace Go.Proofs.YtofbbajepdcaiaaGreatDoor.Bm
open Go.ChangeShapes Go.WideShapes Go.ChangeAt Go.RowKit Go.Proofs.YtofbbajepdcaiaaGreatDoor.Kit Go.Proofs.YtofbbajepdcaiaaGreatDoor.Blk

theorem bits_any (x : Nat) (w : World) (hx : x < 18446744073709551616) : Calls Tryz.prog 14 #[.int .u64 x] w fun e w' => e = .returned (.int .i64 (Lib.bitLen x)) ∧ w = w' := by
  have G := Lib.hid (fun W => Mk.len64_all x W hx)
  go_enter Tryz.func14, Tryz.ntmps14
  go_wp2_with (go_at_call 17; refine (G.out _).mono ?_; rintro e w1 ⟨rfl, rfl⟩)
  go_ret
  exact ⟨rfl, rfl⟩

theorem steps_pos (q : Int) (h : 0 < q) : steps q = Lib.bitLen (q - 1).toNat := if_pos h
theorem steps_le (q : Int) (h0 : 0 ≤ q) (h : q ≤ 4294967296) : steps q ≤ 32 := by
  unfold steps
  split
  · exact Lib.bitLen_le _ 32 (by decide) (by rw [show (2 : Nat) ^ 32 = 4294967296 from rfl]; omega)
  · omega
theorem mul_bd (q s : Int) (h0 : 0 ≤ q) (h1 : q ≤ 4294967296) (s0 : 0 ≤ s) (s1 : s ≤ 32) : 0 ≤ q * (64 + 32 * s) ∧ q * (64 + 32 * s) ≤ 4672924418048 := by
  have a : q * (64 + 32 * s) ≤ 4294967296 * (64 + 32 * s) := Int.mul_le_mul_of_nonneg_right h1 (by omega)
  exact ⟨Int.mul_nonneg h0 (by omega), by omega⟩
theorem blocks_le (n b : Int) (hn : n ≤ 2147483647) : blocks n b ≤ 2147483647 := by
  have := blocks_bd n b
  by_cases h : 1 ≤ n
  · have := this.2.1 h; omega
  · have := this.2.2.1 (by omega); omega

set_option maxRecDepth 100000 in
set_option maxHeartbeats 3200000 in
theorem most_any (h n b : Int) (w : World) : Calls Tryz.prog 6 #[.int .i64 h, .int .i64 n, .int .i64 b] w fun e w' => e = .returned (.int .i64 (most h n b)) ∧ w = w' := by
  have g1 := fun n W => size_any n W
  have g2 := fun n W => block_any n W
  unfold most
  cases hh : isSz h with
  | false =>
    rw [if_neg (by simp)]
    have G1 := Lib.hid (fun W => hh ▸ g1 h W)
    clear hh g1 g2
    go_enter Tryz.func6, Tryz.ntmps6
    go_wp2_with (go_at_call 10; refine (G1.out _).mono ?_; rintro e w1 ⟨rfl, rfl⟩)
    go_ret
    exact ⟨rfl, rfl⟩
  | true =>
    have G1 := Lib.hid (fun W => hh ▸ g1 h W)
    have hhb := sz_yes hh
    cases hn : isSz n with
    | false =>
      rw [if_neg (by simp)]
      have G2 := Lib.hid (fun W => hn ▸ g1 n W)
      clear hh hn g1 g2
      go_enter Tryz.func6, Tryz.ntmps6
      go_wp2_with (first
        | (go_at_call 10; (with_reducible refine (G1.out _).mono ?_); rintro e w1 ⟨rfl, rfl⟩)
        | (go_at_call 10; (with_reducible refine (G2.out _).mono ?_); rintro e w1 ⟨rfl, rfl⟩))
      go_ret
      exact ⟨rfl, rfl⟩
    | true =>
      have G2 := Lib.hid (fun W => hn ▸ g1 n W)
      have hnb := sz_yes hn
      cases hb : isBk b with
      | false =>
        rw [if_neg (by simp)]
        have G3 := Lib.hid (fun W => hb ▸ g2 b W)
        clear hh hn hb g1 g2
        go_enter Tryz.func6, Tryz.ntmps6
        go_wp2_with (first
          | (go_at_call 10; (with_reducible refine (G1.out _).mono ?_); rintro e w1 ⟨rfl, rfl⟩)
          | (go_at_call 10; (with_reducible refine (G2.out _).mono ?_); rintro e w1 ⟨rfl, rfl⟩)
          | (go_at_call 9; refine (G3.out _).mono ?_; rintro e w1 ⟨rfl, rfl⟩))
        go_ret
        exact ⟨rfl, rfl⟩
      | true =>
        rw [if_pos ⟨rfl, rfl, rfl⟩]
        have G3 := Lib.hid (fun W => hb ▸ g2 b W)
        have G4 := Lib.hid (fun W => blocks_any n b W (by omega))
        have q0 := (blocks_bd n b).1
        have q1 := blocks_le n b hnb.2
        have s1 := steps_le (blocks n b) q0 (by omega)
        have HP : 0 < blocks n b → steps (blocks n b) = Lib.bitLen (blocks n b - 1).toNat := steps_pos _
        have HZ : ¬ 0 < blocks n b → steps (blocks n b) = 0 := fun h => if_neg h
        have hm := mul_bd (blocks n b) (steps (blocks n b)) q0 (by omega) (by omega) (by omega)
        clear hh hn hb g1 g2
        generalize hs : steps (blocks n b) = s at *
        generalize blocks n b = q at *
        clear hs
        by_cases hq : 0 < q
        · obtain ⟨x, hx⟩ : ∃ x : Nat, (x : Int) = q - 1 := ⟨(q - 1).toNat, by omega⟩
          have hs := HP hq
          rw [← hx, Int.toNat_natCast] at hs
          have G5 := Lib.hid (fun W => bits_any x W (by omega))
          rw [← hs] at G5
          have Hx := Lib.hid hx
          clear HP HZ hs hx
          go_enter Tryz.func6, Tryz.ntmps6
          go_wp2_with (first
            | (go_at_call 10; (with_reducible refine (G1.out _).mono ?_); rintro e w1 ⟨rfl, rfl⟩)
            | (go_at_call 10; (with_reducible refine (G2.out _).mono ?_); rintro e w1 ⟨rfl, rfl⟩)
            | (go_at_call 9; refine (G3.out _).mono ?_; rintro e w1 ⟨rfl, rfl⟩)
            | (go_at_call 11; refine (G4.out _).mono ?_; rintro e w1 ⟨rfl, rfl⟩)
            | (go_at_call 14; rw [← Hx.out]; refine (G5.out _).mono ?_; rintro e w1 ⟨rfl, rfl⟩))
          go_ret
          exact ⟨rfl, rfl⟩
        · obtain rfl : q = 0 := by omega
          obtain rfl : s = 0 := HZ (by omega)
          clear HP HZ
          go_enter Tryz.func6, Tryz.ntmps6
          go_wp2_with (first
            | (go_at_call 10; (with_reducible refine (G1.out _).mono ?_); rintro e w1 ⟨rfl, rfl⟩)
            | (go_at_call 10; (with_reducible refine (G2.out _).mono ?_); rintro e w1 ⟨rfl, rfl⟩)
            | (go_at_call 9; refine (G3.out _).mono ?_; rintro e w1 ⟨rfl, rfl⟩)
            | (go_at_call 11; refine (G4.out _).mono ?_; rintro e w1 ⟨rfl, rfl⟩))
          go_ret
          exact ⟨by simp, rfl⟩
end Go.Proofs.YtofbbajepdcaiaaGreatDoor.Bm
