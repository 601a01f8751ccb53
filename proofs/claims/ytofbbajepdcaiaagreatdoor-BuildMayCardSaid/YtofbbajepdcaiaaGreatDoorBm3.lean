/-
  Layer 28, build: the document's answers, the example: contracts. Conditions: as each theorem names.
-/
import Derived.Test.YtofbbajepdcaiaaGreatDoorBm2
import Derived.LoopTactic
namespace Go.Proofs.YtofbbajepdcaiaaGreatDoor.Bm
open Go.ChangeShapes Go.WideShapes Go.ChangeAt Go.RowKit Go.Proofs.YtofbbajepdcaiaaGreatDoor.Kit Go.Proofs.YtofbbajepdcaiaaGreatDoor.Blk

theorem bk_of {b : Int} (h : 128 ≤ b ∧ b ≤ 4096) : isBk b = true := decide_eq_true h
theorem bk_not {b : Int} (h : b < 128 ∨ 4096 < b) : isBk b = false := decide_eq_false (by omega)

set_option maxRecDepth 100000 in
set_option maxHeartbeats 3200000 in
theorem rmay_any (old new m b v : Int) (w : World) (hm : 0 ≤ m ∧ m ≤ 255) :
    Calls Tryz.prog 5 #[.int .i64 old, .int .i64 new, .agg #[.int .u8 m, .int .i64 b, .int .u64 v]] w (Gives (.int .i64 (mayE old new m b)) w) := by
  have hb0 : Below w.heap.size w (w.alloc (.cells #[.int .u8 m, .int .i64 b, .int .u64 v] 24)) := (Below.refl _ _).alloc (Nat.le_refl _) _
  have g1 := fun n W => long_any n W
  have HE : Hid (mayE old new m b = if isBk b = true ∧ (m = 1 ∨ m = 2 ∨ m = 3) then (if isSz old = true ∧ isSz new = true ∧ blocks new b ≤ 4096 then 0 else 4) else 1) := Lib.hid rfl
  generalize mayE old new m b = D at *
  by_cases t0 : m = 0
  · have d0 : (m == 0) = true := by rw [beq_iff_eq]; exact t0
    have HZ : Hid (D = 1) := Lib.hid (by rw [HE.out, if_neg (by omega)])
    clear g1 HE
    subst t0
    go_enter Tryz.func5, Tryz.ntmps5
    go_wp2
    go_ret
    exact ⟨by rw [HZ.out]; rfl, hb0⟩
  have d0 : (m == 0) = false := by rw [beq_eq_false_iff_ne]; exact t0
  by_cases t1 : 3 < m
  · have d1 : decide (3 < m) = true := decide_eq_true t1
    have HZ : Hid (D = 1) := Lib.hid (by rw [HE.out, if_neg (by omega)])
    clear g1 HE
    go_enter Tryz.func5, Tryz.ntmps5
    go_wp2
    go_ret
    exact ⟨by rw [HZ.out]; rfl, hb0⟩
  have d1 : decide (3 < m) = false := decide_eq_false t1
  by_cases t2 : b < 128
  · have d2 : decide (b < 128) = true := decide_eq_true t2
    have HZ : Hid (D = 1) := Lib.hid (by rw [HE.out, if_neg (fun h => by have := bk_yes h.1; omega)])
    clear g1 HE
    go_enter Tryz.func5, Tryz.ntmps5
    go_wp2
    go_ret
    exact ⟨by rw [HZ.out]; rfl, hb0⟩
  have d2 : decide (b < 128) = false := decide_eq_false t2
  by_cases t3 : 4096 < b
  · have d3 : decide (4096 < b) = true := decide_eq_true t3
    have HZ : Hid (D = 1) := Lib.hid (by rw [HE.out, if_neg (fun h => by have := bk_yes h.1; omega)])
    clear g1 HE
    go_enter Tryz.func5, Tryz.ntmps5
    go_wp2
    go_ret
    exact ⟨by rw [HZ.out]; rfl, hb0⟩
  have d3 : decide (4096 < b) = false := decide_eq_false t3
  have hbk := bk_of (show 128 ≤ b ∧ b ≤ 4096 by omega)
  have hmm : m = 1 ∨ m = 2 ∨ m = 3 := by omega
  cases ho : isSz old with
  | false =>
    have G1 := Lib.hid (fun W => ho ▸ g1 old W)
    have HZ : Hid (D = 4) := Lib.hid (by rw [HE.out, if_pos ⟨hbk, hmm⟩, if_neg (by simp [ho])])
    clear g1 HE ho hbk hmm
    go_enter Tryz.func5, Tryz.ntmps5
    go_wp2_with (first
      | (go_at_call 12; (with_reducible refine (G1.out _).mono ?_); rintro e w1 ⟨rfl, rfl⟩))
    go_ret
    exact ⟨by rw [HZ.out]; rfl, hb0⟩
  | true =>
    have G1 := Lib.hid (fun W => ho ▸ g1 old W)
    cases hn : isSz new with
    | false =>
      have G2 := Lib.hid (fun W => hn ▸ g1 new W)
      have HZ : Hid (D = 4) := Lib.hid (by rw [HE.out, if_pos ⟨hbk, hmm⟩, if_neg (by simp [hn])])
      clear g1 HE ho hn hbk hmm
      go_enter Tryz.func5, Tryz.ntmps5
      go_wp2_with (first
        | (go_at_call 12; (with_reducible refine (G1.out _).mono ?_); rintro e w1 ⟨rfl, rfl⟩)
        | (go_at_call 12; (with_reducible refine (G2.out _).mono ?_); rintro e w1 ⟨rfl, rfl⟩))
      go_ret
      exact ⟨by rw [HZ.out]; rfl, hb0⟩
    | true =>
      have G2 := Lib.hid (fun W => hn ▸ g1 new W)
      have hnn := sz_yes hn
      have G3 := Lib.hid (fun W => rblocks_any new b W (by omega))
      by_cases hq : 4096 < blocks new b
      · have dq : decide (4096 < blocks new b) = true := decide_eq_true hq
        have HZ : Hid (D = 4) := Lib.hid (by rw [HE.out, if_pos ⟨hbk, hmm⟩, if_neg (by omega)])
        clear g1 HE ho hn hbk hmm
        generalize blocks new b = q at *
        go_enter Tryz.func5, Tryz.ntmps5
        go_wp2_with (first
          | (go_at_call 12; (with_reducible refine (G1.out _).mono ?_); rintro e w1 ⟨rfl, rfl⟩)
          | (go_at_call 12; (with_reducible refine (G2.out _).mono ?_); rintro e w1 ⟨rfl, rfl⟩)
          | (go_at_call 13; (with_reducible refine (G3.out _).mono ?_); rintro e w1 ⟨rfl, rfl⟩))
        go_ret
        exact ⟨by rw [HZ.out]; rfl, hb0⟩
      · have dq : decide (4096 < blocks new b) = false := decide_eq_false hq
        have HZ : Hid (D = 0) := Lib.hid (by rw [HE.out, if_pos ⟨hbk, hmm⟩, if_pos ⟨ho, hn, by omega⟩])
        clear g1 HE ho hn hbk hmm
        generalize blocks new b = q at *
        go_enter Tryz.func5, Tryz.ntmps5
        go_wp2_with (first
          | (go_at_call 12; (with_reducible refine (G1.out _).mono ?_); rintro e w1 ⟨rfl, rfl⟩)
          | (go_at_call 12; (with_reducible refine (G2.out _).mono ?_); rintro e w1 ⟨rfl, rfl⟩)
          | (go_at_call 13; (with_reducible refine (G3.out _).mono ?_); rintro e w1 ⟨rfl, rfl⟩))
        go_ret
        exact ⟨by rw [HZ.out]; rfl, hb0⟩

set_option maxRecDepth 100000 in
set_option maxHeartbeats 3200000 in
theorem rmost_any (h n b : Int) (w : World) : Calls Tryz.prog 7 #[.int .i64 h, .int .i64 n, .int .i64 b] w fun e w' => e = .returned (.int .i64 (most h n b)) ∧ w = w' := by
  have g1 := fun n W => long_any n W
  have HE : Hid (most h n b = if isSz h = true ∧ isSz n = true ∧ isBk b = true then h + n + blocks n b * (64 + 32 * (steps (blocks n b) : Int)) else 0) := Lib.hid rfl
  generalize most h n b = D at *
  cases hh : isSz h with
  | false =>
    have G1 := Lib.hid (fun W => hh ▸ g1 h W)
    have HZ : Hid (D = 0) := Lib.hid (by rw [HE.out, if_neg (by simp [hh])])
    clear g1 HE hh
    go_enter Tryz.func7, Tryz.ntmps7
    go_wp2_with (first
      | (go_at_call 12; (with_reducible refine (G1.out _).mono ?_); rintro e w1 ⟨rfl, rfl⟩))
    go_ret
    exact ⟨by rw [HZ.out]; rfl, rfl⟩
  | true =>
    have G1 := Lib.hid (fun W => hh ▸ g1 h W)
    have hhb := sz_yes hh
    cases hn : isSz n with
    | false =>
      have G2 := Lib.hid (fun W => hn ▸ g1 n W)
      have HZ : Hid (D = 0) := Lib.hid (by rw [HE.out, if_neg (by simp [hn])])
      clear g1 HE hh hn
      go_enter Tryz.func7, Tryz.ntmps7
      go_wp2_with (first
        | (go_at_call 12; (with_reducible refine (G1.out _).mono ?_); rintro e w1 ⟨rfl, rfl⟩)
        | (go_at_call 12; (with_reducible refine (G2.out _).mono ?_); rintro e w1 ⟨rfl, rfl⟩))
      go_ret
      exact ⟨by rw [HZ.out]; rfl, rfl⟩
    | true =>
      have G2 := Lib.hid (fun W => hn ▸ g1 n W)
      have hnb := sz_yes hn
      by_cases b1 : b < 128
      · have d1 : decide (b < 128) = true := decide_eq_true b1
        have HZ : Hid (D = 0) := Lib.hid (by rw [HE.out, if_neg (by rw [bk_not (.inl b1)]; simp)])
        clear g1 HE hh hn
        go_enter Tryz.func7, Tryz.ntmps7
        go_wp2_with (first
          | (go_at_call 12; (with_reducible refine (G1.out _).mono ?_); rintro e w1 ⟨rfl, rfl⟩)
          | (go_at_call 12; (with_reducible refine (G2.out _).mono ?_); rintro e w1 ⟨rfl, rfl⟩))
        go_ret
        exact ⟨by rw [HZ.out]; rfl, rfl⟩
      have d1 : decide (b < 128) = false := decide_eq_false b1
      by_cases b2 : 4096 < b
      · have d2 : decide (4096 < b) = true := decide_eq_true b2
        have HZ : Hid (D = 0) := Lib.hid (by rw [HE.out, if_neg (by rw [bk_not (.inr b2)]; simp)])
        clear g1 HE hh hn
        go_enter Tryz.func7, Tryz.ntmps7
        go_wp2_with (first
          | (go_at_call 12; (with_reducible refine (G1.out _).mono ?_); rintro e w1 ⟨rfl, rfl⟩)
          | (go_at_call 12; (with_reducible refine (G2.out _).mono ?_); rintro e w1 ⟨rfl, rfl⟩))
        go_ret
        exact ⟨by rw [HZ.out]; rfl, rfl⟩
      have d2 : decide (4096 < b) = false := decide_eq_false b2
      have hbk := bk_of (show 128 ≤ b ∧ b ≤ 4096 by omega)
      have G3 := Lib.hid (fun W => rblocks_any n b W (by omega))
      have q0 := (blocks_bd n b).1
      have q1 := blocks_le n b hnb.2
      have s1 := steps_le (blocks n b) q0 (by omega)
      have HP : 0 < blocks n b → steps (blocks n b) = Lib.bitLen (blocks n b - 1).toNat := steps_pos _
      have HQ : ¬ 0 < blocks n b → steps (blocks n b) = 0 := fun h => if_neg h
      have hm := mul_bd (blocks n b) (steps (blocks n b)) q0 (by omega) (by omega) (by omega)
      have HZ : Hid (D = h + n + blocks n b * (64 + 32 * (steps (blocks n b) : Int))) := Lib.hid (by rw [HE.out, if_pos ⟨hh, hn, hbk⟩])
      clear g1 HE hh hn hbk
      generalize hs : steps (blocks n b) = s at *
      generalize blocks n b = q at *
      clear hs
      have hlt : Hid (∀ j : Nat, ((2 ^ j : Nat) : Int) < q ↔ j < s) := Lib.hid (fun j => by
        by_cases hq : 0 < q
        · obtain ⟨x, hx⟩ : ∃ x : Nat, q = (x : Int) + 1 := ⟨(q - 1).toNat, by omega⟩
          rw [HP hq, show (q - 1).toNat = x by omega, ← bitLen_lt x j (by omega)]
          omega
        · rw [HQ hq]
          have := Nat.two_pow_pos j
          omega)
      have hp32 : Hid (∀ j : Nat, j ≤ s → ((2 ^ j : Nat) : Int) ≤ 4294967296) := Lib.hid (fun j hj => by
        have : 2 ^ j ≤ 2 ^ 32 := Nat.pow_le_pow_right (by decide) (by omega)
        rw [show (2 : Nat) ^ 32 = 4294967296 from rfl] at this
        omega)
      clear HP HQ
      go_enter Tryz.func7, Tryz.ntmps7
      go_wp2_with (first
        | (go_at_call 12; (with_reducible refine (G1.out _).mono ?_); rintro e w1 ⟨rfl, rfl⟩)
        | (go_at_call 12; (with_reducible refine (G2.out _).mono ?_); rintro e w1 ⟨rfl, rfl⟩)
        | (go_at_call 13; (with_reducible refine (G3.out _).mono ?_); rintro e w1 ⟨rfl, rfl⟩))
      go_loop [8, 9] (fun st k => ∃ j : Nat, j ≤ s ∧ st = .int .i64 j ∧ k = .int .i64 ((2 ^ j : Nat) : Int)) (fun st _ => s - (intOf st).toNat)
      case atStart => exact ⟨0, Nat.zero_le _, rfl, rfl⟩
      case round =>
        obtain ⟨j, hj, rfl, rfl⟩ := hrel
        have hb2 := hp32.out j hj
        have hb0 : 0 < 2 ^ j := Nat.two_pow_pos j
        have HN : Hid (2 ^ (j + 1) = 2 * 2 ^ j) := Lib.hid (by rw [Nat.pow_succ, Nat.mul_comm])
        have hi := hlt.out j
        generalize 2 ^ j = z at *
        by_cases hc : j < s
        · have k1 : decide ((z : Int) < q) = true := decide_eq_true (hi.2 hc)
          clear hi
          go_wp2_with fail
          go_round
          case rel => exact ⟨j + 1, hc, by go_num, by rw [HN.out]; go_num⟩
          case measure => simp [intOf] <;> omega
        · have k1 : decide ((z : Int) < q) = false := decide_eq_false (fun h => hc (hi.1 h))
          obtain rfl : j = s := by omega
          clear hi HN
          obtain ⟨p, hp⟩ : ∃ p, p = q * (64 + 32 * (j : Int)) := ⟨_, rfl⟩
          rw [← hp] at hm HZ
          have hw : wrap64 (q * (64 + 32 * (j : Int))) = p := by rw [← hp]; exact IntWalk.wrap64_in _ (by omega)
          clear hp
          go_wp2_with fail
          go_ret
          exact ⟨by rw [HZ.out]; rfl, rfl⟩

theorem build_nil (m b v : Int) (w : World) : Calls Tryz.prog 15 #[.slice none 0 0, .slice none 0 0, .pointer none, .agg #[.int .u8 m, .int .i64 b, .int .u64 v]] w (Gives (.tuple #[.slice none 0 0, .int .i64 1]) w) := by
  have hb0 : Below w.heap.size w (w.alloc (.cells #[.int .u8 m, .int .i64 b, .int .u64 v] 24)) := (Below.refl _ _).alloc (Nat.le_refl _) _
  go_enter Tryz.func15, Tryz.ntmps15
  go_wp2_with fail
  go_ret2
  exact ⟨rfl, hb0⟩

theorem most_ex : most 100 300 128 = 784 := by decide +kernel

set_option maxRecDepth 100000 in
theorem awake_any (w : World) : Calls Tryz.prog 8 #[] w (Gives (.bool true) w) := by
  have GM := Lib.hid (fun W => most_any 100 300 128 W)
  rw [most_ex] at GM
  have GB := Lib.hid (fun W => build_nil 0 0 0 W)
  go_enter Tryz.func8, Tryz.ntmps8
  go_wp2_with (first
    | (go_at_call 15; (with_reducible refine (GB.out _).mono ?_); rintro e w1 ⟨rfl, hb⟩)
    | (go_at_call 6; (with_reducible refine (GM.out _).mono ?_); rintro e w2 ⟨rfl, rfl⟩))
  go_ret
  exact ⟨rfl, hb⟩
end Go.Proofs.YtofbbajepdcaiaaGreatDoor.Bm
