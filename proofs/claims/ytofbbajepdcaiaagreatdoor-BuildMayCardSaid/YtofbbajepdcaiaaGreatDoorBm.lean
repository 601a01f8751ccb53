/-
  Layer 28, build: whether a package may be built, how long one may be: both functions, one answer. Conditions: as each theorem names.
-/
import Derived.Test.YtofbbajepdcaiaaGreatDoorBlk
import Derived.Lib.BitFns
import Derived.IntWalk
namespace Go.Proofs.YtofbbajepdcaiaaGreatDoor.Bm
open Go.ChangeShapes Go.WideShapes Go.ChangeAt Go.RowKit Go.Proofs.YtofbbajepdcaiaaGreatDoor.Kit Go.Proofs.YtofbbajepdcaiaaGreatDoor.Blk

def Gives (v : Value) (w : World) (e : Ending) (w' : World) : Prop := e = .returned v ∧ Below w.heap.size w w'

def isSz (n : Int) : Bool := decide (0 ≤ n ∧ n ≤ 2147483647)
def isBk (n : Int) : Bool := decide (128 ≤ n ∧ n ≤ 4096)
def mayE (old new m b : Int) : Int := if isBk b = true ∧ (m = 1 ∨ m = 2 ∨ m = 3) then (if isSz old = true ∧ isSz new = true ∧ blocks new b ≤ 4096 then 0 else 4) else 1
/-- The binary logarithm, rounded up. -/
def steps (n : Int) : Nat := if 0 < n then Lib.bitLen (n - 1).toNat else 0
def most (h n b : Int) : Int := if isSz h = true ∧ isSz n = true ∧ isBk b = true then h + n + blocks n b * (64 + 32 * (steps (blocks n b) : Int)) else 0

theorem size_any (n : Int) (w : World) : Calls Tryz.prog 10 #[.int .i64 n] w fun e w' => e = .returned (.bool (isSz n)) ∧ w = w' := by
  by_cases h0 : 0 ≤ n
  · by_cases h1 : n ≤ 2147483647
    · rw [show isSz n = true from decide_eq_true ⟨h0, h1⟩]
      go_enter Tryz.func10, Tryz.ntmps10
      go_wp2
      go_ret
      exact ⟨rfl, rfl⟩
    · rw [show isSz n = false from decide_eq_false (by omega)]
      go_enter Tryz.func10, Tryz.ntmps10
      go_wp2
      go_ret
      exact ⟨rfl, rfl⟩
  · rw [show isSz n = false from decide_eq_false (by omega)]
    go_enter Tryz.func10, Tryz.ntmps10
    go_wp2
    go_ret
    exact ⟨rfl, rfl⟩

theorem block_any (n : Int) (w : World) : Calls Tryz.prog 9 #[.int .i64 n] w fun e w' => e = .returned (.bool (isBk n)) ∧ w = w' := by
  by_cases h0 : 128 ≤ n
  · by_cases h1 : n ≤ 4096
    · rw [show isBk n = true from decide_eq_true ⟨h0, h1⟩]
      go_enter Tryz.func9, Tryz.ntmps9
      go_wp2
      go_ret
      exact ⟨rfl, rfl⟩
    · rw [show isBk n = false from decide_eq_false (by omega)]
      go_enter Tryz.func9, Tryz.ntmps9
      go_wp2
      go_ret
      exact ⟨rfl, rfl⟩
  · rw [show isBk n = false from decide_eq_false (by omega)]
    go_enter Tryz.func9, Tryz.ntmps9
    go_wp2
    go_ret
    exact ⟨rfl, rfl⟩

theorem long_any (n : Int) (w : World) : Calls Tryz.prog 12 #[.int .i64 n] w fun e w' => e = .returned (.bool (!isSz n)) ∧ w = w' := by
  by_cases h0 : 0 ≤ n
  · by_cases h1 : n ≤ 2147483647
    · rw [show isSz n = true from decide_eq_true ⟨h0, h1⟩]
      have d1 : decide (n < 0) = false := decide_eq_false (by omega)
      have d2 : decide (2147483647 < n) = false := decide_eq_false (by omega)
      go_enter Tryz.func12, Tryz.ntmps12
      go_wp2
      go_ret
      exact ⟨rfl, rfl⟩
    · rw [show isSz n = false from decide_eq_false (by omega)]
      go_enter Tryz.func12, Tryz.ntmps12
      go_wp2
      go_ret
      exact ⟨rfl, rfl⟩
  · rw [show isSz n = false from decide_eq_false (by omega)]
    go_enter Tryz.func12, Tryz.ntmps12
    go_wp2
    go_ret
    exact ⟨rfl, rfl⟩

theorem sz_yes {n : Int} (h : isSz n = true) : 0 ≤ n ∧ n ≤ 2147483647 := of_decide_eq_true h
theorem bk_yes {n : Int} (h : isBk n = true) : 128 ≤ n ∧ n ≤ 4096 := of_decide_eq_true h
theorem bk_no {n : Int} (h : isBk n = false) : ¬ (128 ≤ n ∧ n ≤ 4096) := of_decide_eq_false h

/-- The mode's tests, all of them. -/
theorem mode_cases (m : Int) (h : 0 ≤ m ∧ m ≤ 255) : m = 1 ∨ m = 2 ∨ m = 3 ∨ ((m == 1) = false ∧ (m == 2) = false ∧ (m == 3) = false ∧ m ≠ 1 ∧ m ≠ 2 ∧ m ≠ 3) := by
  by_cases h1 : m = 1
  · exact .inl h1
  · by_cases h2 : m = 2
    · exact .inr (.inl h2)
    · by_cases h3 : m = 3
      · exact .inr (.inr (.inl h3))
      · exact .inr (.inr (.inr ⟨by simpa using h1, by simpa using h2, by simpa using h3, h1, h2, h3⟩))

set_option maxRecDepth 100000 in
set_option maxHeartbeats 3200000 in
theorem may_any (old new m b v : Int) (w : World) (hm : 0 ≤ m ∧ m ≤ 255) :
    Calls Tryz.prog 4 #[.int .i64 old, .int .i64 new, .agg #[.int .u8 m, .int .i64 b, .int .u64 v]] w (Gives (.int .i64 (mayE old new m b)) w) := by
  have hb0 : Below w.heap.size w (w.alloc (.cells #[.int .u8 m, .int .i64 b, .int .u64 v] 24)) := (Below.refl _ _).alloc (Nat.le_refl _) _
  have g1 := fun n W => size_any n W
  have g2 := fun n W => block_any n W
  unfold mayE
  cases hb : isBk b with
  | false =>
    rw [if_neg (by simp)]
    have G2 := Lib.hid (fun W => hb ▸ g2 b W)
    clear hb g1 g2
    rcases mode_cases m hm with rfl | rfl | rfl | ⟨e1, e2, e3, -, -, -⟩
    all_goals
      go_enter Tryz.func4, Tryz.ntmps4
      go_wp2_with (go_at_call 9; refine (G2.out _).mono ?_; rintro e w1 ⟨rfl, rfl⟩)
      go_ret
      exact ⟨rfl, hb0⟩
  | true =>
    have hbb := bk_yes hb
    have G2 := Lib.hid (fun W => hb ▸ g2 b W)
    rcases mode_cases m hm with hq | hq | hq | ⟨e1, e2, e3, n1, n2, n3⟩
    case inr.inr.inr =>
      rw [if_neg (by omega)]
      clear hb g1 g2 n1 n2 n3 hbb
      go_enter Tryz.func4, Tryz.ntmps4
      go_wp2_with (go_at_call 9; refine (G2.out _).mono ?_; rintro e w1 ⟨rfl, rfl⟩)
      go_ret
      exact ⟨rfl, hb0⟩
    all_goals
      rw [if_pos ⟨rfl, by omega⟩]
      subst hq
      cases ho : isSz old with
      | false =>
        rw [if_neg (by simp)]
        have G1 := Lib.hid (fun W => ho ▸ g1 old W)
        clear hb g1 g2 ho hbb
        go_enter Tryz.func4, Tryz.ntmps4
        go_wp2_with (first
          | (go_at_call 9; refine (G2.out _).mono ?_; rintro e w1 ⟨rfl, rfl⟩)
          | (go_at_call 10; refine (G1.out _).mono ?_; rintro e w1 ⟨rfl, rfl⟩))
        go_ret
        exact ⟨rfl, hb0⟩
      | true =>
        have G1 := Lib.hid (fun W => ho ▸ g1 old W)
        cases hn : isSz new with
        | false =>
          rw [if_neg (by simp)]
          have G3 := Lib.hid (fun W => hn ▸ g1 new W)
          clear hb g1 g2 ho hbb hn
          go_enter Tryz.func4, Tryz.ntmps4
          go_wp2_with (first
            | (go_at_call 9; refine (G2.out _).mono ?_; rintro e w1 ⟨rfl, rfl⟩)
            | (go_at_call 10; (with_reducible refine (G1.out _).mono ?_); rintro e w1 ⟨rfl, rfl⟩)
            | (go_at_call 10; (with_reducible refine (G3.out _).mono ?_); rintro e w1 ⟨rfl, rfl⟩))
          go_ret
          exact ⟨rfl, hb0⟩
        | true =>
          have hnn := sz_yes hn
          have G3 := Lib.hid (fun W => hn ▸ g1 new W)
          have G4 := Lib.hid (fun W => blocks_any new b W (by omega))
          clear hb g1 g2 ho hn
          generalize blocks new b = q at *
          by_cases hq : q ≤ 4096
          · rw [if_pos ⟨rfl, rfl, hq⟩]
            go_enter Tryz.func4, Tryz.ntmps4
            go_wp2_with (first
              | (go_at_call 9; refine (G2.out _).mono ?_; rintro e w1 ⟨rfl, rfl⟩)
              | (go_at_call 10; (with_reducible refine (G1.out _).mono ?_); rintro e w1 ⟨rfl, rfl⟩)
              | (go_at_call 10; (with_reducible refine (G3.out _).mono ?_); rintro e w1 ⟨rfl, rfl⟩)
              | (go_at_call 11; (with_reducible refine (G4.out _).mono ?_); rintro e w1 ⟨rfl, rfl⟩))
            go_ret
            exact ⟨rfl, hb0⟩
          · rw [if_neg (by omega)]
            go_enter Tryz.func4, Tryz.ntmps4
            go_wp2_with (first
              | (go_at_call 9; refine (G2.out _).mono ?_; rintro e w1 ⟨rfl, rfl⟩)
              | (go_at_call 10; (with_reducible refine (G1.out _).mono ?_); rintro e w1 ⟨rfl, rfl⟩)
              | (go_at_call 10; (with_reducible refine (G3.out _).mono ?_); rintro e w1 ⟨rfl, rfl⟩)
              | (go_at_call 11; (with_reducible refine (G4.out _).mono ?_); rintro e w1 ⟨rfl, rfl⟩))
            go_ret
            exact ⟨rfl, hb0⟩
end Go.Proofs.YtofbbajepdcaiaaGreatDoor.Bm
