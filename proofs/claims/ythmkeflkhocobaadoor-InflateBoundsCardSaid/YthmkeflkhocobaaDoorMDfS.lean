/-
  Layer 12, deflate: the symbols of lengths and distances: contracts. Conditions: as each theorem names.
-/
import Derived.Test.YthmkeflkhocobaaDoorRows
import Derived.Test.YthmkeflkhocobaaDoorMArr
import Derived.Test.YthmkeflkhocobaaDoorMGInds0
import Derived.LoopTactic
import Derived.RegionTactic
import Derived.BigQuiet
import Derived.Deep.QuietTactic
import Derived.Deep.LoopGhost
namespace Go.Proofs.YthmkeflkhocobaaDoor.Df
open Go.ChangeShapes Go.WideShapes Go.ChangeAt Go.RowKit Go.Proofs.YthmkeflkhocobaaDoor.Kit

/-- What the program's own tables read as. -/
def Laid (g : Nat) (l : List Int) (w : World) : Prop := ∀ k, k < l.length → w.cell? ⟨g, k, none⟩ = some (.int .i64 (l.getD k 0))

def trip (a b c : Int) : Value := .tuple #[.int .i64 a, .int .i64 b, .int .u32 c]
def la (n : Int) : Int := if 3 ≤ n ∧ n ≤ 258 then 257 + at_ lens n else -1
def lb (n : Int) : Int := if 3 ≤ n ∧ n ≤ 258 then lmore (at_ lens n) else 0
def lc (n : Int) : Int := if 3 ≤ n ∧ n ≤ 258 then n - lens.getD (at_ lens n) 0 else 0
def da (n : Int) : Int := if 1 ≤ n ∧ n ≤ 32768 then at_ dists n else -1
def db (n : Int) : Int := if 1 ≤ n ∧ n ≤ 32768 then dmore (at_ dists n) else 0
def dc (n : Int) : Int := if 1 ≤ n ∧ n ≤ 32768 then n - dists.getD (at_ dists n) 0 else 0

theorem ret_trip {a b c a' b' c' : Int} (h1 : a = a') (h2 : b = b') (h3 : c = c') : Ending.returned (.tuple #[.int .i64 a, .int .i64 b, .int .u32 c]) = .returned (.tuple #[.int .i64 a', .int .i64 b', .int .u32 c']) := by rw [h1, h2, h3]

set_option maxHeartbeats 1600000 in
theorem length_any (n : Int) (w : World) (hL : Laid 1 lens w) :
    Calls Tryd.prog 33 #[.int .i64 n] w fun e w' => e = .returned (trip (la n) (lb n) (lc n)) ∧ ∃ m, w' = w.drewN m := by
  by_cases h : 3 ≤ n ∧ n ≤ 258
  · obtain ⟨a1, a2, a3⟩ := at_lens n h.1
    unfold trip la lb lc
    rw [if_pos h, if_pos h, if_pos h]
    have hiff := cnt_iff lens lens_rise n
    have hbd := lens_bd
    have h29 : lens.length = 29 := rfl
    generalize at_ lens n = K at *
    go_enter Tryd.func33, Tryd.ntmps33
    go_wp2_with fail
    go_loop [5] (fun i => ∃ k : Nat, K ≤ k ∧ k ≤ 28 ∧ i = .int .i64 k) (fun i => (intOf i).toNat)
    case atStart => exact ⟨28, a1, Nat.le_refl _, rfl⟩
    case round =>
      obtain ⟨k, hk1, hk2, rfl⟩ := hrel
      have hcell := hL k (by omega)
      have hi := hiff k (by omega)
      have hb := hbd k (by omega)
      by_cases hlt : K < k
      · have hgt : n < lens.getD k 0 := by omega
        have hk0 : 1 ≤ k := by omega
        generalize lens.getD k 0 = x at *
        clear hiff hbd hL hi
        go_wp2_with fail
        go_round
        case rel => exact ⟨k - 1, by omega, by omega, by go_num⟩
        case measure => simp [intOf]; omega
      · obtain rfl : k = K := by omega
        have hle : ¬ n < lens.getD k 0 := by omega
        obtain ⟨x, hx⟩ : ∃ x, lens.getD k 0 = x := ⟨_, rfl⟩
        rw [hx] at hcell hle hb a3
        have HX := Lib.hid hx
        clear hiff hbd hL hi hx
        by_cases h8 : 8 ≤ (k : Int)
        · by_cases h82 : (k : Int) < 28
          · go_wp2_with fail
            go_quiet (fail)
            go_wp2_with fail
            go_ret3
            exact ⟨ret_trip rfl (by unfold lmore; rw [if_pos ⟨h8, h82⟩]) (by rw [HX.out]), _, rfl⟩
          · have hd : decide ((k : Int) < 28) = false := decide_eq_false h82
            go_wp2_with fail
            go_quiet (fail)
            go_wp2_with fail
            go_ret3
            exact ⟨ret_trip rfl (by unfold lmore; rw [if_neg (by omega)]) (by rw [HX.out]), _, rfl⟩
        · have hd : decide ((8 : Int) ≤ (k : Int)) = false := decide_eq_false h8
          go_wp2_with fail
          go_quiet (fail)
          go_wp2_with fail
          go_ret3
          exact ⟨ret_trip rfl (by unfold lmore; rw [if_neg (by omega)]) (by rw [HX.out]), _, rfl⟩
  · unfold trip la lb lc
    rw [if_neg h, if_neg h, if_neg h]
    by_cases h3 : n < 3
    · go_enter Tryd.func33, Tryd.ntmps33
      go_wp2
      go_ret3
      exact ⟨rfl, 0, rfl⟩
    · go_enter Tryd.func33, Tryd.ntmps33
      go_wp2
      go_ret3
      exact ⟨rfl, 0, rfl⟩

theorem dmore_eq (k : Nat) (hk : k < 30) : (if (k : Int) / 2 - 1 < 0 then 0 else (k : Int) / 2 - 1) = dmore k := by
  unfold dmore
  by_cases h : (k : Int) / 2 - 1 < 0
  · rw [if_pos h]
    by_cases h4 : (k : Int) < 4
    · rw [if_pos h4]
    · omega
  · rw [if_neg h]
    by_cases h4 : (k : Int) < 4
    · rw [if_pos h4]; omega
    · rw [if_neg h4]

set_option maxHeartbeats 1600000 in
theorem distance_any (n : Int) (w : World) (hL : Laid 2 dists w) :
    Calls Tryd.prog 62 #[.int .i64 n] w fun e w' => e = .returned (trip (da n) (db n) (dc n)) ∧ ∃ m, w' = w.drewN m := by
  by_cases h : 1 ≤ n ∧ n ≤ 32768
  · obtain ⟨a1, a2, a3⟩ := at_dists n h.1
    unfold trip da db dc
    rw [if_pos h, if_pos h, if_pos h]
    have hiff := cnt_iff dists dists_rise n
    have hbd := dists_bd
    have h30 : dists.length = 30 := rfl
    generalize at_ dists n = K at *
    go_enter Tryd.func62, Tryd.ntmps62
    go_wp2_with fail
    go_loop [5] (fun i => ∃ k : Nat, K ≤ k ∧ k ≤ 29 ∧ i = .int .i64 k) (fun i => (intOf i).toNat)
    case atStart => exact ⟨29, a1, Nat.le_refl _, rfl⟩
    case round =>
      obtain ⟨k, hk1, hk2, rfl⟩ := hrel
      have hcell := hL k (by omega)
      have hi := hiff k (by omega)
      have hb := hbd k (by omega)
      by_cases hlt : K < k
      · have hgt : n < dists.getD k 0 := by omega
        have hk0 : 1 ≤ k := by omega
        generalize dists.getD k 0 = x at *
        clear hiff hbd hL hi
        go_wp2_with fail
        go_round
        case rel => exact ⟨k - 1, by omega, by omega, by go_num⟩
        case measure => simp [intOf]; omega
      · obtain rfl : k = K := by omega
        have hle : ¬ n < dists.getD k 0 := by omega
        have hdm := dmore_eq k (by omega)
        obtain ⟨x, hx⟩ : ∃ x, dists.getD k 0 = x := ⟨_, rfl⟩
        rw [hx] at hcell hle hb a3
        have HX := Lib.hid hx
        have HD := Lib.hid hdm
        clear hiff hbd hL hi hx hdm
        by_cases hz : (k : Int) / 2 - 1 < 0
        · go_wp2_with fail
          go_quiet (fail)
          go_wp2_with fail
          go_ret3
          exact ⟨ret_trip rfl (by rw [← HD.out, if_pos hz]) (by rw [HX.out]), _, rfl⟩
        · go_wp2_with fail
          go_quiet (fail)
          go_wp2_with fail
          go_ret3
          exact ⟨ret_trip rfl (by rw [← HD.out, if_neg (by omega)]) (by rw [HX.out]), _, rfl⟩
  · unfold trip da db dc
    rw [if_neg h, if_neg h, if_neg h]
    by_cases h3 : n < 1
    · go_enter Tryd.func62, Tryd.ntmps62
      go_wp2
      go_ret3
      exact ⟨rfl, 0, rfl⟩
    · go_enter Tryd.func62, Tryd.ntmps62
      go_wp2
      go_ret3
      exact ⟨rfl, 0, rfl⟩

/-! ### The document's -/

theorem more_any (k : Nat) (hk : k < 29) (w : World) : Calls Tryd.prog 117 #[.int .i64 k] w fun e w' => e = .returned (.int .i64 (lmore k)) ∧ w' = w := by
  unfold lmore
  by_cases h8 : (k : Int) < 8
  · rw [if_neg (by omega)]
    go_enter Tryd.func117, Tryd.ntmps117
    go_wp2
    go_ret
    exact ⟨rfl, rfl⟩
  · by_cases h28 : k = 28
    · subst h28
      go_enter Tryd.func117, Tryd.ntmps117
      go_wp2
      go_ret
      exact ⟨rfl, rfl⟩
    · rw [if_pos (by omega)]
      have hq : ((k : Int) == 28) = false := by rw [beq_eq_false_iff_ne]; omega
      go_enter Tryd.func117, Tryd.ntmps117
      go_wp2
      go_ret
      exact ⟨rfl, rfl⟩

theorem ret_two {a b a' b' : Int} (h1 : a = a') (h2 : b = b') : Ending.returned (.tuple #[.int .i64 a, .int .i64 b]) = .returned (.tuple #[.int .i64 a', .int .i64 b']) := by rw [h1, h2]

theorem pow_bd : ∀ k, k < 14 → 1 ≤ (2 : Int) ^ k ∧ (2 : Int) ^ k ≤ 8192 := by decide

set_option maxHeartbeats 800000 in
theorem least_dist_any (s : Nat) (hs : s < 30) (w : World) : Calls Tryd.prog 119 #[.int .i64 s] w fun e w' => e = .returned (.tuple #[.int .i64 (dists.getD s 0), .int .i64 (dmore s)]) ∧ w' = w := by
  unfold dmore
  by_cases h4 : s < 4
  · rw [if_pos (by omega), dists_low s h4]
    go_enter Tryd.func119, Tryd.ntmps119
    go_wp2
    go_ret2
    exact ⟨rfl, rfl⟩
  · rw [if_neg (by omega), dists_are s hs (by omega)]
    obtain ⟨q, hq⟩ : ∃ q : Nat, s / 2 - 1 = q := ⟨_, rfl⟩
    have hq2 : (s : Int) / 2 - 1 = (q : Int) := by omega
    obtain ⟨r, hr⟩ : ∃ r : Int, (s : Int) % 2 = r := ⟨_, rfl⟩
    rw [hq, hq2, hr]
    have hr2 : 0 ≤ r ∧ r ≤ 1 := by omega
    have hqb : q < 14 := by omega
    have hsn : ¬ (s : Int) < 4 := by omega
    go_enter Tryd.func119, Tryd.ntmps119
    go_wp2_with fail
    have HQ := Lib.hid hq
    have HQ2 := Lib.hid hq2
    have HR := Lib.hid hr
    clear hq hq2 hr
    go_loop [5, 6] (fun v i => ∃ k : Nat, k ≤ q ∧ i = .int .i64 k ∧ v = .int .i64 ((2 + r) * 2 ^ k)) (fun _ i => q - (intOf i).toNat)
    case atStart => exact ⟨0, Nat.zero_le _, rfl, by simp⟩
    case round =>
      obtain ⟨k, hk, rfl, rfl⟩ := hrel
      have hp := pow_bd k (by omega)
      have hm : 0 ≤ (2 + r) * 2 ^ k ∧ (2 + r) * 2 ^ k ≤ 24576 := by
        have h1 : (2 + r) * 2 ^ k ≤ 3 * 2 ^ k := Int.mul_le_mul_of_nonneg_right (by omega) (by omega)
        exact ⟨Int.mul_nonneg (by omega) (by omega), by omega⟩
      have hnext : 2 * ((2 + r) * 2 ^ k) = (2 + r) * 2 ^ (k + 1) := by rw [Int.pow_succ, Int.mul_comm 2, Int.mul_assoc]
      have HN := Lib.hid hnext
      clear hnext
      by_cases hlt : k < q
      · generalize (2 + r) * 2 ^ k = y at *
        go_wp2_with fail
        go_round
        case rel => exact ⟨k + 1, by omega, by go_num, by rw [HN.out]⟩
        case measure => simp [intOf]; omega
      · obtain rfl : k = q := by omega
        go_wp2_with fail
        go_ret2
        exact ⟨ret_two rfl rfl, rfl⟩

/-- The document's table, made anew. -/
theorem least_any (w : World) : Calls Tryd.prog 118 #[] w fun e w' => e = .returned (.slice (some ⟨w.heap.size, 0, none⟩) 29 29) ∧ Laid w.heap.size lens w' ∧ Below w.heap.size w w' ∧ w.heap.size < w'.heap.size := by
  have blk := Block.new w 3 (lens.map (Value.int .i64)).toArray
  have hs : w.heap.size < (w.alloc (.cells (lens.map (Value.int .i64)).toArray 3)).heap.size := by simp
  go_enter Tryd.func118, Tryd.ntmps118
  go_wp2
  go_ret
  refine ⟨rfl, fun k hk => ?_, (Below.refl _ _).alloc (Nat.le_refl _) _, hs⟩
  have := blk.cell k
  rw [List.getElem?_toArray, List.getElem?_map, List.getElem?_eq_getElem hk] at this
  rw [List.getD_eq_getElem?_getD, List.getElem?_eq_getElem hk]
  exact this

theorem Laid.draws {g : Nat} {l : List Int} {w : World} (h : Laid g l w) (n : Nat) : Laid g l (w.drewN n) := fun k hk => by simpa using h k hk

end Go.Proofs.YthmkeflkhocobaaDoor.Df
