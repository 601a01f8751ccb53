/-
  Layer 12, deflate: the symbols of lengths and distances: contracts. Conditions: as each theorem names.
-/
import Derived.Test.YthflefdchgpbdaaDoorRows
import Derived.Test.YthflefdchgpbdaaDoorMGIces0
import Derived.LoopTactic
import Derived.RegionTactic
import Derived.BigQuiet
import Derived.Deep.QuietTactic
import Derived.Deep.LoopGhost
namespace Go.Proofs.YthflefdchgpbdaaDoor.Df
open Go.ChangeShapes Go.WideShapes Go.ChangeAt Go.RowKit Go.Proofs.YthflefdchgpbdaaDoor.Kit

/-- What the program's own tables read as. -/
def Laid (g : Nat) (l : List Int) (w : World) : Prop := ∀ k, k < l.length → w.cell? ⟨g, k, none⟩ = some (.int .i64 (l.getD k 0))

def trip (a b c : Int) : Value := .tuple #[.int .i64 a, .int .i64 b, .int .u32 c]
def la (n : Int) : Int := if 3 ≤ n ∧ n ≤ 258 then 257 + at_ lens n else -1
def lb (n : Int) : Int := if 3 ≤ n ∧ n ≤ 258 then lmore (at_ lens n) else 0
def lc (n : Int) : Int := if 3 ≤ n ∧ n ≤ 258 then n - lens.getD (at_ lens n) 0 else 0
def da (n : Int) : Int := if 1 ≤ n ∧ n ≤ 32768 then at_ dists n else -1
def db (n : Int) : Int := if 1 ≤ n ∧ n ≤ 32768 then dmore (at_ dists n) else 0
def dc (n : Int) : Int := if 1 ≤ n ∧ n ≤ 32768 then n - dists.getD (at_ dists n) 0 else 0

theorem ret_trip {a b c a' b' c' : Int} (h1 : a = a') (h2 : b = b') (h3 : c = c') : Ending.returned (.tuple #[.int .i64 a, .int .i64 b, .int .u32 c]) = .returned (.tuple #[.int .i64 a', .int .i64 b', .int .u32 c']) := by rw [h1, h2, h3]

theorem dmore_eq (k : Nat) (hk : k < 30) : (if (k : Int) / 2 - 1 < 0 then 0 else (k : Int) / 2 - 1) = dmore k := by
  unfold dmore
  by_cases h : (k : Int) / 2 - 1 < 0
  · rw [if_pos h]
    by_cases h4 : (k : Int) < 4
    · rw [if_pos h4]
    · omega
  · rw [if_neg h]
    by_cases h4 : (k : Int) < 4
    · rw [if_pos h4]; omega
    · rw [if_neg h4]

/-! ### The document's -/

theorem more_any (k : Nat) (hk : k < 29) (w : World) : Calls Tryd.prog 54 #[.int .i64 k] w fun e w' => e = .returned (.int .i64 (lmore k)) ∧ w' = w := by
  unfold lmore
  by_cases h8 : (k : Int) < 8
  · rw [if_neg (by omega)]
    go_enter Tryd.func54, Tryd.ntmps54
    go_wp2
    go_ret
    exact ⟨rfl, rfl⟩
  · by_cases h28 : k = 28
    · subst h28
      go_enter Tryd.func54, Tryd.ntmps54
      go_wp2
      go_ret
      exact ⟨rfl, rfl⟩
    · rw [if_pos (by omega)]
      have hq : ((k : Int) == 28) = false := by rw [beq_eq_false_iff_ne]; omega
      go_enter Tryd.func54, Tryd.ntmps54
      go_wp2
      go_ret
      exact ⟨rfl, rfl⟩

theorem ret_two {a b a' b' : Int} (h1 : a = a') (h2 : b = b') : Ending.returned (.tuple #[.int .i64 a, .int .i64 b]) = .returned (.tuple #[.int .i64 a', .int .i64 b']) := by rw [h1, h2]

theorem pow_bd : ∀ k, k < 14 → 1 ≤ (2 : Int) ^ k ∧ (2 : Int) ^ k ≤ 8192 := by decide

set_option maxHeartbeats 800000 in
theorem least_dist_any (s : Nat) (hs : s < 30) (w : World) : Calls Tryd.prog 56 #[.int .i64 s] w fun e w' => e = .returned (.tuple #[.int .i64 (dists.getD s 0), .int .i64 (dmore s)]) ∧ w' = w := by
  unfold dmore
  by_cases h4 : s < 4
  · rw [if_pos (by omega), dists_low s h4]
    go_enter Tryd.func56, Tryd.ntmps56
    go_wp2
    go_ret2
    exact ⟨rfl, rfl⟩
  · rw [if_neg (by omega), dists_are s hs (by omega)]
    obtain ⟨q, hq⟩ : ∃ q : Nat, s / 2 - 1 = q := ⟨_, rfl⟩
    have hq2 : (s : Int) / 2 - 1 = (q : Int) := by omega
    obtain ⟨r, hr⟩ : ∃ r : Int, (s : Int) % 2 = r := ⟨_, rfl⟩
    rw [hq, hq2, hr]
    have hr2 : 0 ≤ r ∧ r ≤ 1 := by omega
    have hqb : q < 14 := by omega
    have hsn : ¬ (s : Int) < 4 := by omega
    go_enter Tryd.func56, Tryd.ntmps56
    go_wp2_with fail
    have HQ := Lib.hid hq
    have HQ2 := Lib.hid hq2
    have HR := Lib.hid hr
    clear hq hq2 hr
    go_loop [5, 6] (fun v i => ∃ k : Nat, k ≤ q ∧ i = .int .i64 k ∧ v = .int .i64 ((2 + r) * 2 ^ k)) (fun _ i => q - (intOf i).toNat)
    case atStart => exact ⟨0, Nat.zero_le _, rfl, by simp⟩
    case round =>
      obtain ⟨k, hk, rfl, rfl⟩ := hrel
      have hp := pow_bd k (by omega)
      have hm : 0 ≤ (2 + r) * 2 ^ k ∧ (2 + r) * 2 ^ k ≤ 24576 := by
        have h1 : (2 + r) * 2 ^ k ≤ 3 * 2 ^ k := Int.mul_le_mul_of_nonneg_right (by omega) (by omega)
        exact ⟨Int.mul_nonneg (by omega) (by omega), by omega⟩
      have hnext : 2 * ((2 + r) * 2 ^ k) = (2 + r) * 2 ^ (k + 1) := by rw [Int.pow_succ, Int.mul_comm 2, Int.mul_assoc]
      have HN := Lib.hid hnext
      clear hnext
      by_cases hlt : k < q
      · generalize (2 + r) * 2 ^ k = y at *
        go_wp2_with fail
        go_round
        case rel => exact ⟨k + 1, by omega, by go_num, by rw [HN.out]⟩
        case measure => simp [intOf]; omega
      · obtain rfl : k = q := by omega
        go_wp2_with fail
        go_ret2
        exact ⟨ret_two rfl rfl, rfl⟩

/-- The document's table, made anew. -/
theorem least_any (w : World) : Calls Tryd.prog 55 #[] w fun e w' => e = .returned (.slice (some ⟨w.heap.size, 0, none⟩) 29 29) ∧ Laid w.heap.size lens w' ∧ Below w.heap.size w w' ∧ w.heap.size < w'.heap.size := by
  have blk := Block.new w 3 (lens.map (Value.int .i64)).toArray
  have hs : w.heap.size < (w.alloc (.cells (lens.map (Value.int .i64)).toArray 3)).heap.size := by simp
  go_enter Tryd.func55, Tryd.ntmps55
  go_wp2
  go_ret
  refine ⟨rfl, fun k hk => ?_, (Below.refl _ _).alloc (Nat.le_refl _) _, hs⟩
  have := blk.cell k
  rw [List.getElem?_toArray, List.getElem?_map, List.getElem?_eq_getElem hk] at this
  rw [List.getD_eq_getElem?_getD, List.getElem?_eq_getElem hk]
  exact this

theorem Laid.draws {g : Nat} {l : List Int} {w : World} (h : Laid g l w) (n : Nat) : Laid g l (w.drewN n) := fun k hk => by simpa using h k hk

end Go.Proofs.YthflefdchgpbdaaDoor.Df
