/-
  Layer 11, lz: how many bytes from two places on are the same: a contract. Conditions: the places and the most lie in the text.
-/
import Derived.Test.YthicgcgohpakgaaLzA
import Derived.BigQuiet
namespace Go.Proofs.Ythicgcgohpakgaa.Lz
open Go.ChangeShapes Go.WideShapes Go.ChangeAt Go.RowKit Go.Proofs.Ythicgcgohpakgaa.Kit

/-- n bytes from two places on are the same, and, if fewer than the most, no more. -/
def Alike (xs : List Int) (i j m n : Nat) : Prop := n ≤ m ∧ (∀ k, k < n → xs[i + k]?.getD 0 = xs[j + k]?.getD 0) ∧ (n < m → xs[i + n]?.getD 0 ≠ xs[j + n]?.getD 0)

set_option maxHeartbeats 1600000 in
theorem same_any (A : Option Addr) (xs : List Int) (c i j m : Nat) (w : World) (hn : xs.length ≤ 1000000) (hij : i < j) (hm : 1 ≤ m) (hj : j + m ≤ xs.length) (hr : Holds w w.heap.size .u8 A xs) :
    Calls Try.prog 15 #[.slice A xs.length c, .int .i64 i, .int .i64 j, .int .i64 m] w fun e w' => (∃ n : Nat, e = .returned (.int .i64 n) ∧ Alike xs i j m n) ∧ Below w.heap.size w w' := by
  obtain ⟨b, off, rfl, hB, hc⟩ := hr (by omega)
  go_enter Try.func15, Try.ntmps15
  go_wp2_with fail
  go_loopw [9] (fun v wr => ∃ k : Nat, k ≤ m ∧ v = .int .i64 k ∧ (∀ t, t < k → xs[i + t]?.getD 0 = xs[j + t]?.getD 0) ∧ ∃ q, wr = w.drewN q) (fun v _ => m - (intOf v).toNat)
  case atStart => exact ⟨0, Nat.zero_le _, rfl, fun t ht => absurd ht (Nat.not_lt_zero t), 0, rfl⟩
  case round =>
    obtain ⟨k, hk, rfl, hsame, q, rfl⟩ := hrel
    have Hsame := Lib.hid hsame
    clear hsame
    by_cases hlt : k < m
    · have hd : decide ((k : Int) < (m : Int)) = true := decide_eq_true (by omega)
      have e1 : w.cell? ⟨b, off + (i + k), none⟩ = some (.int .u8 (xs.getD (i + k) 0)) := hc (i + k) (by omega)
      have e2 : w.cell? ⟨b, off + (j + k), none⟩ = some (.int .u8 (xs.getD (j + k) 0)) := hc (j + k) (by omega)
      rw [show xs.getD (i + k) 0 = xs[i + k]?.getD 0 by simp [List.getD]] at e1
      rw [show xs.getD (j + k) 0 = xs[j + k]?.getD 0 by simp [List.getD]] at e2
      have p1 : IntKind.i64.wrap ((i : Int) + (k : Int)) = ((i + k : Nat) : Int) := by rw [IntWalk.i64_in _ (by omega)]; omega
      have p2 : IntKind.i64.wrap ((j : Int) + (k : Int)) = ((j + k : Nat) : Int) := by rw [IntWalk.i64_in _ (by omega)]; omega
      have l1 : i + k < xs.length := by omega
      have l2 : j + k < xs.length := by omega
      by_cases hxy : xs[i + k]?.getD 0 = xs[j + k]?.getD 0
      · have Hxy := Lib.hid hxy
        rw [← hxy] at e2
        clear hxy
        generalize xs[i + k]?.getD 0 = x at e1 e2
        clear hc
        go_wp2_with fail
        go_quiet (fail)
        go_wp2_with fail
        go_roundw
        case rel =>
          refine ⟨k + 1, by omega, by go_num, fun t ht => ?_, _, rfl⟩
          rcases Nat.lt_or_ge t k with h | h
          · exact Hsame.out t h
          · rw [show t = k by omega]; exact Hxy.out
        case measure => simp [intOf]; omega
      · have Hxy := Lib.hid hxy
        have hne := hxy
        clear hxy
        obtain ⟨x, hx⟩ : ∃ x, xs[i + k]?.getD 0 = x := ⟨_, rfl⟩
        obtain ⟨y, hy⟩ : ∃ y, xs[j + k]?.getD 0 = y := ⟨_, rfl⟩
        rw [hx] at e1 hne
        rw [hy] at e2 hne
        have hxy : ¬ x = y := hne
        clear hx hy hne hc
        have hf : (x == y) = false := by simpa using hxy
        go_wp2_with fail
        go_quiet (fail)
        go_wp2_with fail
        go_ret
        exact ⟨⟨k, rfl, by omega, Hsame.out, fun _ => Hxy.out⟩, below_draws (below_draws (Below.refl _ _) _) _⟩
    · obtain rfl : k = m := by omega
      have hd : decide ((k : Int) < (k : Int)) = false := decide_eq_false (by omega)
      go_wp2_with fail
      go_quiet (fail)
      go_wp2_with fail
      go_ret
      exact ⟨⟨k, rfl, Nat.le_refl _, Hsame.out, fun h => absurd h (Nat.lt_irrefl _)⟩, below_draws (below_draws (Below.refl _ _) _) _⟩
end Go.Proofs.Ythicgcgohpakgaa.Lz
