/-
  Layer 20: the document's Block: contract. Conditions: as each theorem names.
-/
import Derived.Test.YtheofegmbajmkaaSaN
namespace Go.Proofs.Ytheofegmbajmkaa.Sa
open Go.ChangeShapes Go.WideShapes Go.ChangeAt Go.RowKit Go.Proofs.Ytheofegmbajmkaa.Kit Go.Proofs.Ytheofegmbajmkaa.Ordr Go.Proofs.Ytheofegmbajmkaa.Blk Go.Proofs.Ytheofegmbajmkaa.Pl

set_option maxHeartbeats 1600000 in
theorem block_any (g off c N k p sz np : Nat) (bl : Int) (w : World) (hb : 128 ≤ bl ∧ bl ≤ 4096) (hN : N ≤ 5000) (hNc : N ≤ c) (hc : c ≤ maxLen) (hk : k < np) (hnp : blocks N bl = (np : Int)) (hp : (k : Int) * bl = (p : Int)) (hsz : sizeE k bl N = (sz : Int)) (hfit : p + sz ≤ N) (h1 : 1 ≤ sz) :
    Calls Try.prog 12 #[.slice (some ⟨g, off, none⟩) N c, .int .i64 bl, .int .i64 k] w fun e w' => e = .returned (.slice (some ⟨g, off + p, none⟩) sz (c - p)) ∧ w = w' := by
  have GB := Lib.hid (hnp ▸ rblocks_any (N : Int) bl w (by omega))
  unfold sizeE at hsz
  rw [hp] at hsz
  unfold maxLen at hc
  have d1 : decide ((k : Int) < 0) = false := decide_eq_false (by omega)
  have d2 : decide ((np : Int) ≤ (k : Int)) = false := decide_eq_false (by omega)
  have d3 : decide (np ≤ k) = false := decide_eq_false (by omega)
  have hcp : ¬ c = p := by omega
  have hkp : ((k : Int) + 1) * bl = (p : Int) + bl := by rw [Int.add_mul, Int.one_mul, hp]
  have hnp0 : np ≤ 5000 := by
    have := (blocks_bd (N : Int) bl).2.1 (by omega)
    omega
  clear hnp
  by_cases ht : bl < (N : Int) - (p : Int)
  · rw [if_neg (by omega)] at hsz
    subst hsz
    have d4 : decide ((sz : Int) < (N : Int) - (p : Int)) = true := decide_eq_true ht
    obtain ⟨q, hq⟩ : ∃ q : Nat, p + sz = q := ⟨_, rfl⟩
    have hkq : ((k : Int) + 1) * (sz : Int) = (q : Int) := by omega
    have hqp : q - p = sz := by omega
    have hpq : p ≤ q := by omega
    have hqc : q ≤ c := by omega
    clear hkp hq ht hfit
    go_enter Try.func12, Try.ntmps12
    go_wp2_with (go_at_call 23; refine GB.out.mono ?_; rintro e w1 ⟨rfl, rfl⟩)
    go_ret
    exact ⟨rfl, rfl⟩
  · have d4 : decide (bl < (N : Int) - (p : Int)) = false := decide_eq_false ht
    have hqp : N - p = sz := by
      split at hsz <;> omega
    have hpN : p ≤ N := by omega
    clear hsz hkp ht hfit
    go_enter Try.func12, Try.ntmps12
    go_wp2_with (go_at_call 23; refine GB.out.mono ?_; rintro e w1 ⟨rfl, rfl⟩)
    go_ret
    exact ⟨rfl, rfl⟩
end Go.Proofs.Ytheofegmbajmkaa.Sa
