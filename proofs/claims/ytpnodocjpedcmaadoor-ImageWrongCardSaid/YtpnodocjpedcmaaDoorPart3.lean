/-
  Layer 7, part: the document's functions on layouts, and Layout: contracts. Conditions: as each theorem names.
-/
import Derived.Test.YtpnodocjpedcmaaDoorPart2
import Derived.Laws.ResultCell
namespace Go.Proofs.YtpnodocjpedcmaaDoor.Prt
open Go.ChangeShapes Go.WideShapes Go.ChangeAt Go.RowKit Go.Proofs.YtpnodocjpedcmaaDoor.Kit

set_option maxRecDepth 100000 in
set_option maxHeartbeats 3200000 in
theorem rmay_any (S B s : Int) (w : World) : Calls Tryd.prog 39 #[.agg #[.int .i64 S, .int .i64 B, .int .i64 s]] w (Gives (.bool (mayB S B s)) w) := by
  have hb0 : Below w.heap.size w (w.alloc (.cells #[.int .i64 S, .int .i64 B, .int .i64 s] 61)) := (Below.refl _ _).alloc (Nat.le_refl _) _
  have blk := Block.new w 61 #[.int .i64 S, .int .i64 B, .int .i64 s]
  have out : ∀ P : Prop, (mayB S B s = true → P) → ¬ P → mayB S B s = false := fun P h hn => by
    cases hm : mayB S B s with
    | false => rfl
    | true => exact absurd (h hm) hn
  have hd : mayB S B s = true → (128 ≤ S ∧ S ≤ 4096) ∧ (128 ≤ B ∧ B ≤ 4096) ∧ B % S = 0 ∧ (1 ≤ s ∧ s ≤ 4096) ∧ 2 + B / S + s * (B / S) + s * (B / S) ≤ 1048576 := fun h => of_decide_eq_true h
  by_cases h0 : S < 128
  · rw [out _ hd (by omega)]
    clear out hd blk
    go_enter Tryd.func39, Tryd.ntmps39
    go_wp2
    go_ret
    exact ⟨rfl, hb0⟩
  by_cases h1 : 4096 < S
  · rw [out _ hd (by omega)]
    clear out hd blk
    go_enter Tryd.func39, Tryd.ntmps39
    go_wp2
    go_ret
    exact ⟨rfl, hb0⟩
  by_cases h2 : B < 128
  · rw [out _ hd (by omega)]
    clear out hd blk
    go_enter Tryd.func39, Tryd.ntmps39
    go_wp2
    go_ret
    exact ⟨rfl, hb0⟩
  by_cases h3 : 4096 < B
  · rw [out _ hd (by omega)]
    clear out hd blk
    go_enter Tryd.func39, Tryd.ntmps39
    go_wp2
    go_ret
    exact ⟨rfl, hb0⟩
  by_cases h4 : s < 1
  · rw [out _ hd (by omega)]
    clear out hd blk
    go_enter Tryd.func39, Tryd.ntmps39
    go_wp2
    go_ret
    exact ⟨rfl, hb0⟩
  by_cases h5 : 4096 < s
  · rw [out _ hd (by omega)]
    clear out hd blk
    go_enter Tryd.func39, Tryd.ntmps39
    go_wp2
    go_ret
    exact ⟨rfl, hb0⟩
  by_cases h6 : B % S = 0
  · have q6 : (B % S != 0) = false := by simpa using h6
    obtain ⟨q, hq⟩ : ∃ q, B / S = q := ⟨_, rfl⟩
    have hqb : 0 ≤ q ∧ q ≤ 32 := by
      have h0 : 0 ≤ q := by rw [← hq]; exact Int.ediv_nonneg (by omega) (by omega)
      have h1 : q * S ≤ B := by rw [← hq]; exact Int.ediv_mul_le B (by omega)
      have h2 : q * 128 ≤ q * S := Int.mul_le_mul_of_nonneg_left (by omega) h0
      omega
    have hsq : 0 ≤ s * q ∧ s * q ≤ 131072 := by
      have h1 : s * q ≤ s * 32 := Int.mul_le_mul_of_nonneg_left hqb.2 (by omega)
      exact ⟨Int.mul_nonneg (by omega) hqb.1, by omega⟩
    have h2sq : 2 * s * q = s * q + s * q := by rw [Int.mul_assoc, Int.two_mul]
    obtain ⟨p, hp⟩ : ∃ p, 2 * s * q = p := ⟨_, rfl⟩
    have hpb : 0 ≤ p ∧ p ≤ 262144 := by omega
    have hwp : IntKind.i64.wrap p = p := IntWalk.i64_in _ (by omega)
    have c0 : (w.alloc (.cells #[.int .i64 S, .int .i64 B, .int .i64 s] 61)).cell? ⟨w.heap.size, 0, none⟩ = some (.int .i64 S) := blk.cell 0
    have c1 : (w.alloc (.cells #[.int .i64 S, .int .i64 B, .int .i64 s] 61)).cell? ⟨w.heap.size, 1, none⟩ = some (.int .i64 B) := blk.cell 1
    have c2 : (w.alloc (.cells #[.int .i64 S, .int .i64 B, .int .i64 s] 61)).cell? ⟨w.heap.size, 2, none⟩ = some (.int .i64 s) := blk.cell 2
    have e : mayB S B s = decide (2 + q + p ≤ 1048576) := by
      unfold mayB
      rw [hq]
      by_cases h7 : 2 + q + p ≤ 1048576
      · rw [decide_eq_true h7, decide_eq_true (show _ from ⟨by omega, by omega, h6, by omega, by omega⟩)]
      · rw [decide_eq_false h7, decide_eq_false (fun h => h7 (by have := h.2.2.2.2; omega))]
    rw [e]
    clear out hd blk h6 h2sq hsq e
    go_enter Tryd.func39, Tryd.ntmps39
    go_wp2_with fail
    go_quiet (fail)
    go_wp2_with fail
    go_ret
    exact ⟨rfl, below_draws hb0 _⟩
  · have q6 : (B % S != 0) = true := by simpa using h6
    rw [out _ hd (by omega)]
    clear out hd blk h6
    go_enter Tryd.func39, Tryd.ntmps39
    go_wp2
    go_ret
    exact ⟨rfl, hb0⟩
end Go.Proofs.YtpnodocjpedcmaaDoor.Prt
