/-
  Layer 7, part: whether a layout may be, and its map: contracts. Conditions: as each theorem names.
-/
import Derived.Test.YtpnodocjpedcmaaDoorPart
namespace Go.Proofs.YtpnodocjpedcmaaDoor.Prt
open Go.ChangeShapes Go.WideShapes Go.ChangeAt Go.RowKit Go.Proofs.YtpnodocjpedcmaaDoor.Kit

theorem isin_yes (x a b : Int) (w : World) (h : a ≤ x ∧ x ≤ b) : Calls Tryd.prog 96 #[.int .i64 x, .int .i64 a, .int .i64 b] w fun e w' => e = .returned (.bool true) ∧ w = w' := by
  have := isin_any x a b w
  rwa [decide_eq_true h] at this
theorem isin_no (x a b : Int) (w : World) (h : ¬ (a ≤ x ∧ x ≤ b)) : Calls Tryd.prog 96 #[.int .i64 x, .int .i64 a, .int .i64 b] w fun e w' => e = .returned (.bool false) ∧ w = w' := by
  have := isin_any x a b w
  rwa [decide_eq_false h] at this

theorem field3 (v0 v1 v2 v3 v4 v5 v6 v7 v8 v9 v10 : Value) (w : World) : (Instr.field 45 (.agg #[v0, v1, v2, v3, v4, v5, v6, v7, v8, v9, v10]) 3).run Tryd.prog w = .ok v10 w := by kernel_rfl

def mayB (S B s : Int) : Bool := decide ((128 ≤ S ∧ S ≤ 4096) ∧ (128 ≤ B ∧ B ≤ 4096) ∧ B % S = 0 ∧ (1 ≤ s ∧ s ≤ 4096) ∧ 2 + B / S + s * (B / S) + s * (B / S) ≤ 1048576)

set_option maxRecDepth 100000 in
set_option maxHeartbeats 1600000 in
theorem may_any (S B s : Int) (w : World) : Calls Tryd.prog 83 #[.agg #[.int .i64 S, .int .i64 B, .int .i64 s]] w (Gives (.bool (mayB S B s)) w) := by
  have hb0 : Below w.heap.size w (w.alloc (.cells #[.int .i64 S, .int .i64 B, .int .i64 s] 61)) := (Below.refl _ _).alloc (Nat.le_refl _) _
  have out : ∀ P : Prop, (mayB S B s = true → P) → ¬ P → mayB S B s = false := fun P h hn => by
    cases hm : mayB S B s with
    | false => rfl
    | true => exact absurd (h hm) hn
  have hd : mayB S B s = true → (128 ≤ S ∧ S ≤ 4096) ∧ (128 ≤ B ∧ B ≤ 4096) ∧ B % S = 0 ∧ (1 ≤ s ∧ s ≤ 4096) ∧ 2 + B / S + s * (B / S) + s * (B / S) ≤ 1048576 := fun h => of_decide_eq_true h
  by_cases h1 : 128 ≤ S ∧ S ≤ 4096
  · by_cases h2 : 128 ≤ B ∧ B ≤ 4096
    · by_cases h3 : B % S = 0
      · have q3 : (B % S == 0) = true := by simpa using h3
        by_cases h4 : 1 ≤ s ∧ s ≤ 4096
        · obtain ⟨q, hq⟩ : ∃ q, B / S = q := ⟨_, rfl⟩
          have gl := fun W => lay_any S B s q W h1 h2 h4 hq
          unfold mapV at gl
          have hf3 := field3
          have GL := Lib.hid gl
          by_cases h5 : 2 + q + s * q + s * q ≤ 1048576
          · have hm : mayB S B s = true := decide_eq_true ⟨h1, h2, h3, h4, by rw [hq]; exact h5⟩
            rw [hm]
            clear hm out hd hq h3 gl
            go_enter Tryd.func83, Tryd.ntmps83
            go_wp2_with (first
              | (go_at_call 96; refine (isin_yes _ _ _ _ (by omega)).mono ?_; rintro e w' ⟨rfl, rfl⟩)
              | (go_at_call 84; refine (GL.out _).mono ?_; rintro e w2 ⟨rfl, hb2⟩))
            go_ret
            exact ⟨rfl, hb0.trans (hb2.mono (by simp))⟩
          · have hm : mayB S B s = false := out _ hd (fun h => h5 (by have := h.2.2.2.2; rwa [hq] at this))
            rw [hm]
            clear hm out hd hq h3 gl
            go_enter Tryd.func83, Tryd.ntmps83
            have q5 : decide (2 + q + s * q + s * q ≤ 1048576) = false := by simpa using h5
            go_wp2_with (first
              | (go_at_call 96; refine (isin_yes _ _ _ _ (by omega)).mono ?_; rintro e w' ⟨rfl, rfl⟩)
              | (go_at_call 84; refine (GL.out _).mono ?_; rintro e w2 ⟨rfl, hb2⟩))
            go_ret
            exact ⟨rfl, hb0.trans (hb2.mono (by simp))⟩
        · have hm : mayB S B s = false := out _ hd (fun h => h4 h.2.2.2.1)
          rw [hm]
          clear hm out hd h3
          have H4 := Lib.hid h4
          clear h4
          go_enter Tryd.func83, Tryd.ntmps83
          go_wp2_with (first
            | (go_at_call 96; refine (isin_yes _ _ _ _ (by omega)).mono ?_; rintro e w' ⟨rfl, rfl⟩)
            | (go_at_call 96; refine (isin_no _ _ _ _ H4.out).mono ?_; rintro e w' ⟨rfl, rfl⟩))
          go_ret
          exact ⟨rfl, hb0⟩
      · have hm : mayB S B s = false := out _ hd (fun h => h3 h.2.2.1)
        have q3 : (B % S == 0) = false := by simpa using h3
        rw [hm]
        clear hm out hd h3
        go_enter Tryd.func83, Tryd.ntmps83
        go_wp2_with (go_at_call 96; refine (isin_yes _ _ _ _ (by omega)).mono ?_; rintro e w' ⟨rfl, rfl⟩)
        go_ret
        exact ⟨rfl, hb0⟩
    · have hm : mayB S B s = false := out _ hd (fun h => h2 h.2.1)
      rw [hm]
      clear hm out hd
      have H2 := Lib.hid h2
      clear h2
      go_enter Tryd.func83, Tryd.ntmps83
      go_wp2_with (first
        | (go_at_call 96; refine (isin_yes _ _ _ _ (by omega)).mono ?_; rintro e w' ⟨rfl, rfl⟩)
        | (go_at_call 96; refine (isin_no _ _ _ _ H2.out).mono ?_; rintro e w' ⟨rfl, rfl⟩))
      go_ret
      exact ⟨rfl, hb0⟩
  · have hm : mayB S B s = false := out _ hd (fun h => h1 h.1)
    rw [hm]
    clear hm out hd
    have H1 := Lib.hid h1
    clear h1
    go_enter Tryd.func83, Tryd.ntmps83
    go_wp2_with (go_at_call 96; refine (isin_no _ _ _ _ H1.out).mono ?_; rintro e w' ⟨rfl, rfl⟩)
    go_ret
    exact ⟨rfl, hb0⟩
end Go.Proofs.YtpnodocjpedcmaaDoor.Prt
