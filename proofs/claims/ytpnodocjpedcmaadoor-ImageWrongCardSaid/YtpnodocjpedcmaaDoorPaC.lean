/-
  Layer 7, part: Open, Size, has: contracts. Conditions: as each theorem names.
-/
import Derived.Test.YtpnodocjpedcmaaDoorPaB
import Derived.BigQuiet
namespace Go.Proofs.YtpnodocjpedcmaaDoor.Pt
open Go.ChangeShapes Go.WideShapes Go.ChangeAt Go.RowKit Go.Proofs.YtpnodocjpedcmaaDoor.Kit Go.Proofs.YtpnodocjpedcmaaDoor.Sec

theorem isin_any (x a b : Int) (w : World) : Calls Tryd.prog 96 #[.int .i64 x, .int .i64 a, .int .i64 b] w fun e w' => e = .returned (.bool (decide (a ≤ x ∧ x ≤ b))) ∧ w = w' := by
  by_cases h1 : a ≤ x
  · by_cases h2 : x ≤ b
    · rw [decide_eq_true (show a ≤ x ∧ x ≤ b from ⟨h1, h2⟩)]
      have q : decide (x ≤ b) = true := by simpa using h2
      go_enter Tryd.func96, Tryd.ntmps96
      go_wp2
      go_ret
      exact ⟨rfl, rfl⟩
    · rw [decide_eq_false (show ¬ (a ≤ x ∧ x ≤ b) from fun h => h2 h.2)]
      have q : decide (x ≤ b) = false := by simpa using h2
      go_enter Tryd.func96, Tryd.ntmps96
      go_wp2
      go_ret
      exact ⟨rfl, rfl⟩
  · rw [decide_eq_false (show ¬ (a ≤ x ∧ x ≤ b) from fun h => h1 h.1)]
    go_enter Tryd.func96, Tryd.ntmps96
    go_wp2
    go_ret
    exact ⟨rfl, rfl⟩

/-- A part of the device in block a lies in block p. -/
def PartAt (w : World) (p a : Nat) (F C : Int) : Prop := Block w p 139 #[.pointer (some ⟨a, 0, none⟩), .int .i64 F, .int .i64 C]
/-- A region that is there; T: how many bytes it has. -/
structure Lies (s : Dv) (F C : Int) (T : Nat) : Prop where
  f0 : 0 ≤ F
  c1 : 1 ≤ C
  fc : F + C ≤ s.count
  t : C * (s.size : Int) = T
theorem Lies.most {s : Dv} {F C : Int} {T : Nat} (h : Lies s F C T) (hs : s.Ok) : T ≤ 4294967296 := by
  have h1 : C ≤ 1048576 := by have := h.fc; have := h.f0; have := hs.c2; omega
  have h2 := h.c1
  have h3 : (s.size : Int) ≤ 4096 := by have := hs.s2; omega
  have h4 : C * (s.size : Int) ≤ 1048576 * 4096 := Int.mul_le_mul h1 h3 (by omega) (by omega)
  have := h.t
  omega

set_option maxRecDepth 100000 in
set_option maxHeartbeats 3200000 in
theorem psize_any (I : Nat → Prop) (p a mk mw : Nat) (F C : Int) (T : Nat) (s : Dv) (w : World) (hp : PartAt w p a F C) (h : DvAt w I a mk mw s) (hl : Lies s F C T) :
    Calls Tryd.prog 97 #[.pointer (some ⟨p, 0, none⟩)] w fun e w' => e = .returned (.int .i64 T) ∧ ∃ n, w' = w.drewN n := by
  have x0 : w.cell? ⟨p, 0, none⟩ = some (.pointer (some ⟨a, 0, none⟩)) := hp.cell 0
  have x1 : w.cell? ⟨p, 1, none⟩ = some (.int .i64 F) := hp.cell 1
  have x2 : w.cell? ⟨p, 2, none⟩ = some (.int .i64 C) := hp.cell 2
  have HD : Hid (∀ n, DvAt (w.drewN n) I a mk mw s) := Lib.hid (fun n => h.below (below_draws (Below.refl _ _) n))
  have hm := hl.t
  have hT := hl.most h.ok
  clear h hl hp
  go_enter Tryd.func97, Tryd.ntmps97
  go_wp2_with fail
  go_quiet ((go_at_call 57; exact Calls.quiet_of_same ((size_any I a mk mw s _ (HD.out _)).mono fun _ _ h => ⟨h.1, h.2.symm⟩)))
  go_wp2_with fail
  go_ret
  exact ⟨rfl, nq, rfl⟩

set_option maxRecDepth 100000 in
set_option maxHeartbeats 3200000 in
theorem has_any (I : Nat → Prop) (p a mk mw : Nat) (F C : Int) (T : Nat) (s : Dv) (x n : Int) (w : World) (hp : PartAt w p a F C) (h : DvAt w I a mk mw s) (hl : Lies s F C T) (hx : -9223372036854775808 ≤ x ∧ x ≤ 9223372036854775807) :
    Calls Tryd.prog 76 #[.pointer (some ⟨p, 0, none⟩), .int .i64 x, .int .i64 n] w fun e w' => e = .returned (.bool (decide (0 ≤ x ∧ x ≤ T ∧ 0 ≤ n ∧ n ≤ T - x))) ∧ ∃ k, w' = w.drewN k := by
  have GS := Lib.hid (fun k => psize_any I p a mk mw F C T s (w.drewN k) hp (h.below (below_draws (Below.refl _ _) k)) hl)
  have GS0 := Lib.hid (psize_any I p a mk mw F C T s w hp h hl)
  have hT := hl.most h.ok
  clear hp h hl
  by_cases h1 : 0 ≤ x ∧ x ≤ (T : Int)
  · rw [show decide (0 ≤ x ∧ x ≤ (T : Int) ∧ 0 ≤ n ∧ n ≤ (T : Int) - x) = decide (0 ≤ n ∧ n ≤ (T : Int) - x) by rw [decide_eq_decide]; omega]
    have GI1 := Lib.hid (fun W => isin_any x 0 T W)
    have GI2 := Lib.hid (fun W => isin_any n 0 ((T : Int) - x) W)
    rw [decide_eq_true h1] at GI1
    generalize decide (0 ≤ n ∧ n ≤ (T : Int) - x) = b at *
    go_enter Tryd.func76, Tryd.ntmps76
    go_wp2_with (first
      | (go_at_call 97; (with_reducible refine GS0.out.mono ?_); rintro e w1 ⟨rfl, k1, rfl⟩; clear GS0)
      | (go_at_call 97; (with_reducible refine (GS.out k1).mono ?_); rintro e w1 ⟨rfl, k2, rfl⟩)
      | (go_at_call 96; (with_reducible refine (GI1.out _).mono ?_); rintro e w1 ⟨rfl, rfl⟩)
      | (go_at_call 96; (with_reducible refine (GI2.out _).mono ?_); rintro e w1 ⟨rfl, rfl⟩))
    go_ret
    exact ⟨rfl, k1 + k2, rfl⟩
  · rw [decide_eq_false (fun h => h1 ⟨h.1, h.2.1⟩)]
    have GI1 := Lib.hid (fun W => isin_any x 0 T W)
    rw [decide_eq_false h1] at GI1
    go_enter Tryd.func76, Tryd.ntmps76
    go_wp2_with (first
      | (go_at_call 97; (with_reducible refine GS0.out.mono ?_); rintro e w1 ⟨rfl, k1, rfl⟩)
      | (go_at_call 96; (with_reducible refine (GI1.out _).mono ?_); rintro e w1 ⟨rfl, rfl⟩))
    go_ret
    exact ⟨rfl, k1, rfl⟩
end Go.Proofs.YtpnodocjpedcmaaDoor.Pt
