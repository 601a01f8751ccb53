/-
  Layer 16, plan: what takes a number of a writing: contract. Conditions: as each theorem names.
-/
import Derived.Test.YtjcofmeknpgjnaaPlT
namespace Go.Proofs.Ytjcofmeknpgjnaa.Pl
open Go.ChangeShapes Go.WideShapes Go.ChangeAt Go.RowKit Go.Proofs.Ytjcofmeknpgjnaa.Kit

/-- What is thrown: bytes are missing, or something isn't right. -/
def thrown (why : Int) : Value := if why = 2 then .iface 50 (.agg #[]) else .iface 52 (.agg #[.int .i64 why])

def NumTold (B r : Nat) (w : World) (res : Except Int (Int × List Int)) (e : Ending) (w' : World) : Prop :=
  TurnsIn (fun b => b = r) w w' ∧ match res with
  | .ok (x, l) => e = .returned (.int .i64 x) ∧ Rest w' B r l
  | .error why => e = .panicked [{ v := thrown why, recovered := false }]

theorem refuse_thrown (why : Int) (w : World) : Calls Try.prog 29 #[.bool true, .int .i64 why] w fun e w' => e = .panicked [{ v := .iface 52 (.agg #[.int .i64 why]), recovered := false }] ∧ w = w' := by
  go_enter Try.func29, Try.ntmps29
  go_wp2
  exact ⟨rfl, rfl, rfl⟩

theorem or_in (x c : Int) (i : Nat) (hi : i ≤ 4) (hx : 0 ≤ x ∧ x < 128 ^ i) : bits BinOp.or .i64 x (wrap64 (bits BinOp.and .i64 c 127 * 2 ^ (7 * i))) = x + 128 ^ i * (c % 128) := by
  rw [i64_and127, ← or_seven x c i hi hx]
  have h1 : (2 : Int) ^ (7 * i) = 128 ^ i := by rw [Int.pow_mul]; rfl
  have h2 : 0 ≤ c % 128 ∧ c % 128 ≤ 127 := by omega
  have h3 : (128 : Int) ^ i ≤ 128 ^ 4 := (show ∀ j, j < 5 → (128 : Int) ^ j ≤ 128 ^ 4 by decide) i (by omega)
  have h4 : (0 : Int) < 128 ^ i := Int.pow_pos (by decide)
  have h5 : 0 ≤ c % 128 * 128 ^ i := Int.mul_nonneg h2.1 (by omega)
  have h6 : c % 128 * 128 ^ i ≤ 127 * 128 ^ 4 := Int.mul_le_mul h2.2 h3 (by omega) (by decide)
  rw [h1, ← IntWalk.i64_left, IntKind.wrap_i64]
  congr 1
  omega

set_option maxRecDepth 100000 in
set_option maxHeartbeats 3200000 in
theorem rnum_any (B r : Nat) (xs : List Int) (w : World) (h : Rest w B r xs) (hB : B ≤ w.heap.size) (hl : xs.length ≤ 1000000) (ho : Octets xs) :
    Calls Try.prog 30 #[.pointer (some ⟨r, 0, none⟩)] w (NumTold B r w (numG 5 1 0 xs)) := by
  obtain ⟨res, hres⟩ : ∃ res, numG 5 1 0 xs = res := ⟨_, rfl⟩
  rw [hres]
  go_enter Try.func30, Try.ntmps30
  go_wp2_with fail
  go_loopw [3, 6] (fun u s wr => ∃ (i : Nat) (x : Int) (l : List Int), i ≤ 5 ∧ s = .int .i64 i ∧ u = .int .i64 x ∧ 0 ≤ x ∧ x < 128 ^ i ∧ numG (5 - i) (128 ^ i) x l = res ∧ l.length ≤ xs.length ∧ Octets l ∧ Rest wr B r l ∧ TurnsIn (fun b => b = r) w wr) (fun _ s _ => 5 - (intOf s).toNat)
  case atStart => exact ⟨0, 0, xs, by omega, rfl, rfl, by omega, by omega, hres, Nat.le_refl _, ho, h, TurnsIn.refl _ _⟩
  case round =>
    obtain ⟨i, x, l, hi, rfl, rfl, hx0, hx1, hg, hll, hol, hR, t⟩ := hrel
    have hBr : B ≤ wr.heap.size := Nat.le_trans hB t.size
    by_cases hlt : i < 5
    · obtain ⟨f, hf⟩ : ∃ f, 5 - i = f + 1 := ⟨4 - i, by omega⟩
      rw [hf] at hg
      cases l with
      | nil =>
        obtain rfl : res = .error 2 := by rw [← hg]; rfl
        have G := Lib.hid (take_no B r [] 1 wr hR (by simp) (by simp))
        clear hg hx1 hres h ho hR hol
        go_wp2_with (go_at_call 28; refine G.out.mono ?_; rintro e w2 ⟨rfl, rfl⟩)
        exact ⟨rfl, t, rfl⟩
      | cons c l =>
        have hc := hol c (by simp)
        have hol2 : Octets l := fun y hy => hol y (by simp [hy])
        have G := Lib.hid (take_ok B r (c :: l) 1 wr hR hBr (by omega) (by simp))
        have hv := or_in x c i (by omega) ⟨hx0, hx1⟩
        obtain ⟨y, hy⟩ : ∃ y, x + 128 ^ i * (c % 128) = y := ⟨_, rfl⟩
        rw [hy] at hv
        have hyb : 0 ≤ y ∧ y < 128 ^ (i + 1) := by
          have h2 : 0 ≤ c % 128 ∧ c % 128 ≤ 127 := by omega
          have h4 : (0 : Int) < 128 ^ i := Int.pow_pos (by decide)
          have h5 : 0 ≤ 128 ^ i * (c % 128) := Int.mul_nonneg (by omega) h2.1
          have h6 : 128 ^ i * (c % 128) ≤ 128 ^ i * 127 := Int.mul_le_mul_of_nonneg_left h2.2 (by omega)
          rw [Int.pow_succ]
          omega
        have HYB := Lib.hid hyb
        have hll2 : l.length ≤ xs.length := by simp at hll; omega
        rw [numG] at hg
        by_cases h128 : c < 128
        · rw [if_pos h128] at hg
          have hcm : c % 128 = c := by omega
          rw [hcm] at hy
          by_cases h0 : c = 0 ∧ f < 4
          · rw [if_pos h0] at hg
            subst hg
            obtain rfl := h0.1
            have hi0 : decide (0 < i) = true := decide_eq_true (by omega)
            clear hx1 hres h ho hR hol hy hyb
            go_wp2_with (first
              | (go_at_call 28; refine G.out.mono ?_; rintro e w2 ⟨A2, c2, rfl, hl2, hm2, hh2, hR2, t2⟩; obtain ⟨b2, o2, rfl, hb2, hc2⟩ := hh2 (by simp); have d2 := hc2 0 (by simp); simp only [List.take_succ_cons, List.getD_cons_zero, Nat.add_zero] at d2)
              | (go_at_call 29; refine (refuse_thrown 13 _).mono ?_; rintro e w3 ⟨rfl, rfl⟩))
            exact ⟨rfl, t.trans t2, rfl⟩
          · rw [if_neg h0, hy] at hg
            subst hg
            clear hx1 hres h ho hR hol hyb
            by_cases hc0 : c = 0
            · subst hc0
              have hi0 : decide (0 < i) = false := decide_eq_false (by omega)
              have HY := Lib.hid hy
              clear hy h0
              go_wp2_with (first
                | (go_at_call 28; refine G.out.mono ?_; rintro e w2 ⟨A2, c2, rfl, hl2, hm2, hh2, hR2, t2⟩; obtain ⟨b2, o2, rfl, hb2, hc2⟩ := hh2 (by simp); have d2 := hc2 0 (by simp); simp only [List.take_succ_cons, List.getD_cons_zero, Nat.add_zero] at d2)
                | (go_at_call 29; refine (refuse_no 13 _).mono ?_; rintro e w3 ⟨rfl, rfl⟩))
              go_ret
              exact ⟨t.trans t2, rfl, hR2⟩
            · have hce : (c == 0) = false := by rw [beq_eq_false_iff_ne]; exact hc0
              have HY := Lib.hid hy
              clear hy h0
              go_wp2_with (first
                | (go_at_call 28; refine G.out.mono ?_; rintro e w2 ⟨A2, c2, rfl, hl2, hm2, hh2, hR2, t2⟩; obtain ⟨b2, o2, rfl, hb2, hc2⟩ := hh2 (by simp); have d2 := hc2 0 (by simp); simp only [List.take_succ_cons, List.getD_cons_zero, Nat.add_zero] at d2)
                | (go_at_call 29; refine (refuse_no 13 _).mono ?_; rintro e w3 ⟨rfl, rfl⟩))
              go_ret
              exact ⟨t.trans t2, rfl, hR2⟩
        · rw [if_neg h128, hy] at hg
          have HGr := Lib.hid hg
          clear hg hx1 hres h ho hR hol hy hyb
          go_wp2_with (go_at_call 28; refine G.out.mono ?_; rintro e w2 ⟨A2, c2, rfl, hl2, hm2, hh2, hR2, t2⟩; obtain ⟨b2, o2, rfl, hb2, hc2⟩ := hh2 (by simp); have d2 := hc2 0 (by simp); simp only [List.take_succ_cons, List.getD_cons_zero, Nat.add_zero] at d2)
          go_roundw
          case rel => exact ⟨i + 1, y, l, by omega, by go_num, rfl, HYB.out.1, HYB.out.2, by rw [show 5 - (i + 1) = f by omega, Int.pow_succ]; exact HGr.out, hll2, hol2, hR2, t.trans t2⟩
          case measure => simp [intOf] <;> omega
    · obtain rfl : i = 5 := by omega
      obtain rfl : res = .error 13 := by rw [← hg]; rfl
      clear hg hx1 hres h ho hR hol
      go_wp2_with fail
      exact ⟨rfl, t, rfl⟩
end Go.Proofs.Ytjcofmeknpgjnaa.Pl
