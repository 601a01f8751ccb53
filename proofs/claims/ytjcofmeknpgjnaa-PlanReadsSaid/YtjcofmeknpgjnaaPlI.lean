/-
  Layer 16, plan: the document's reading of a number: contract. Conditions: as each theorem names.
-/
import Derived.Test.YtjcofmeknpgjnaaPlU
import Derived.Test.YtjcofmeknpgjnaaPlA
namespace Go.Proofs.Ytjcofmeknpgjnaa.Pl
open Go.ChangeShapes Go.WideShapes Go.ChangeAt Go.RowKit Go.Proofs.Ytjcofmeknpgjnaa.Kit

def numV (n : Nat) : Except Int (Int × List Int) → Value
  | .ok (x, l) => .tuple #[.int .i64 x, .int .i64 ((n : Int) - (l.length : Int)), .int .i64 0]
  | .error why => .tuple #[.int .i64 0, .int .i64 0, .int .i64 why]

theorem wrap64_in {x : Int} (h : -9223372036854775808 ≤ x ∧ x ≤ 9223372036854775807) : wrap64 x = x := by
  rw [← IntWalk.i64_left, IntKind.wrap_i64]
  omega

theorem ret_num {a b c a' b' c' : Int} (h1 : a = a') (h2 : b = b') (h3 : c = c') : Ending.returned (.tuple #[.int .i64 a, .int .i64 b, .int .i64 c]) = .returned (.tuple #[.int .i64 a', .int .i64 b', .int .i64 c']) := by rw [h1, h2, h3]

set_option maxRecDepth 100000 in
set_option maxHeartbeats 3200000 in
theorem dnum_any (A : Option Addr) (xs : List Int) (c : Nat) (at_ : Nat) (w : World) (hl : xs.length ≤ 1000000) (hc : xs.length ≤ c) (hm : c ≤ maxLen) (ho : Octets xs) (hr : Holds w w.heap.size .u8 A xs) (hat : at_ ≤ xs.length) :
    Calls Try.prog 31 #[.slice A xs.length c, .int .i64 at_] w fun e w' => e = .returned (numV xs.length (numG 5 1 0 (xs.drop at_))) ∧ w = w' := by
  obtain ⟨res, hres⟩ : ∃ res, numG 5 1 0 (xs.drop at_) = res := ⟨_, rfl⟩
  rw [hres]
  go_enter Try.func31, Try.ntmps31
  go_wp2_with fail
  go_loopw [7, 8, 9] (fun u v s wr => ∃ (i : Nat) (x p : Int), i ≤ 5 ∧ s = .int .i64 i ∧ u = .int .i64 x ∧ v = .int .i64 p ∧ p = 128 ^ i ∧ 0 ≤ x ∧ x < p ∧ at_ + i ≤ xs.length ∧ numG (5 - i) p x (xs.drop (at_ + i)) = res ∧ w = wr) (fun _ _ s _ => 5 - (intOf s).toNat)
  case atStart => exact ⟨0, 0, 1, by omega, rfl, rfl, rfl, rfl, by omega, by omega, by omega, hres, rfl⟩
  case round =>
    obtain ⟨i, x, p, hi, rfl, rfl, rfl, hp, hx0, hx1, hai, hg, rfl⟩ := hrel
    by_cases hlt : i < 5
    · obtain ⟨f, hf⟩ : ∃ f, 5 - i = f + 1 := ⟨4 - i, by omega⟩
      rw [hf] at hg
      by_cases hin : at_ + i < xs.length
      · obtain ⟨b, off, rfl, hb, hcs⟩ := hr (by omega)
        have d0 := hcs (at_ + i) hin
        have hcb := getD_octet ho (at_ + i)
        have hdr : xs.drop (at_ + i) = xs.getD (at_ + i) 0 :: xs.drop (at_ + i + 1) := by
          rw [List.drop_eq_getElem_cons hin]
          simp [List.getD, List.getElem?_eq_getElem hin]
        have hlen2 : (xs.drop (at_ + i + 1)).length = xs.length - (at_ + i + 1) := by simp
        rw [hdr, numG] at hg
        generalize xs.getD (at_ + i) 0 = z at *
        have hpb : 1 ≤ p ∧ p ≤ 268435456 := by
          rw [hp]
          exact (show ∀ j, j < 5 → (1 : Int) ≤ 128 ^ j ∧ (128 : Int) ^ j ≤ 268435456 by decide) i (by omega)
        obtain ⟨m, hmm⟩ : ∃ m, p * (z % 128) = m := ⟨_, rfl⟩
        have hmb : 0 ≤ m ∧ m ≤ 127 * p := by
          have h5 : 0 ≤ p * (z % 128) := Int.mul_nonneg (by omega) (by omega)
          have h6 : p * (z % 128) ≤ p * 127 := Int.mul_le_mul_of_nonneg_left (by omega) (by omega)
          omega
        have hq : Int.tmod z 128 = z % 128 := Int.tmod_eq_emod_of_nonneg hcb.1
        have hw : wrap64 (p * (z % 128)) = m := by rw [hmm]; exact wrap64_in (by omega)
        have hpn : p * 128 = 128 ^ (i + 1) := by rw [hp, Int.pow_succ]
        have hge : decide ((xs.length : Int) ≤ (at_ : Int) + (i : Int)) = false := decide_eq_false (by omega)
        have HPN := Lib.hid hpn
        have HP := Lib.hid hp
        clear hcs hp hpn hdr hres ho
        by_cases h128 : z < 128
        · rw [if_pos h128] at hg
          have hzm : z % 128 = z := by omega
          rw [hzm] at hmm
          by_cases h0 : z = 0 ∧ f < 4
          · rw [if_pos h0] at hg
            subst hg
            obtain rfl := h0.1
            have hi0 : decide (0 < i) = true := decide_eq_true (by omega)
            go_wp2_with fail
            go_ret3
            exact ⟨rfl, rfl⟩
          · rw [if_neg h0, hmm] at hg
            subst hg
            by_cases hz0 : z = 0
            · subst hz0
              have hi0 : decide (0 < i) = false := decide_eq_false (by omega)
              clear h0
              go_wp2_with fail
              go_ret3
              exact ⟨ret_num rfl (by omega) rfl, rfl⟩
            · have hze : (z == 0) = false := by rw [beq_eq_false_iff_ne]; exact hz0
              clear h0
              go_wp2_with fail
              go_ret3
              exact ⟨ret_num rfl (by omega) rfl, rfl⟩
        · rw [if_neg h128, hmm] at hg
          have HGr := Lib.hid hg
          clear hg hmm
          go_wp2_with fail
          go_roundw
          case rel => exact ⟨i + 1, x + m, p * 128, by omega, by go_num, rfl, rfl, HPN.out, by omega, by omega, by omega, by rw [show 5 - (i + 1) = f by omega]; exact HGr.out, trivial⟩
          case measure => simp [intOf] <;> omega
      · have hdr : xs.drop (at_ + i) = [] := List.drop_eq_nil_of_le (by omega)
        rw [hdr] at hg
        obtain rfl : res = .error 2 := by rw [← hg]; rfl
        have hge : decide ((xs.length : Int) ≤ (at_ : Int) + (i : Int)) = true := decide_eq_true (by omega)
        clear hg hdr hres ho hp
        go_wp2_with fail
        go_ret3
        exact ⟨rfl, rfl⟩
    · obtain rfl : i = 5 := by omega
      obtain rfl : res = .error 13 := by rw [← hg]; rfl
      clear hg hres ho hp
      go_wp2_with fail
      go_ret3
      exact ⟨rfl, rfl⟩
end Go.Proofs.Ytjcofmeknpgjnaa.Pl
