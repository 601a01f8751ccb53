/-
  Layer 2, octet: contracts of the lists of digits, and of the checks. Conditions: as each theorem names.
-/
import Derived.Test.YtdfgdchmeikigaaDoorDig
namespace Go.Proofs.YtdfgdchmeikigaaDoor.Oct
open Go.ChangeShapes Go.WideShapes Go.ChangeAt Go.RowKit Go.Proofs.YtdfgdchmeikigaaDoor.Kit

theorem elemi : IntElem Tryd.prog 76 3 .i64 8 := ⟨Tryd.underlying76, by kernel_rfl, by omega⟩

theorem digits_no (A : Option Addr) (n c : Nat) (w : Int) (W : World) (hw : ¬ (w = 1 ∨ w = 2 ∨ w = 4 ∨ w = 8)) :
    Calls Tryd.prog 86 #[.slice A n c, .int .i64 w] W fun e W' => e = .returned (.slice none 0 0) ∧ W = W' := by
  have H := Lib.hid hw
  clear hw
  go_enter Tryd.func86, Tryd.ntmps86
  go_wp2_with (go_at_call 95; refine (isw_no _ _ H.out).mono ?_; rintro e w' ⟨rfl, rfl⟩)
  go_ret
  exact ⟨rfl, rfl⟩

set_option maxHeartbeats 1600000 in
theorem digits_any (A : Option Addr) (xs : List Int) (c w : Nat) (W : World) (hn : xs.length ≤ 1000000) (hw : w = 1 ∨ w = 2 ∨ w = 4 ∨ w = 8) (ho : Octets xs) (hr : Holds W W.heap.size .u8 A xs) :
    Calls Tryd.prog 86 #[.slice A xs.length c, .int .i64 w] W fun e W' => ∃ v, e = .returned v ∧ Own W' W.heap.size 3 .i64 v (dgs xs w) ∧ Below W.heap.size W W' := by
  have hL := dgs_length xs w
  have hget := dgs_get xs w
  generalize dgs xs w = D at *
  rcases hw with rfl | rfl | rfl | rfl
  all_goals
    simp only [show 8 / 1 = 8 by rfl, show 8 / 2 = 4 by rfl, show 8 / 4 = 2 by rfl, show 8 / 8 = 1 by rfl, Nat.mul_one] at hL hget
    have Hget := Lib.hid hget
    have HL := Lib.hid hL
    have hDb : D.length ≤ 8000000 := by omega
    clear hL hget
    go_enter Tryd.func86, Tryd.ntmps86
    go_wp2_with (first
      | (go_at_call 95; refine (isw_yes _ _ (by omega)).mono ?_; rintro e w' ⟨rfl, rfl⟩)
      | (at_make; refine wpList_make_ints _ rfl _ _ _ rfl elemi D.length D.length rfl rfl (by have := HL.out; omega) (by have := HL.out; omega) (Nat.le_refl _) (by have := HL.out; omega) ?_; intro w1 own1 hb1 hz1))
    go_loopw [18] (fun i wr => ∃ j : Nat, j ≤ D.length ∧ i = .int .i64 j ∧ Own wr W.heap.size 3 .i64 (.slice (some ⟨W.heap.size, 0, none⟩) D.length D.length) (D.take j ++ List.replicate (D.length - j) 0) ∧ Below W.heap.size W wr) (fun i _ => D.length - (intOf i).toNat)
    case atStart => exact ⟨0, Nat.zero_le _, rfl, by simpa using own1, hb1⟩
    case round =>
      obtain ⟨j, hj, rfl, own, hb⟩ := hrel
      by_cases hlt : j < D.length
      · have hsz := hb.size
        have hr' := (hr.below hb)
        have hlen := Lib.hid (show D.length = (D.take j ++ List.replicate (D.length - j) 0).length by simp; omega)
        have hcj := own.cellAt hlen.out (i := j) (by have := hlen.out; omega)
        have hfj := own.frozenAt hlen.out j
        obtain ⟨z, hz⟩ : ∃ z, D[j]?.getD 0 = z := ⟨_, rfl⟩
        have st := fun q : Nat => ((own.drewN q).stored hlen.out j z).1
        have hzz := Hget.out j (by have := HL.out; omega)
        rw [fill_step D D.length j rfl hlt z hz] at st
        have St := Lib.hid st
        clear st
        rw [hz] at hzz
        have Hzz := Lib.hid hzz
        clear hz hzz
        go_wp2_with (first
          | (go_at_call 96; refine (digit_at _ xs c j _ _ _ hn (by omega) (by have := HL.out; have := hlen.out; first | (show j < xs.length * 8; omega) | (show j < xs.length * 4; omega) | (show j < xs.length * 2; omega) | (show j < xs.length * 1; omega)) ho hr').mono ?_
             rintro e w2 ⟨rfl, q, rfl⟩
             first | rw [show dg xs (Int.toNat 1) j = z from Hzz.out.symm] | rw [show dg xs (Int.toNat 2) j = z from Hzz.out.symm] | rw [show dg xs (Int.toNat 4) j = z from Hzz.out.symm] | rw [show dg xs (Int.toNat 8) j = z from Hzz.out.symm]))
        go_roundw
        case rel =>
          exact ⟨j + 1, by omega, by go_num, St.out q, (below_draws hb q).setCell (by simp) _⟩
        case measure => simp [intOf]; omega
      · go_wp2_with fail
        obtain rfl : j = D.length := by omega
        go_ret
        exact ⟨_, rfl, by simpa using own, hb⟩
end Go.Proofs.YtdfgdchmeikigaaDoor.Oct
