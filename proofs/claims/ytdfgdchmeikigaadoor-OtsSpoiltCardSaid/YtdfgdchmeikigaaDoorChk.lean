/-
  Layer 2, octet: contracts of the checks. Conditions: as each theorem names.
-/
import Derived.Test.YtdfgdchmeikigaaDoorDigs2
namespace Go.Proofs.YtdfgdchmeikigaaDoor.Oct
open Go.ChangeShapes Go.WideShapes Go.ChangeAt Go.RowKit Go.Proofs.YtdfgdchmeikigaaDoor.Kit

def Gives (v : Value) (w : World) (e : Ending) (w' : World) : Prop := e = .returned v ∧ Below w.heap.size w w'

theorem check_no (A : Option Addr) (xs : List Int) (c : Nat) (w : Int) (W : World) (hw : ¬ (w = 1 ∨ w = 2 ∨ w = 4 ∨ w = 8)) :
    Calls Tryd.prog 87 #[.slice A xs.length c, .int .i64 w] W (Gives (.int .u16 0) W) := by
  have H := Lib.hid hw
  have h1 : (w == 1) = false := by simp; omega
  have h2 : (w == 2) = false := by simp; omega
  have h3 : (w == 4) = false := by simp; omega
  clear hw
  go_enter Tryd.func87, Tryd.ntmps87
  go_wp2_with (go_at_call 86; refine (digits_no _ _ _ _ _ H.out).mono ?_; rintro e w' ⟨rfl, rfl⟩)
  refine wp_loop_rounds 1 ?_
  rw [rounds_succ]
  go_wp2
  go_ret
  exact ⟨rfl, Below.refl _ _⟩

theorem rcheck_no (A : Option Addr) (xs : List Int) (c : Nat) (w : Int) (W : World) (hw : ¬ (w = 1 ∨ w = 2 ∨ w = 4 ∨ w = 8)) :
    Calls Tryd.prog 88 #[.slice A xs.length c, .int .i64 w] W (Gives (.int .u16 0) W) := by
  have h1 : (w == 1) = false := by simp; omega
  have h2 : (w == 2) = false := by simp; omega
  have h3 : (w == 4) = false := by simp; omega
  have h4 : (w == 8) = false := by simp; omega
  clear hw
  go_enter Tryd.func88, Tryd.ntmps88
  go_wp2
  go_ret
  exact ⟨rfl, Below.refl _ _⟩

set_option maxHeartbeats 1600000 in
theorem check_1 (A : Option Addr) (xs : List Int) (c : Nat) (W : World) (hn : xs.length ≤ 1000000) (ho : Octets xs) (hr : Holds W W.heap.size .u8 A xs) :
    Calls Tryd.prog 87 #[.slice A xs.length c, .int .i64 1] W (Gives (.int .u16 (lack (dgs xs 1) 1 * 128 % 65536)) W) := by
  have hbd := dgs_bd xs 1 (by decide)
  have hlen := dgs_length xs 1
  have hlen2 : (dgs xs 1).length ≤ 8000000 := by rw [hlen]; omega
  have g1 := digits_as A xs (dgs xs 1) c 1 W (by unfold digs; rw [if_pos (by decide)]; rfl) hn ho hr
  generalize dgs xs 1 = zs at *
  have G1 := Lib.hid g1
  clear g1 hlen
  have Hbd : Hid (∀ z ∈ zs, 0 ≤ z ∧ z ≤ 1) := Lib.hid hbd
  clear hbd
  go_enter Tryd.func87, Tryd.ntmps87
  go_wp2_with (go_at_call 86; refine G1.out.mono ?_; rintro e w1 ⟨A1, c1, rfl, hl1, hm1, hr1, hb1⟩)
  go_loopw [5, 12] (fun s i wr => ∃ k : Nat, k ≤ zs.length ∧ i = .int .i64 k ∧ s = .int .u16 (lack (zs.take k) 1 % 65536) ∧ wr = w1) (fun _ i _ => zs.length - (intOf i).toNat)
  case atStart => exact ⟨0, Nat.zero_le _, rfl, by simp [lack], rfl⟩
  case round =>
    obtain ⟨k, hk, rfl, rfl, rfl⟩ := hrel
    have hlk := lack_bd zs 1 (by omega) Hbd.out k hk
    by_cases hlt : k < zs.length
    · obtain ⟨b1, o1, rfl, hbl1, hc1⟩ := hr1 (by omega)
      have e1 := hc1 k hlt
      have hz := Hbd.out (zs[k]?.getD 0) (by rw [List.getElem?_eq_getElem hlt]; exact List.getElem_mem _)
      have hT := lack_take zs 1 k hlt
      rw [show zs.getD k 0 = zs[k]?.getD 0 by simp [List.getD]] at e1
      generalize zs[k]?.getD 0 = z at *
      have HT := Lib.hid hT
      clear hc1 hT
      go_wp2
      go_round
      case rel => exact ⟨k + 1, by omega, by go_num, by rw [HT.out, w16_add], trivial⟩
      case measure => simp [intOf]; omega
    · obtain rfl : k = zs.length := by omega
      rw [List.take_of_length_le (Nat.le_refl _)]
      go_wp2
      go_ret
      refine ⟨?_, hb1⟩
      first | (rw [w16_mul]; rfl) | (rw [Int.mul_one]; rfl)

set_option maxHeartbeats 1600000 in
theorem check_2 (A : Option Addr) (xs : List Int) (c : Nat) (W : World) (hn : xs.length ≤ 1000000) (ho : Octets xs) (hr : Holds W W.heap.size .u8 A xs) :
    Calls Tryd.prog 87 #[.slice A xs.length c, .int .i64 2] W (Gives (.int .u16 (lack (dgs xs 2) 3 * 64 % 65536)) W) := by
  have hbd := dgs_bd xs 2 (by decide)
  have hlen := dgs_length xs 2
  have hlen2 : (dgs xs 2).length ≤ 8000000 := by rw [hlen]; omega
  have g1 := digits_as A xs (dgs xs 2) c 2 W (by unfold digs; rw [if_pos (by decide)]; rfl) hn ho hr
  generalize dgs xs 2 = zs at *
  have G1 := Lib.hid g1
  clear g1 hlen
  have Hbd : Hid (∀ z ∈ zs, 0 ≤ z ∧ z ≤ 3) := Lib.hid hbd
  clear hbd
  go_enter Tryd.func87, Tryd.ntmps87
  go_wp2_with (go_at_call 86; refine G1.out.mono ?_; rintro e w1 ⟨A1, c1, rfl, hl1, hm1, hr1, hb1⟩)
  go_loopw [5, 12] (fun s i wr => ∃ k : Nat, k ≤ zs.length ∧ i = .int .i64 k ∧ s = .int .u16 (lack (zs.take k) 3 % 65536) ∧ wr = w1) (fun _ i _ => zs.length - (intOf i).toNat)
  case atStart => exact ⟨0, Nat.zero_le _, rfl, by simp [lack], rfl⟩
  case round =>
    obtain ⟨k, hk, rfl, rfl, rfl⟩ := hrel
    have hlk := lack_bd zs 3 (by omega) Hbd.out k hk
    by_cases hlt : k < zs.length
    · obtain ⟨b1, o1, rfl, hbl1, hc1⟩ := hr1 (by omega)
      have e1 := hc1 k hlt
      have hz := Hbd.out (zs[k]?.getD 0) (by rw [List.getElem?_eq_getElem hlt]; exact List.getElem_mem _)
      have hT := lack_take zs 3 k hlt
      rw [show zs.getD k 0 = zs[k]?.getD 0 by simp [List.getD]] at e1
      generalize zs[k]?.getD 0 = z at *
      have HT := Lib.hid hT
      clear hc1 hT
      go_wp2
      go_round
      case rel => exact ⟨k + 1, by omega, by go_num, by rw [HT.out, w16_add], trivial⟩
      case measure => simp [intOf]; omega
    · obtain rfl : k = zs.length := by omega
      rw [List.take_of_length_le (Nat.le_refl _)]
      go_wp2
      go_ret
      refine ⟨?_, hb1⟩
      first | (rw [w16_mul]; rfl) | (rw [Int.mul_one]; rfl)

set_option maxHeartbeats 1600000 in
theorem check_4 (A : Option Addr) (xs : List Int) (c : Nat) (W : World) (hn : xs.length ≤ 1000000) (ho : Octets xs) (hr : Holds W W.heap.size .u8 A xs) :
    Calls Tryd.prog 87 #[.slice A xs.length c, .int .i64 4] W (Gives (.int .u16 (lack (dgs xs 4) 15 * 16 % 65536)) W) := by
  have hbd := dgs_bd xs 4 (by decide)
  have hlen := dgs_length xs 4
  have hlen2 : (dgs xs 4).length ≤ 8000000 := by rw [hlen]; omega
  have g1 := digits_as A xs (dgs xs 4) c 4 W (by unfold digs; rw [if_pos (by decide)]; rfl) hn ho hr
  generalize dgs xs 4 = zs at *
  have G1 := Lib.hid g1
  clear g1 hlen
  have Hbd : Hid (∀ z ∈ zs, 0 ≤ z ∧ z ≤ 15) := Lib.hid hbd
  clear hbd
  go_enter Tryd.func87, Tryd.ntmps87
  go_wp2_with (go_at_call 86; refine G1.out.mono ?_; rintro e w1 ⟨A1, c1, rfl, hl1, hm1, hr1, hb1⟩)
  go_loopw [5, 12] (fun s i wr => ∃ k : Nat, k ≤ zs.length ∧ i = .int .i64 k ∧ s = .int .u16 (lack (zs.take k) 15 % 65536) ∧ wr = w1) (fun _ i _ => zs.length - (intOf i).toNat)
  case atStart => exact ⟨0, Nat.zero_le _, rfl, by simp [lack], rfl⟩
  case round =>
    obtain ⟨k, hk, rfl, rfl, rfl⟩ := hrel
    have hlk := lack_bd zs 15 (by omega) Hbd.out k hk
    by_cases hlt : k < zs.length
    · obtain ⟨b1, o1, rfl, hbl1, hc1⟩ := hr1 (by omega)
      have e1 := hc1 k hlt
      have hz := Hbd.out (zs[k]?.getD 0) (by rw [List.getElem?_eq_getElem hlt]; exact List.getElem_mem _)
      have hT := lack_take zs 15 k hlt
      rw [show zs.getD k 0 = zs[k]?.getD 0 by simp [List.getD]] at e1
      generalize zs[k]?.getD 0 = z at *
      have HT := Lib.hid hT
      clear hc1 hT
      go_wp2
      go_round
      case rel => exact ⟨k + 1, by omega, by go_num, by rw [HT.out, w16_add], trivial⟩
      case measure => simp [intOf]; omega
    · obtain rfl : k = zs.length := by omega
      rw [List.take_of_length_le (Nat.le_refl _)]
      go_wp2
      go_ret
      refine ⟨?_, hb1⟩
      first | (rw [w16_mul]; rfl) | (rw [Int.mul_one]; rfl)

set_option maxHeartbeats 1600000 in
theorem check_8 (A : Option Addr) (xs : List Int) (c : Nat) (W : World) (hn : xs.length ≤ 1000000) (ho : Octets xs) (hr : Holds W W.heap.size .u8 A xs) :
    Calls Tryd.prog 87 #[.slice A xs.length c, .int .i64 8] W (Gives (.int .u16 (lack (dgs xs 8) 255 * 1 % 65536)) W) := by
  have hbd := dgs_bd xs 8 (by decide)
  have hlen := dgs_length xs 8
  have hlen2 : (dgs xs 8).length ≤ 8000000 := by rw [hlen]; omega
  have g1 := digits_as A xs (dgs xs 8) c 8 W (by unfold digs; rw [if_pos (by decide)]; rfl) hn ho hr
  generalize dgs xs 8 = zs at *
  have G1 := Lib.hid g1
  clear g1 hlen
  have Hbd : Hid (∀ z ∈ zs, 0 ≤ z ∧ z ≤ 255) := Lib.hid hbd
  clear hbd
  go_enter Tryd.func87, Tryd.ntmps87
  go_wp2_with (go_at_call 86; refine G1.out.mono ?_; rintro e w1 ⟨A1, c1, rfl, hl1, hm1, hr1, hb1⟩)
  go_loopw [5, 12] (fun s i wr => ∃ k : Nat, k ≤ zs.length ∧ i = .int .i64 k ∧ s = .int .u16 (lack (zs.take k) 255 % 65536) ∧ wr = w1) (fun _ i _ => zs.length - (intOf i).toNat)
  case atStart => exact ⟨0, Nat.zero_le _, rfl, by simp [lack], rfl⟩
  case round =>
    obtain ⟨k, hk, rfl, rfl, rfl⟩ := hrel
    have hlk := lack_bd zs 255 (by omega) Hbd.out k hk
    by_cases hlt : k < zs.length
    · obtain ⟨b1, o1, rfl, hbl1, hc1⟩ := hr1 (by omega)
      have e1 := hc1 k hlt
      have hz := Hbd.out (zs[k]?.getD 0) (by rw [List.getElem?_eq_getElem hlt]; exact List.getElem_mem _)
      have hT := lack_take zs 255 k hlt
      rw [show zs.getD k 0 = zs[k]?.getD 0 by simp [List.getD]] at e1
      generalize zs[k]?.getD 0 = z at *
      have HT := Lib.hid hT
      clear hc1 hT
      go_wp2
      go_round
      case rel => exact ⟨k + 1, by omega, by go_num, by rw [HT.out, w16_add], trivial⟩
      case measure => simp [intOf]; omega
    · obtain rfl : k = zs.length := by omega
      rw [List.take_of_length_le (Nat.le_refl _)]
      go_wp2
      go_ret
      refine ⟨?_, hb1⟩
      first | (rw [w16_mul]; rfl) | (rw [Int.mul_one]; rfl)

set_option maxHeartbeats 1600000 in
theorem plain_1 (A : Option Addr) (xs : List Int) (c : Nat) (W : World) (hn : xs.length ≤ 1000000) (ho : Octets xs) (hr : Holds W W.heap.size .u8 A xs) :
    Calls Tryd.prog 97 #[.slice A xs.length c, .int .i64 1] W (Gives (.int .i64 (lack (dgs xs 1) 1)) W) := by
  have hbd := dgs_bd xs 1 (by decide)
  have hlen := dgs_length xs 1
  have hlen2 : (dgs xs 1).length ≤ 8000000 := by rw [hlen]; omega
  have g1 := rdigits_as A xs (dgs xs 1) c 1 W (by unfold digs; rw [if_pos (by decide)]; rfl) hn ho hr
  generalize dgs xs 1 = zs at *
  have G1 := Lib.hid g1
  clear g1 hlen
  have Hbd : Hid (∀ z ∈ zs, 0 ≤ z ∧ z ≤ 1) := Lib.hid hbd
  clear hbd
  go_enter Tryd.func97, Tryd.ntmps97
  go_wp2_with fail
  refine wp_loop_rounds 2 ?_
  iterate 2 (rw [rounds_succ]; go_wp2_with (go_at_call 89; refine G1.out.mono ?_; rintro e w1 ⟨A1, c1, rfl, hl1, hm1, hr1, hb1⟩))
  go_loopw [8, 22] (fun s i wr => ∃ k : Nat, k ≤ zs.length ∧ i = .int .i64 k ∧ s = .int .i64 (lack (zs.take k) 1) ∧ wr = w1) (fun _ i _ => zs.length - (intOf i).toNat)
  case atStart => exact ⟨0, Nat.zero_le _, rfl, by simp [lack], rfl⟩
  case round =>
    obtain ⟨k, hk, rfl, rfl, rfl⟩ := hrel
    have hlk := lack_bd zs 1 (by omega) Hbd.out k hk
    by_cases hlt : k < zs.length
    · obtain ⟨b1, o1, rfl, hbl1, hc1⟩ := hr1 (by omega)
      have e1 := hc1 k hlt
      have hz := Hbd.out (zs[k]?.getD 0) (by rw [List.getElem?_eq_getElem hlt]; exact List.getElem_mem _)
      have hT := lack_take zs 1 k hlt
      rw [show zs.getD k 0 = zs[k]?.getD 0 by simp [List.getD]] at e1
      generalize zs[k]?.getD 0 = z at *
      have HT := Lib.hid hT
      clear hc1 hT
      go_wp2
      go_round
      case rel => exact ⟨k + 1, by omega, by go_num, by rw [HT.out]; congr 1; omega, trivial⟩
      case measure => simp [intOf]; omega
    · obtain rfl : k = zs.length := by omega
      rw [List.take_of_length_le (Nat.le_refl _)]
      go_wp2
      go_ret
      exact ⟨rfl, hb1⟩

theorem rcheck_1 (A : Option Addr) (xs : List Int) (c : Nat) (W : World) (hn : xs.length ≤ 1000000) (ho : Octets xs) (hr : Holds W W.heap.size .u8 A xs) :
    Calls Tryd.prog 88 #[.slice A xs.length c, .int .i64 1] W (Gives (.int .u16 (lack (dgs xs 1) 1 * 128 % 65536)) W) := by
  have g1 := plain_1 A xs c W hn ho hr
  have hlen : (dgs xs 1).length ≤ 8000000 := by rw [dgs_length]; omega
  have hlk := lack_bd (dgs xs 1) 1 (by omega) (dgs_bd xs 1 (by decide)) _ (Nat.le_refl _)
  rw [List.take_of_length_le (Nat.le_refl _)] at hlk
  have hlk2 : 0 ≤ lack (dgs xs 1) 1 ∧ lack (dgs xs 1) 1 ≤ 2040000000 := by omega
  generalize lack (dgs xs 1) 1 = L at *
  have G1 := Lib.hid g1
  clear g1 hlk hlen
  go_enter Tryd.func88, Tryd.ntmps88
  go_wp2_with (go_at_call 97; refine G1.out.mono ?_; rintro e w1 ⟨rfl, hb1⟩)
  go_ret
  refine ⟨?_, hb1⟩
  first | rfl | (rw [Int.mul_one]; rfl)

set_option maxHeartbeats 1600000 in
theorem plain_2 (A : Option Addr) (xs : List Int) (c : Nat) (W : World) (hn : xs.length ≤ 1000000) (ho : Octets xs) (hr : Holds W W.heap.size .u8 A xs) :
    Calls Tryd.prog 97 #[.slice A xs.length c, .int .i64 2] W (Gives (.int .i64 (lack (dgs xs 2) 3)) W) := by
  have hbd := dgs_bd xs 2 (by decide)
  have hlen := dgs_length xs 2
  have hlen2 : (dgs xs 2).length ≤ 8000000 := by rw [hlen]; omega
  have g1 := rdigits_as A xs (dgs xs 2) c 2 W (by unfold digs; rw [if_pos (by decide)]; rfl) hn ho hr
  generalize dgs xs 2 = zs at *
  have G1 := Lib.hid g1
  clear g1 hlen
  have Hbd : Hid (∀ z ∈ zs, 0 ≤ z ∧ z ≤ 3) := Lib.hid hbd
  clear hbd
  go_enter Tryd.func97, Tryd.ntmps97
  go_wp2_with fail
  refine wp_loop_rounds 3 ?_
  iterate 3 (rw [rounds_succ]; go_wp2_with (go_at_call 89; refine G1.out.mono ?_; rintro e w1 ⟨A1, c1, rfl, hl1, hm1, hr1, hb1⟩))
  go_loopw [8, 22] (fun s i wr => ∃ k : Nat, k ≤ zs.length ∧ i = .int .i64 k ∧ s = .int .i64 (lack (zs.take k) 3) ∧ wr = w1) (fun _ i _ => zs.length - (intOf i).toNat)
  case atStart => exact ⟨0, Nat.zero_le _, rfl, by simp [lack], rfl⟩
  case round =>
    obtain ⟨k, hk, rfl, rfl, rfl⟩ := hrel
    have hlk := lack_bd zs 3 (by omega) Hbd.out k hk
    by_cases hlt : k < zs.length
    · obtain ⟨b1, o1, rfl, hbl1, hc1⟩ := hr1 (by omega)
      have e1 := hc1 k hlt
      have hz := Hbd.out (zs[k]?.getD 0) (by rw [List.getElem?_eq_getElem hlt]; exact List.getElem_mem _)
      have hT := lack_take zs 3 k hlt
      rw [show zs.getD k 0 = zs[k]?.getD 0 by simp [List.getD]] at e1
      generalize zs[k]?.getD 0 = z at *
      have HT := Lib.hid hT
      clear hc1 hT
      go_wp2
      go_round
      case rel => exact ⟨k + 1, by omega, by go_num, by rw [HT.out]; congr 1; omega, trivial⟩
      case measure => simp [intOf]; omega
    · obtain rfl : k = zs.length := by omega
      rw [List.take_of_length_le (Nat.le_refl _)]
      go_wp2
      go_ret
      exact ⟨rfl, hb1⟩

theorem rcheck_2 (A : Option Addr) (xs : List Int) (c : Nat) (W : World) (hn : xs.length ≤ 1000000) (ho : Octets xs) (hr : Holds W W.heap.size .u8 A xs) :
    Calls Tryd.prog 88 #[.slice A xs.length c, .int .i64 2] W (Gives (.int .u16 (lack (dgs xs 2) 3 * 64 % 65536)) W) := by
  have g1 := plain_2 A xs c W hn ho hr
  have hlen : (dgs xs 2).length ≤ 8000000 := by rw [dgs_length]; omega
  have hlk := lack_bd (dgs xs 2) 3 (by omega) (dgs_bd xs 2 (by decide)) _ (Nat.le_refl _)
  rw [List.take_of_length_le (Nat.le_refl _)] at hlk
  have hlk2 : 0 ≤ lack (dgs xs 2) 3 ∧ lack (dgs xs 2) 3 ≤ 2040000000 := by omega
  generalize lack (dgs xs 2) 3 = L at *
  have G1 := Lib.hid g1
  clear g1 hlk hlen
  go_enter Tryd.func88, Tryd.ntmps88
  go_wp2_with (go_at_call 97; refine G1.out.mono ?_; rintro e w1 ⟨rfl, hb1⟩)
  go_ret
  refine ⟨?_, hb1⟩
  first | rfl | (rw [Int.mul_one]; rfl)

set_option maxHeartbeats 1600000 in
theorem plain_4 (A : Option Addr) (xs : List Int) (c : Nat) (W : World) (hn : xs.length ≤ 1000000) (ho : Octets xs) (hr : Holds W W.heap.size .u8 A xs) :
    Calls Tryd.prog 97 #[.slice A xs.length c, .int .i64 4] W (Gives (.int .i64 (lack (dgs xs 4) 15)) W) := by
  have hbd := dgs_bd xs 4 (by decide)
  have hlen := dgs_length xs 4
  have hlen2 : (dgs xs 4).length ≤ 8000000 := by rw [hlen]; omega
  have g1 := rdigits_as A xs (dgs xs 4) c 4 W (by unfold digs; rw [if_pos (by decide)]; rfl) hn ho hr
  generalize dgs xs 4 = zs at *
  have G1 := Lib.hid g1
  clear g1 hlen
  have Hbd : Hid (∀ z ∈ zs, 0 ≤ z ∧ z ≤ 15) := Lib.hid hbd
  clear hbd
  go_enter Tryd.func97, Tryd.ntmps97
  go_wp2_with fail
  refine wp_loop_rounds 5 ?_
  iterate 5 (rw [rounds_succ]; go_wp2_with (go_at_call 89; refine G1.out.mono ?_; rintro e w1 ⟨A1, c1, rfl, hl1, hm1, hr1, hb1⟩))
  go_loopw [8, 22] (fun s i wr => ∃ k : Nat, k ≤ zs.length ∧ i = .int .i64 k ∧ s = .int .i64 (lack (zs.take k) 15) ∧ wr = w1) (fun _ i _ => zs.length - (intOf i).toNat)
  case atStart => exact ⟨0, Nat.zero_le _, rfl, by simp [lack], rfl⟩
  case round =>
    obtain ⟨k, hk, rfl, rfl, rfl⟩ := hrel
    have hlk := lack_bd zs 15 (by omega) Hbd.out k hk
    by_cases hlt : k < zs.length
    · obtain ⟨b1, o1, rfl, hbl1, hc1⟩ := hr1 (by omega)
      have e1 := hc1 k hlt
      have hz := Hbd.out (zs[k]?.getD 0) (by rw [List.getElem?_eq_getElem hlt]; exact List.getElem_mem _)
      have hT := lack_take zs 15 k hlt
      rw [show zs.getD k 0 = zs[k]?.getD 0 by simp [List.getD]] at e1
      generalize zs[k]?.getD 0 = z at *
      have HT := Lib.hid hT
      clear hc1 hT
      go_wp2
      go_round
      case rel => exact ⟨k + 1, by omega, by go_num, by rw [HT.out]; congr 1; omega, trivial⟩
      case measure => simp [intOf]; omega
    · obtain rfl : k = zs.length := by omega
      rw [List.take_of_length_le (Nat.le_refl _)]
      go_wp2
      go_ret
      exact ⟨rfl, hb1⟩

theorem rcheck_4 (A : Option Addr) (xs : List Int) (c : Nat) (W : World) (hn : xs.length ≤ 1000000) (ho : Octets xs) (hr : Holds W W.heap.size .u8 A xs) :
    Calls Tryd.prog 88 #[.slice A xs.length c, .int .i64 4] W (Gives (.int .u16 (lack (dgs xs 4) 15 * 16 % 65536)) W) := by
  have g1 := plain_4 A xs c W hn ho hr
  have hlen : (dgs xs 4).length ≤ 8000000 := by rw [dgs_length]; omega
  have hlk := lack_bd (dgs xs 4) 15 (by omega) (dgs_bd xs 4 (by decide)) _ (Nat.le_refl _)
  rw [List.take_of_length_le (Nat.le_refl _)] at hlk
  have hlk2 : 0 ≤ lack (dgs xs 4) 15 ∧ lack (dgs xs 4) 15 ≤ 2040000000 := by omega
  generalize lack (dgs xs 4) 15 = L at *
  have G1 := Lib.hid g1
  clear g1 hlk hlen
  go_enter Tryd.func88, Tryd.ntmps88
  go_wp2_with (go_at_call 97; refine G1.out.mono ?_; rintro e w1 ⟨rfl, hb1⟩)
  go_ret
  refine ⟨?_, hb1⟩
  first | rfl | (rw [Int.mul_one]; rfl)

set_option maxHeartbeats 1600000 in
theorem plain_8 (A : Option Addr) (xs : List Int) (c : Nat) (W : World) (hn : xs.length ≤ 1000000) (ho : Octets xs) (hr : Holds W W.heap.size .u8 A xs) :
    Calls Tryd.prog 97 #[.slice A xs.length c, .int .i64 8] W (Gives (.int .i64 (lack (dgs xs 8) 255)) W) := by
  have hbd := dgs_bd xs 8 (by decide)
  have hlen := dgs_length xs 8
  have hlen2 : (dgs xs 8).length ≤ 8000000 := by rw [hlen]; omega
  have g1 := rdigits_as A xs (dgs xs 8) c 8 W (by unfold digs; rw [if_pos (by decide)]; rfl) hn ho hr
  generalize dgs xs 8 = zs at *
  have G1 := Lib.hid g1
  clear g1 hlen
  have Hbd : Hid (∀ z ∈ zs, 0 ≤ z ∧ z ≤ 255) := Lib.hid hbd
  clear hbd
  go_enter Tryd.func97, Tryd.ntmps97
  go_wp2_with fail
  refine wp_loop_rounds 9 ?_
  iterate 9 (rw [rounds_succ]; go_wp2_with (go_at_call 89; refine G1.out.mono ?_; rintro e w1 ⟨A1, c1, rfl, hl1, hm1, hr1, hb1⟩))
  go_loopw [8, 22] (fun s i wr => ∃ k : Nat, k ≤ zs.length ∧ i = .int .i64 k ∧ s = .int .i64 (lack (zs.take k) 255) ∧ wr = w1) (fun _ i _ => zs.length - (intOf i).toNat)
  case atStart => exact ⟨0, Nat.zero_le _, rfl, by simp [lack], rfl⟩
  case round =>
    obtain ⟨k, hk, rfl, rfl, rfl⟩ := hrel
    have hlk := lack_bd zs 255 (by omega) Hbd.out k hk
    by_cases hlt : k < zs.length
    · obtain ⟨b1, o1, rfl, hbl1, hc1⟩ := hr1 (by omega)
      have e1 := hc1 k hlt
      have hz := Hbd.out (zs[k]?.getD 0) (by rw [List.getElem?_eq_getElem hlt]; exact List.getElem_mem _)
      have hT := lack_take zs 255 k hlt
      rw [show zs.getD k 0 = zs[k]?.getD 0 by simp [List.getD]] at e1
      generalize zs[k]?.getD 0 = z at *
      have HT := Lib.hid hT
      clear hc1 hT
      go_wp2
      go_round
      case rel => exact ⟨k + 1, by omega, by go_num, by rw [HT.out]; congr 1; omega, trivial⟩
      case measure => simp [intOf]; omega
    · obtain rfl : k = zs.length := by omega
      rw [List.take_of_length_le (Nat.le_refl _)]
      go_wp2
      go_ret
      exact ⟨rfl, hb1⟩

theorem rcheck_8 (A : Option Addr) (xs : List Int) (c : Nat) (W : World) (hn : xs.length ≤ 1000000) (ho : Octets xs) (hr : Holds W W.heap.size .u8 A xs) :
    Calls Tryd.prog 88 #[.slice A xs.length c, .int .i64 8] W (Gives (.int .u16 (lack (dgs xs 8) 255 * 1 % 65536)) W) := by
  have g1 := plain_8 A xs c W hn ho hr
  have hlen : (dgs xs 8).length ≤ 8000000 := by rw [dgs_length]; omega
  have hlk := lack_bd (dgs xs 8) 255 (by omega) (dgs_bd xs 8 (by decide)) _ (Nat.le_refl _)
  rw [List.take_of_length_le (Nat.le_refl _)] at hlk
  have hlk2 : 0 ≤ lack (dgs xs 8) 255 ∧ lack (dgs xs 8) 255 ≤ 2040000000 := by omega
  generalize lack (dgs xs 8) 255 = L at *
  have G1 := Lib.hid g1
  clear g1 hlk hlen
  go_enter Tryd.func88, Tryd.ntmps88
  go_wp2_with (go_at_call 97; refine G1.out.mono ?_; rintro e w1 ⟨rfl, hb1⟩)
  go_ret
  refine ⟨?_, hb1⟩
  first | rfl | (rw [Int.mul_one]; rfl)

/-- The check for whatever width. -/
def chk (xs : List Int) (w : Int) : Int :=
  if w = 1 then lack (dgs xs 1) 1 * 128 % 65536 else if w = 2 then lack (dgs xs 2) 3 * 64 % 65536 else if w = 4 then lack (dgs xs 4) 15 * 16 % 65536 else if w = 8 then lack (dgs xs 8) 255 * 1 % 65536 else 0

theorem check_as (A : Option Addr) (xs : List Int) (c : Nat) (w : Int) (W : World) (hn : xs.length ≤ 1000000) (ho : Octets xs) (hr : Holds W W.heap.size .u8 A xs) :
    Calls Tryd.prog 87 #[.slice A xs.length c, .int .i64 w] W (Gives (.int .u16 (chk xs w)) W) := by
  by_cases h : w = 1 ∨ w = 2 ∨ w = 4 ∨ w = 8
  · rcases h with rfl | rfl | rfl | rfl
    · exact check_1 A xs c W hn ho hr
    · exact check_2 A xs c W hn ho hr
    · exact check_4 A xs c W hn ho hr
    · exact check_8 A xs c W hn ho hr
  · have e : chk xs w = 0 := by unfold chk; rw [if_neg (by omega), if_neg (by omega), if_neg (by omega), if_neg (by omega)]
    rw [e]
    exact check_no A xs c w W h

theorem rcheck_as (A : Option Addr) (xs : List Int) (c : Nat) (w : Int) (W : World) (hn : xs.length ≤ 1000000) (ho : Octets xs) (hr : Holds W W.heap.size .u8 A xs) :
    Calls Tryd.prog 88 #[.slice A xs.length c, .int .i64 w] W (Gives (.int .u16 (chk xs w)) W) := by
  by_cases h : w = 1 ∨ w = 2 ∨ w = 4 ∨ w = 8
  · rcases h with rfl | rfl | rfl | rfl
    · exact rcheck_1 A xs c W hn ho hr
    · exact rcheck_2 A xs c W hn ho hr
    · exact rcheck_4 A xs c W hn ho hr
    · exact rcheck_8 A xs c W hn ho hr
  · have e : chk xs w = 0 := by unfold chk; rw [if_neg (by omega), if_neg (by omega), if_neg (by omega), if_neg (by omega)]
    rw [e]
    exact rcheck_no A xs c w W h
end Go.Proofs.YtdfgdchmeikigaaDoor.Oct
