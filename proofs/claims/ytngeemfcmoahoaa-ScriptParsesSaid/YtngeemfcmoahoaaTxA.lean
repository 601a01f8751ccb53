/-
  Layer 30, script.Hex: a contract. Conditions: as each theorem names.
-/
import Derived.Test.YtngeemfcmoahoaaTxS
import Derived.LoopTactic
import Derived.Deep.LoopGhost
import Derived.Lib.Hide
import Derived.Outline
namespace Go.Proofs.Ytngeemfcmoahoaa.Tx
open Go.ChangeShapes Go.WideShapes Go.ChangeAt Go.RowKit Go.Proofs.Ytngeemfcmoahoaa.Kit

theorem isB_new (w : World) : IsB w.heap.size w.heap.size [] (w.alloc (.cells #[.pointer none, .slice none 0 0] 44)) :=
  .inl ⟨Nat.le_refl _, .slice none 0 0, Block.new w 44 #[.pointer none, .slice none 0 0], World.ownsRow_nil _ _ _ 1, by simp [Value.ownBlock]⟩

theorem digits_size : (⟨#[48, 49, 50, 51, 52, 53, 54, 55, 56, 57, 97, 98, 99, 100, 101, 102]⟩ : ByteArray).size = 16 := by decide
theorem dig_at' : ∀ p : Fin 16, (((⟨#[48, 49, 50, 51, 52, 53, 54, 55, 56, 57, 97, 98, 99, 100, 101, 102]⟩ : ByteArray)[p.val]'(by rw [digits_size]; exact p.isLt)).toNat : Int) = dig p.val := by decide +kernel
theorem dig_at {n : Int} (h0 : 0 ≤ n) (h : n.toNat < (⟨#[48, 49, 50, 51, 52, 53, 54, 55, 56, 57, 97, 98, 99, 100, 101, 102]⟩ : ByteArray).size) : (((⟨#[48, 49, 50, 51, 52, 53, 54, 55, 56, 57, 97, 98, 99, 100, 101, 102]⟩ : ByteArray)[n.toNat]'h).toNat : Int) = dig n := by
  rw [digits_size] at h
  have := dig_at' ⟨n.toNat, h⟩
  rw [this]
  congr 1
  show ((n.toNat : Nat) : Int) = n
  omega

set_option maxRecDepth 100000 in
set_option maxHeartbeats 6400000 in
theorem hex_any (A : Option Addr) (xs : List Int) (c : Nat) (w : World) (hl : xs.length ≤ 100000) (ho : Octets xs) (hr : Holds w w.heap.size .u8 A xs) :
    Calls Try.prog 6 #[.slice A xs.length c] w fun e w' => e = .returned (.string (strOfNums (hexL xs))) ∧ Below w.heap.size w w' := by
  by_cases h0 : xs.length = 0
  · obtain rfl : xs = [] := List.eq_nil_of_length_eq_zero h0
    go_enter Try.func6, Try.ntmps6
    go_wp2
    go_ret
    exact ⟨rfl, Below.refl _ _⟩
  have d0 : ((xs.length : Int) == 0) = false := by rw [beq_eq_false_iff_ne]; omega
  have d1 : (xs.length == 0) = false := by rw [beq_eq_false_iff_ne]; omega
  have HN := Lib.hid (isB_new w)
  have HB0 := Lib.hid ((Below.refl w.heap.size w).alloc (Nat.le_refl _) (.cells #[.pointer none, .slice none 0 0] 44))
  have HR := Lib.hid hr
  have HO := Lib.hid ho
  clear hr ho
  go_enter Try.func6, Try.ntmps6
  go_wp2_with fail
  go_loopw [11] (fun s wr => ∃ j : Nat, j ≤ xs.length ∧ s = .int .i64 j ∧ IsB w.heap.size w.heap.size ((xs.take j).flatMap twoD) wr ∧ Below w.heap.size w wr) (fun s _ => xs.length - (intOf s).toNat)
  case atStart => exact ⟨0, Nat.zero_le _, rfl, HN.out, HB0.out⟩
  case round =>
    obtain ⟨j, hj, rfl, hib, hB⟩ := hrel
    have HIB := Lib.hid hib
    have HB := Lib.hid hB
    have hsz := hB.size
    clear hib hB
    by_cases hlt : j < xs.length
    · have dj : decide ((j : Int) < (xs.length : Int)) = true := decide_eq_true (by omega)
      have dj2 : decide (j < xs.length) = true := decide_eq_true hlt
      obtain ⟨b, off, rfl, hb, hc⟩ := (HR.out.below HB.out) (by omega)
      have cx := hc j hlt
      have hx := HO.out (xs.getD j 0) (by rw [List.getD_eq_getElem?_getD, List.getElem?_eq_getElem hlt]; exact List.getElem_mem hlt)
      have HT := Lib.hid (show (xs.take (j + 1)).flatMap twoD = (xs.take j).flatMap twoD ++ [dig (xs.getD j 0 / 16)] ++ [dig (xs.getD j 0 % 16)] by
        rw [List.take_succ_eq_append_getElem hlt, List.flatMap_append, List.getD_eq_getElem?_getD, List.getElem?_eq_getElem hlt]
        simp [twoD])
      have hlen : ((xs.take j).flatMap twoD).length ≤ 200000 := by rw [flat_length, List.length_take]; omega
      clear hc
      generalize xs.getD j 0 = x at *
      go_wp2_with fail
      refine (writeByte_any _ _ _ _ _ HIB.out (by omega) hsz).mono ?_
      rintro e w3 ⟨rfl, hib3, hb3⟩
      rw [dig_at (by omega)] at hib3
      have HIB3 := Lib.hid hib3
      have HB3 := Lib.hid (HB.out.trans hb3)
      clear hib3 hb3
      go_wp2_with fail
      refine (writeByte_any _ _ _ _ _ HIB3.out (by rw [List.length_append]; simp only [List.length_cons, List.length_nil]; omega) HB3.out.size).mono ?_
      rintro e w4 ⟨rfl, hib4, hb4⟩
      rw [dig_at (by omega), ← HT.out] at hib4
      have HIB4 := Lib.hid hib4
      have HB4 := Lib.hid (HB3.out.trans hb4)
      clear hib4 hb4
      go_wp2_with fail
      go_roundw
      case rel => exact ⟨j + 1, hlt, by go_num, HIB4.out, HB4.out⟩
      case measure => simp [intOf] <;> omega
    · obtain rfl : j = xs.length := by omega
      have dj : decide ((xs.length : Int) < (xs.length : Int)) = false := decide_eq_false (by omega)
      have dj2 : decide (xs.length < xs.length) = false := decide_eq_false (by omega)
      have hxe : ¬ xs = [] := by intro he; rw [he] at h0; exact h0 rfl
      have HE := Lib.hid (show (xs.take xs.length).flatMap twoD = hexL xs by unfold hexL; rw [if_neg hxe, List.take_length])
      have GS := Lib.hid (string_any _ _ _ wr (flat_octets (fun x hx => HO.out x (List.mem_of_mem_take hx))) HIB.out hsz)
      rw [HE.out] at GS
      go_wp2_with (go_at_call 14; refine GS.out.mono ?_; rintro e w5 ⟨rfl, hb5⟩)
      go_ret
      exact ⟨rfl, HB.out.trans hb5⟩
end Go.Proofs.Ytngeemfcmoahoaa.Tx
